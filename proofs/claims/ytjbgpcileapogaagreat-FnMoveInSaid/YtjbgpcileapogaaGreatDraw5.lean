/-
  What draws: l71Part draws operations that leave as many values as there were.
-/
import Derived.Test.YtjbgpcileapogaaGreatDraw4
namespace Go.Proofs.YtjbgpcileapogaaGreat
open Go.RowKit
theorem Ky {w0 w:World} {b:Nat} {a:Option Addr} {len zp p0 p:Nat} (h0:Rd w0 b a len zp p0) (hg:w0.grownBy w (some b)) (hr:Rd w b a len zp p) (t:Int) (hp:p+2<=1000000) (h1:1<=t) (h2:t<=4) :
 Calls Tryz.prog 187 #[.pointer (some ⟨b,0,none⟩),.int .i64 t] w fun e w'=>∃(k q:Int) (p':Nat),e=.returned (.agg #[.int .i64 k,.int .i64 q])/\p<=p'/\p'<=p+2/\Rd w' b a len zp p'/\w0.grownBy w' (some b)/\(∀v L,yh w0.heap.size w v L->yh w0.heap.size w' v L)/\Hid (∀nm,Fit nm t (k,q)):=by
 have hb:b<w0.heap.size:=World.block_lt_of_cell? _ _ h0.s
 refine(WN _ _ _ _ _ _ _ hr hp h1 h2).mono ?_
 rintro e w' ⟨k,q,p',rfl,h3,h4,hrd,hgr,hf⟩
 exact⟨k,q,p',rfl,h3,h4,hrd,zK hg hgr,fun v L h=>h.kept hgr (fun g e k=>by cases e;have:=h.lt _ k;omega),hf⟩
set_option maxRecDepth 100000 in
set_option maxHeartbeats 2000000 in
theorem UA (w:World) (b:Nat) (a:Option Addr) (len zp p:Nat) (ga c:Nat) (xs:List Int) (t:Int) (hr:Rd w b a len zp p) (hp:p+10<=1000000) (hxs:∀i,(hi:i<xs.length)->w.cell? ⟨ga,i,none⟩=some (.int .i64 xs[i])/\0<=xs[i]/\xs[i]<=2) (hga:ga≠b)
 (hl1:1<=xs.length) (hl4:xs.length<=4) (ht1:1<=t) (X7:t<=4) :
 Calls Tryz.prog 175 #[.pointer (some ⟨b,0,none⟩),.slice (some ⟨ga,0,none⟩) xs.length c,.int .i64 t] w fun e w'=>∃v ops p',e=.returned v/\yh w.heap.size w' v ops/\ops.length<=4/\1<=ops.length/\p<=p'/\p'<=p+10/\Rd w' b a len zp p'/\w.grownBy w' (some b)/\Fits xs.length t ops:=by
 go_enter Tryz.func175,Tryz.ntmps175
 go_wp2_with fail
 refine(qx hr (vD _ _) hr _ (by omega) (by omega) (by omega)).mono ?_
 rintro e w1 ⟨x,rfl,hx0,hx1,xe,xK,_⟩
 by_cases hx_0:x=0
 ·subst hx_0
  go_wp2_with fail
  refine(qx hr xK xe _ (by omega) (by omega) (by omega)).mono ?_
  rintro e w2 ⟨u,rfl,hu0,hu1,qY,qZ,_⟩
  clear xe xK
  go_wp2_with fail
  refine(vL hr qY qZ [1,u] _ _ _ rfl (by simp)).mono ?_
  rintro e w3 ⟨v3,ui,rfl,hrow3,hl3,Xc,xu,qK,Ym⟩
  have HF:Hid (Fits xs.length t ui):=by rw[Ym];exact .one (ZO hu0 (by omega))
  clear Ym
  simp only[List.length_cons,List.length_nil] at hl3 Xc
  have Vn:=qK.size
  clear qY qZ
  go_wp2_with fail
  refine(Ky hr qK xu _ (by omega) ht1 X7).mono ?_
  rintro e w4 ⟨k4,q4,p4,rfl,hp4,hp4',qQ,xq,hkp,hft⟩
  have hrow4:=hkp _ _ hrow3
  have WI:=xq.size
  clear hkp hrow3 xu qK
  go_wp2_with (at_builtin;refine yj _ (by rfl) _ _ (by rfl) _ _ ui (by rfl) hrow4 _ _ _ (by rfl) (by omega) (by omega) ?_;intro g5 cp5 w5 yo hg5 hBg5 zbT)
  obtain⟨qH,hgr5⟩:=yc hr qQ xq hrow4 hg5
  have hsz5:=hgr5.size
  clear hg5 hrow4 qQ xq
  go_wp2
  go_ret
  exact⟨_,_,_,rfl,yo,by(try simp);omega,by first | omega | simp,by omega,by omega,qH,hgr5,HF.out.snoc (hft.out _)⟩
 have ex0:(x == 0)=false:=zG.2 hx_0
 by_cases hx_1:x=1
 ·subst hx_1
  go_wp2_with fail
  refine(qx hr xK xe _ (by omega) (by omega) (by omega)).mono ?_
  rintro e w2 ⟨u,rfl,hu0,hu1,qY,qZ,_⟩
  clear xe xK
  obtain⟨n,rfl⟩:=Int.eq_ofNat_of_zero_le hu0
  have hn:n<xs.length:=by omega
  obtain⟨c0,x0,x1⟩:=hxs n hn
  have c2:=qZ.cell c0 (by simp;exact hga)
  have hnz:(n:Int)<xs.length:=by omega
  have hsz2:=qZ.size
  generalize xs[n]=y at x0 x1 c2
  clear c0
  go_wp2_with fail
  refine(Zu _ _ _ _ _ _ _ _ qY (by omega) x0 x1 ht1 X7).mono ?_
  rintro e w3 ⟨v3,ui,p3,rfl,ve,hl3,hp3,hp3',xu,hg3,hfA⟩
  have HF:Hid (Fits xs.length t ui):=hfA _
  clear hfA
  have qK:=zK qZ hg3
  have hrow3:=ve.mono hsz2
  have Vn:=qK.size
  have hl3':ui.length<=2:=by omega
  clear qY qZ hg3 ve c2 hl3
  go_wp2_with (at_builtin;refine yj _ (by rfl) _ _ (by rfl) _ _ ui (by rfl) hrow3 _ _ _ (by rfl) (by omega) (by omega) ?_;intro g4 cp4 w4 hrow4 hg4 hBg4 zdq)
  obtain⟨qQ,xq⟩:=yc hr xu qK hrow3 hg4
  have WI:=xq.size
  clear hg4 hrow3 xu qK
  go_wp2_with fail
  refine(Ky hr xq qQ _ (by omega) ht1 X7).mono ?_
  rintro e w5 ⟨k5,q5,p5,rfl,hp5,hp5',qH,hgr5,hkp,hft⟩
  have yo:=hkp _ _ hrow4
  have hsz5:=hgr5.size
  clear hkp hrow4 qQ xq
  go_wp2_with (at_builtin;refine yj _ (by rfl) _ _ (by rfl) _ _ (ui ++ [(9,(n:Int))]) (by rfl) yo _ _ _ (by rfl) (by simp;omega) (by omega) ?_;intro g6 cp6 w6 yD jf hBg6 zdr)
  obtain⟨xQ,xt⟩:=yc hr qH hgr5 yo jf
  simp only[List.length_append,List.length_cons,List.length_nil,Nat.zero_add] at yD
  have hsz6:=xt.size
  clear jf yo qH hgr5
  go_wp2
  go_ret
  exact⟨_,_,_,rfl,yD,by(try simp);omega,by first | omega | simp,by omega,by omega,xQ,xt,(HF.out.snoc (Jp (by omega) (by omega))).snoc (hft.out _)⟩
 have ex1:(x == 1)=false:=zG.2 hx_1
 by_cases hx_2:x=2
 ·subst hx_2
  go_wp2_with fail
  refine(qx hr xK xe _ (by omega) (by omega) (by omega)).mono ?_
  rintro e w2 ⟨u,rfl,hu0,hu1,qY,qZ,_⟩
  clear xe xK
  obtain⟨n,rfl⟩:=Int.eq_ofNat_of_zero_le hu0
  have hn:n<xs.length:=by omega
  obtain⟨c0,x0,x1⟩:=hxs n hn
  have c2:=qZ.cell c0 (by simp;exact hga)
  have hnz:(n:Int)<xs.length:=by omega
  have hsz2:=qZ.size
  generalize xs[n]=y at x0 x1 c2
  clear c0
  go_wp2_with fail
  refine(Zu _ _ _ _ _ _ _ _ qY (by omega) x0 x1 ht1 X7).mono ?_
  rintro e w3 ⟨v3,ui,p3,rfl,ve,hl3,hp3,hp3',xu,hg3,hfA⟩
  have HF:Hid (Fits xs.length t ui):=hfA _
  clear hfA
  have qK:=zK qZ hg3
  have hrow3:=ve.mono hsz2
  have Vn:=qK.size
  have hl3':ui.length<=2:=by omega
  clear qY qZ hg3 ve c2 hl3
  go_wp2_with (at_builtin;refine yj _ (by rfl) _ _ (by rfl) _ _ ui (by rfl) hrow3 _ _ _ (by rfl) (by omega) (by omega) ?_;intro g4 cp4 w4 hrow4 hg4 hBg4 zdq)
  obtain⟨qQ,xq⟩:=yc hr xu qK hrow3 hg4
  have WI:=xq.size
  clear hg4 hrow3 xu qK
  go_wp2_with fail
  refine(Ky hr xq qQ _ (by omega) ht1 X7).mono ?_
  rintro e w5 ⟨k5,q5,p5,rfl,hp5,hp5',qH,hgr5,hkp,hft⟩
  have yo:=hkp _ _ hrow4
  have hsz5:=hgr5.size
  clear hkp hrow4 qQ xq
  go_wp2_with (at_builtin;refine yj _ (by rfl) _ _ (by rfl) _ _ (ui ++ [(9,(n:Int))]) (by rfl) yo _ _ _ (by rfl) (by simp;omega) (by omega) ?_;intro g6 cp6 w6 yD jf hBg6 zdr)
  obtain⟨xQ,xt⟩:=yc hr qH hgr5 yo jf
  simp only[List.length_append,List.length_cons,List.length_nil,Nat.zero_add] at yD
  have hsz6:=xt.size
  clear jf yo qH hgr5
  go_wp2
  go_ret
  exact⟨_,_,_,rfl,yD,by(try simp);omega,by first | omega | simp,by omega,by omega,xQ,xt,(HF.out.snoc (Jp (by omega) (by omega))).snoc (hft.out _)⟩
 have ex2:(x == 2)=false:=zG.2 hx_2
 by_cases hx_3:x=3
 ·subst hx_3
  go_wp2_with fail
  refine(qx hr xK xe _ (by omega) (by omega) (by omega)).mono ?_
  rintro e w2 ⟨u,rfl,hu0,hu1,qY,qZ,_⟩
  clear xe xK
  obtain⟨n,rfl⟩:=Int.eq_ofNat_of_zero_le hu0
  have hn:n<xs.length:=by omega
  obtain⟨c0,x0,x1⟩:=hxs n hn
  have c2:=qZ.cell c0 (by simp;exact hga)
  have hnz:(n:Int)<xs.length:=by omega
  have hsz2:=qZ.size
  generalize xs[n]=y at x0 x1 c2
  clear c0
  go_wp2_with fail
  refine(Zu _ _ _ _ _ _ _ _ qY (by omega) x0 x1 ht1 X7).mono ?_
  rintro e w3 ⟨v3,ui,p3,rfl,ve,hl3,hp3,hp3',xu,hg3,hfA⟩
  have HF:Hid (Fits xs.length t ui):=hfA _
  clear hfA
  have qK:=zK qZ hg3
  have hrow3:=ve.mono hsz2
  have Vn:=qK.size
  have hl3':ui.length<=2:=by omega
  clear qY qZ hg3 ve c2 hl3
  go_wp2_with (at_builtin;refine yj _ (by rfl) _ _ (by rfl) _ _ ui (by rfl) hrow3 _ _ _ (by rfl) (by omega) (by omega) ?_;intro g4 cp4 w4 hrow4 hg4 hBg4 zdq)
  obtain⟨qQ,xq⟩:=yc hr xu qK hrow3 hg4
  have WI:=xq.size
  clear hg4 hrow3 xu qK
  go_wp2_with fail
  refine(Ky hr xq qQ _ (by omega) ht1 X7).mono ?_
  rintro e w5 ⟨k5,q5,p5,rfl,hp5,hp5',qH,hgr5,hkp,hft⟩
  have yo:=hkp _ _ hrow4
  have hsz5:=hgr5.size
  clear hkp hrow4 qQ xq
  go_wp2_with (at_builtin;refine yj _ (by rfl) _ _ (by rfl) _ _ (ui ++ [(9,(n:Int))]) (by rfl) yo _ _ _ (by rfl) (by simp;omega) (by omega) ?_;intro g6 cp6 w6 yD jf hBg6 zdr)
  obtain⟨xQ,xt⟩:=yc hr qH hgr5 yo jf
  simp only[List.length_append,List.length_cons,List.length_nil,Nat.zero_add] at yD
  have hsz6:=xt.size
  clear jf yo qH hgr5
  go_wp2
  go_ret
  exact⟨_,_,_,rfl,yD,by(try simp);omega,by first | omega | simp,by omega,by omega,xQ,xt,(HF.out.snoc (Jp (by omega) (by omega))).snoc (hft.out _)⟩
 have ex3:(x == 3)=false:=zG.2 hx_3
 by_cases hx_4:x=4
 ·subst hx_4
  go_wp2_with fail
  have hsz1:=xK.size
  refine(Xj _ _ _ _ _ _ _ xe (by omega) ht1 X7).mono ?_
  rintro e w3 ⟨v3,ui,p3,rfl,ve,hl3,Xc,hp3,hp3',xu,hg3,hfA⟩
  have HF:Hid (Fits xs.length t ui):=hfA _
  clear hfA
  have qK:=zK xK hg3
  have hrow3:=ve.mono hsz1
  have Vn:=qK.size
  clear xe xK hg3 ve
  go_wp2_with fail
  refine(Ky hr qK xu _ (by omega) ht1 X7).mono ?_
  rintro e w4 ⟨k4,q4,p4,rfl,hp4,hp4',qQ,xq,hkp,hft⟩
  have hrow4:=hkp _ _ hrow3
  have WI:=xq.size
  clear hkp hrow3 xu qK
  go_wp2_with (at_builtin;refine yj _ (by rfl) _ _ (by rfl) _ _ ui (by rfl) hrow4 _ _ _ (by rfl) (by omega) (by omega) ?_;intro g5 cp5 w5 yo hg5 hBg5 zbT)
  obtain⟨qH,hgr5⟩:=yc hr qQ xq hrow4 hg5
  have hsz5:=hgr5.size
  clear hg5 hrow4 qQ xq
  go_wp2
  go_ret
  exact⟨_,_,_,rfl,yo,by(try simp);omega,by first | omega | simp,by omega,by omega,qH,hgr5,HF.out.snoc (hft.out _)⟩
 have ex4:(x == 4)=false:=zG.2 hx_4
 by_cases hx_5:x=5
 ·subst hx_5
  go_wp2_with fail
  have hsz1:=xK.size
  refine(Xj _ _ _ _ _ _ _ xe (by omega) ht1 X7).mono ?_
  rintro e w3 ⟨v3,ui,p3,rfl,ve,hl3,Xc,hp3,hp3',xu,hg3,hfA⟩
  have HF:Hid (Fits xs.length t ui):=hfA _
  clear hfA
  have qK:=zK xK hg3
  have hrow3:=ve.mono hsz1
  have Vn:=qK.size
  clear xe xK hg3 ve
  go_wp2_with fail
  refine(Ky hr qK xu _ (by omega) ht1 X7).mono ?_
  rintro e w4 ⟨k4,q4,p4,rfl,hp4,hp4',qQ,xq,hkp,hft⟩
  have hrow4:=hkp _ _ hrow3
  have WI:=xq.size
  clear hkp hrow3 xu qK
  go_wp2_with (at_builtin;refine yj _ (by rfl) _ _ (by rfl) _ _ ui (by rfl) hrow4 _ _ _ (by rfl) (by omega) (by omega) ?_;intro g5 cp5 w5 yo hg5 hBg5 zbT)
  obtain⟨qH,hgr5⟩:=yc hr qQ xq hrow4 hg5
  have hsz5:=hgr5.size
  clear hg5 hrow4 qQ xq
  go_wp2
  go_ret
  exact⟨_,_,_,rfl,yo,by(try simp);omega,by first | omega | simp,by omega,by omega,qH,hgr5,HF.out.snoc (hft.out _)⟩
 have ex5:(x == 5)=false:=zG.2 hx_5
 by_cases hx_6:x=6
 ·subst hx_6
  go_wp2_with fail
  refine(qx hr xK xe _ (by omega) (by omega) (by omega)).mono ?_
  rintro e w2 ⟨u,rfl,hu0,hu1,qY,qZ,_⟩
  clear xe xK
  go_wp2_with fail
  refine(vL hr qY qZ [11,0,3,u] _ _ _ rfl (by simp)).mono ?_
  rintro e w3 ⟨v3,ui,rfl,hrow3,hl3,Xc,xu,qK,Ym⟩
  have HF:Hid (Fits xs.length t ui):=by rw[Ym];exact Fits.append (.one Zi) (.one (zaA hu0 hu1))
  clear Ym
  simp only[List.length_cons,List.length_nil] at hl3 Xc
  have Vn:=qK.size
  clear qY qZ
  go_wp2
  go_ret
  exact⟨_,_,_,rfl,hrow3,by(try simp);omega,by first | omega | simp,by omega,by omega,xu,qK,HF.out⟩
 have ex6:(x == 6)=false:=zG.2 hx_6
 by_cases hx_7:x=7
 ·subst hx_7
  go_wp2_with fail
  refine(qx hr xK xe _ (by omega) (by omega) (by omega)).mono ?_
  rintro e w2 ⟨u,rfl,hu0,hu1,qY,qZ,_⟩
  clear xe xK
  by_cases hu:u=0
  ·subst hu
   go_wp2_with fail
   refine(qx hr qZ qY _ (by omega) (by omega) (by omega)).mono ?_
   rintro e w3 ⟨y,rfl,hy0,hy1,xu,qK,_⟩
   clear qY qZ
   go_wp2_with fail
   refine(qx hr qK xu _ (by omega) (by omega) (by omega)).mono ?_
   rintro e w4 ⟨z,rfl,hz0,hz1,qQ,xq,_⟩
   clear xu qK
   go_wp2_with fail
   refine(vL hr qQ xq [11,0,12,0,1,y,14,z] _ _ _ rfl (by simp)).mono ?_
   rintro e w5 ⟨v5,ops5,rfl,yo,hl5,hm5,qH,hgr5,Ym⟩
   have HF:Hid (Fits xs.length t ops5):=by rw[Ym];exact Fits.append (.one Zi) (Fits.append (.one Yh) (Fits.append (.one (ZO hy0 (by omega))) (.one (zbL hz0 hz1))))
   clear Ym
   simp only[List.length_cons,List.length_nil] at hl5 hm5
   have hsz5:=hgr5.size
   clear qQ xq
   go_wp2
   go_ret
   exact⟨_,_,_,rfl,yo,by(try simp);omega,by first | omega | simp,by omega,by omega,qH,hgr5,HF.out⟩
  have eu:(u == 0)=false:=zG.2 hu
  go_wp2_with fail
  refine(qx hr qZ qY _ (by omega) (by omega) (by omega)).mono ?_
  rintro e w3 ⟨y,rfl,hy0,hy1,xu,qK,_⟩
  clear qY qZ
  go_wp2_with fail
  refine(qx hr qK xu _ (by omega) (by omega) (by omega)).mono ?_
  rintro e w4 ⟨z,rfl,hz0,hz1,qQ,xq,_⟩
  clear xu qK
  go_wp2_with fail
  refine(vL hr qQ xq [2,y,2,z,6,0,16,0] _ _ _ rfl (by simp)).mono ?_
  rintro e w5 ⟨v5,ops5,rfl,yo,hl5,hm5,qH,hgr5,Ym⟩
  have HF:Hid (Fits xs.length t ops5):=by rw[Ym];exact Fits.append (.one (vV hy0 hy1)) (Fits.append (.one (vV hz0 hz1)) (Fits.append (.one fit_6) (.one Ve)))
  clear Ym
  simp only[List.length_cons,List.length_nil] at hl5 hm5
  have hsz5:=hgr5.size
  clear qQ xq
  go_wp2
  go_ret
  exact⟨_,_,_,rfl,yo,by(try simp);omega,by first | omega | simp,by omega,by omega,qH,hgr5,HF.out⟩
 have ex7:(x == 7)=false:=zG.2 hx_7
 by_cases hx_8:x=8
 ·subst hx_8
  go_wp2_with fail
  refine(qx hr xK xe _ (by omega) (by omega) (by omega)).mono ?_
  rintro e w2 ⟨y,rfl,hy0,hy1,qY,qZ,_⟩
  clear xe xK
  go_wp2_with fail
  refine(qx hr qZ qY _ (by omega) (by omega) (by omega)).mono ?_
  rintro e w3 ⟨z,rfl,hz0,hz1,xu,qK,_⟩
  clear qY qZ
  go_wp2_with fail
  refine(vL hr xu qK [2,y,1,z,15,0] _ _ _ rfl (by simp)).mono ?_
  rintro e w4 ⟨v4,uj,rfl,hrow4,hl4,Ur,qQ,xq,Ym⟩
  have HF:Hid (Fits xs.length t uj):=by rw[Ym];exact Fits.append (.one (vV hy0 hy1)) (Fits.append (.one (ZO hz0 (by omega))) (.one zdI))
  clear Ym
  simp only[List.length_cons,List.length_nil] at hl4 Ur
  have WI:=xq.size
  clear xu qK
  go_wp2_with (at_builtin;refine yj _ (by rfl) _ _ (by rfl) _ _ uj (by rfl) hrow4 _ _ _ (by rfl) (by omega) (by omega) ?_;intro g5 cp5 w5 yo hg5 hBg5 zbT)
  obtain⟨qH,hgr5⟩:=yc hr qQ xq hrow4 hg5
  have hsz5:=hgr5.size
  clear hg5 hrow4 qQ xq
  go_wp2
  go_ret
  exact⟨_,_,_,rfl,yo,by(try simp);omega,by first | omega | simp,by omega,by omega,qH,hgr5,HF.out.snoc zdl⟩
 have ex8:(x == 8)=false:=zG.2 hx_8
 go_wp2_with fail
 refine(qx hr xK xe _ (by omega) (by omega) (by omega)).mono ?_
 rintro e w2 ⟨y,rfl,hy0,hy1,qY,qZ,_⟩
 clear xe xK
 go_wp2_with fail
 refine(qx hr qZ qY _ (by omega) (by omega) (by omega)).mono ?_
 rintro e w3 ⟨z,rfl,hz0,hz1,xu,qK,_⟩
 clear qY qZ
 go_wp2_with fail
 refine(vL hr xu qK [1,y,1,z,5,0,16,0] _ _ _ rfl (by simp)).mono ?_
 rintro e w4 ⟨v4,uj,rfl,hrow4,hl4,Ur,qQ,xq,Ym⟩
 have HF:Hid (Fits xs.length t uj):=by rw[Ym];exact Fits.append (.one (ZO hy0 (by omega))) (Fits.append (.one (ZO hz0 (by omega))) (Fits.append (.one fit_5) (.one Ve)))
 clear Ym
 simp only[List.length_cons,List.length_nil] at hl4 Ur
 have WI:=xq.size
 clear xu qK
 go_wp2
 go_ret
 exact⟨_,_,_,rfl,hrow4,by(try simp);omega,by first | omega | simp,by omega,by omega,qQ,xq,HF.out⟩
theorem Yz {w:World} {g:Nat} {t:TypeId} {n:Nat} {f:Nat->Value} {B:Nat} {v:Value} {L:zL} (hr:w.rowIs g t n f) (h:yh B w v L) (ht:t≠33):v.ownBlock≠some g:=by
 intro e
 obtain⟨c,hc,_⟩:=hr
 obtain⟨_,h2⟩:=h
 rcases h2 with⟨rfl,_⟩ | ⟨g',zp,cur,rfl,_,hh,_⟩
 ·cases e
 ·simp[Value.ownBlock] at e
  subst e
  rw[hc] at hh
  simp at hh
  exact ht hh.2
theorem yq {w w':World} {g:Nat} {t:TypeId} {n:Nat} {f:Nat->Value} {row:Option Nat} (hr:w.rowIs g t n f) (k:w.grownBy w' row) (hne:some g≠row):w'.rowIs g t n f:=hr.of_block (k.block g hr.lt hne)
theorem Rd.heap {w w':World} {b:Nat} {a:Option Addr} {len zp p:Nat} (h:Rd w b a len zp p) (e:w'.heap=w.heap):Rd w' b a len zp p:=by
 have hc:∀q,w'.cell? q=w.cell? q:=fun q=>by simp[World.cell?,e]
 have hf:∀q,w'.frozen? q=w.frozen? q:=fun q=>by simp[World.frozen?,e]
 exact⟨by rw[hc];exact h.s,by rw[hc];exact h.p,by rw[hf];exact h.f,h.l,fun i hi=>by
  obtain⟨b',o,x,h1,h2,h3,h4⟩:=h.c i hi
  exact⟨b',o,x,h1,h2,by rw[hc];exact h3,h4⟩⟩
theorem Rd.alloc {w:World} {b:Nat} {a:Option Addr} {len zp p:Nat} (h:Rd w b a len zp p) (o:Obj):Rd (w.alloc o) b a len zp p:=Rd.kept h h zD (World.grownBy_alloc w o none) (fun g e=>by cases e)
def V8 (A T:Int) (v:Value):Nat->Value:=fun i=>if i=0 then .int .i64 A else if i=1 then .int .i64 T else v
theorem X0 (w:World) (A T:Int) (v:Value):(w.alloc (.cells #[.int .i64 A,.int .i64 T,v] 48)).rowIs w.heap.size 48 3 (V8 A T v) :=
 ⟨_,Go.Deep.blk_alloc_new _ _,rfl,fun i hi=>by match i,hi with | 0,_=>rfl | 1,_=>rfl | 2,_=>rfl⟩
structure MS (w0 w:World) (b:Nat) (a:Option Addr) (len zp p g:Nat) (A T:Int) (v:Value) (L:zL):Prop where
 rd:Rd w b a len zp p
 gr:w0.grownBy w (some b)
 box:w.rowIs g 48 3 (V8 A T v)
 own:w0.heap.size<g
 row:yh w0.heap.size w v L
 res:w.rowIs w0.heap.size 48 3 (V8 0 0 (.slice none 0 0))
 r0:∃p0,Rd w0 b a len zp p0
namespace MS
variable {w0 w w' W:World} {b:Nat} {a:Option Addr} {len zp p q g:Nat} {A T:Int} {v v':Value} {L L':zL}
theorem blt (h:MS w0 w b a len zp p g A T v L):b<w0.heap.size:=by obtain⟨_,h0⟩:=h.r0;exact World.block_lt_of_cell? _ _ h0.s
theorem c0 (h:MS w0 w b a len zp p g A T v L):w.cell? ⟨g,0,none⟩=some (.int .i64 A):=h.box.cell (by decide)
theorem c1 (h:MS w0 w b a len zp p g A T v L):w.cell? ⟨g,1,none⟩=some (.int .i64 T):=h.box.cell (i:=1) (by decide)
theorem c2 (h:MS w0 w b a len zp p g A T v L):w.cell? ⟨g,2,none⟩=some v:=h.box.cell (i:=2) (by decide)
theorem f2 (h:MS w0 w b a len zp p g A T v L):w.frozen? ⟨g,2,none⟩=false:=h.box.frozen 2
theorem pick (h:MS w0 w b a len zp p g A T v L) (hrd:Rd w' b a len zp q) (hg:w.grownBy w' (some b)):MS w0 w' b a len zp q g A T v L :=
 ⟨hrd,zK h.gr hg,yq h.box hg (by have:=h.own;have:=h.blt;simp;omega),h.own,h.row.kept hg (fun k e hk=>by cases e;have:=(h.row.lt _ hk).1;have:=h.blt;omega),yq h.res hg (by have:=h.blt;simp;omega),h.r0⟩
theorem drew (h:MS w0 w b a len zp p g A T v L):MS w0 w.drew b a len zp p g A T v L:=⟨Rd.heap h.rd rfl,⟨h.gr.os,h.gr.tape,h.gr.output,h.gr.size,h.gr.block⟩,h.box,h.own,h.row,h.res,h.r0⟩
theorem appended (h:MS w0 w b a len zp p g A T v L) (hW:Below w.heap.size w W) (hg2:W.grownBy w' v.ownBlock):Rd w' b a len zp p/\w0.grownBy w' (some b)/\w'.rowIs g 48 3 (V8 A T v)/\w'.rowIs w0.heap.size 48 3 (V8 0 0 (.slice none 0 0)):=by
 have hA:=qA hW v.ownBlock
 have hA2:w.grownBy w' v.ownBlock:=⟨hg2.os.trans hA.os,hg2.tape.trans hA.tape,hg2.output.trans hA.output,Nat.le_trans hA.size hg2.size,fun i hi hn=>(hg2.block i (Nat.lt_of_lt_of_le hi hA.size) hn).trans (hA.block i hi hn)⟩
 have zS:∀k,v.ownBlock=some k->w0.heap.size<=k:=fun k e=>(h.row.lt k e).1
 obtain⟨p0,h0⟩:=h.r0
 exact⟨Rd.kept h0 h.rd h.gr.size hA2 zS,ql h.gr hA2 zS,yq h.box hA2 (fun e=>Yz h.box h.row (by decide) e.symm),yq h.res hA2 (fun e=>Yz h.res h.row (by decide) e.symm)⟩
theorem stored (h:MS w0 w b a len zp p g A T v L) (hW:Below w.heap.size w W) (hg2:W.grownBy w' v.ownBlock) (hrow':yh w0.heap.size w' v' L'):MS w0 (w'.setCell ⟨g,2,none⟩ v') b a len zp p g A T v' L':=by
 obtain⟨h1,h2,h3,h4⟩:=h.appended hW hg2
 have zx:=h.own
 have k:=yP w' g 2 v'
 have e:∀k,some g=some k->w0.heap.size<=k:=fun k e=>by cases e;omega
 obtain⟨p0,h0⟩:=h.r0
 refine⟨Rd.kept h0 h1 h2.size k e,ql h2 k e,(h3.set 2 v').congr (fun i hi=>?_),zx,hrow'.kept k (fun q hq hk=>by cases hq;exact Yz h3 hrow' (by decide) hk),yq h4 k (by simp;omega),h.r0⟩
 match i,hi with
 | 0,_=>simp[V8]
 | 1,_=>simp[V8]
 | 2,_=>simp[V8]
end MS
theorem zdK {w:World} {b:Nat} {a:Option Addr} {len zp p:Nat} (hr:Rd w b a len zp p) (A T:Int) (k:Nat) :
 MS w (((((w.setCell ⟨b,1,none⟩ (.int .i64 ((p:Int)+1))).alloc (.cells #[.int .i64 0,.int .i64 0,.slice none 0 0] 48)).alloc (.cells #[] 33)).alloc (.cells #[.int .i64 A,.int .i64 T,.slice (some ⟨w.heap.size+1,0,none⟩) 0 0] 48)).drewN k) b a len zp (p+1) (w.heap.size+1+1) A T (.slice (some ⟨w.heap.size+1,0,none⟩) 0 0) []:=by
 have hn:Rd (w.setCell ⟨b,1,none⟩ (.int .i64 ((p:Int)+1))) b a len zp (p+1):=hr.next (q:=p+1)
 have hg:=Yj w b (.int .i64 ((p:Int)+1))
 have hz:(w.setCell ⟨b,1,none⟩ (.int .i64 ((p:Int)+1))).heap.size=w.heap.size:=by simp[World.setCell]
 generalize w.setCell ⟨b,1,none⟩ (.int .i64 ((p:Int)+1))=V at *
 have r1:=X0 V 0 0 (.slice none 0 0)
 have o2:=yh.made (V.alloc (.cells #[.int .i64 0,.int .i64 0,.slice none 0 0] 48))
 have b3:=X0 ((V.alloc (.cells #[.int .i64 0,.int .i64 0,.slice none 0 0] 48)).alloc (.cells #[] 33)) A T (.slice (some ⟨w.heap.size+1,0,none⟩) 0 0)
 simp only[World.size_alloc,hz] at r1 o2 b3
 have o3:yh w.heap.size _ _ []:=(o2.mono (Nat.le_succ _)).kept (row:=none) (World.grownBy_alloc _ (.cells #[.int .i64 A,.int .i64 T,.slice (some ⟨w.heap.size+1,0,none⟩) 0 0] 48) none) (fun g e=>by cases e)
 exact⟨Rd.heap (((hn.alloc _).alloc _).alloc _) rfl,jR (qc (qc (qc hg _) _) _) k,b3,by omega,o3,(r1.alloc _).alloc _,⟨p,hr⟩⟩
theorem zdL {w:World} {b:Nat} {a:Option Addr} {len zp p:Nat} (hr:Rd w b a len zp p) (A T:Int) (k:Nat) :
 MS w (((((w.setCell ⟨b,1,none⟩ (.int .i64 ((p:Int)+1))).alloc (.cells #[.int .i64 0,.int .i64 0,.slice none 0 0] 48)).alloc (.cells #[.int .i64 A,.int .i64 T,.slice (some ⟨w.heap.size+1+1,0,none⟩) 0 0] 48)).alloc (.cells #[] 33)).drewN k) b a len zp (p+1) (w.heap.size+1) A T (.slice (some ⟨w.heap.size+1+1,0,none⟩) 0 0) []:=by
 have hn:Rd (w.setCell ⟨b,1,none⟩ (.int .i64 ((p:Int)+1))) b a len zp (p+1):=hr.next (q:=p+1)
 have hg:=Yj w b (.int .i64 ((p:Int)+1))
 have hz:(w.setCell ⟨b,1,none⟩ (.int .i64 ((p:Int)+1))).heap.size=w.heap.size:=by simp[World.setCell]
 generalize w.setCell ⟨b,1,none⟩ (.int .i64 ((p:Int)+1))=V at *
 have r1:=X0 V 0 0 (.slice none 0 0)
 have b2:=X0 (V.alloc (.cells #[.int .i64 0,.int .i64 0,.slice none 0 0] 48)) A T (.slice (some ⟨w.heap.size+1+1,0,none⟩) 0 0)
 have o3:=yh.made ((V.alloc (.cells #[.int .i64 0,.int .i64 0,.slice none 0 0] 48)).alloc (.cells #[.int .i64 A,.int .i64 T,.slice (some ⟨w.heap.size+1+1,0,none⟩) 0 0] 48))
 simp only[World.size_alloc,hz] at r1 b2 o3
 exact⟨Rd.heap (((hn.alloc _).alloc _).alloc _) rfl,jR (qc (qc (qc hg _) _) _) k,b2.alloc _,by omega,o3.mono (by omega),(r1.alloc _).alloc _,⟨p,hr⟩⟩
end Go.Proofs.YtjbgpcileapogaaGreat
