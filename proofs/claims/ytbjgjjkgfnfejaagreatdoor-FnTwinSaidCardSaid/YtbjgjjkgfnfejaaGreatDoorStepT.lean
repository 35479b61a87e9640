/-
  The program's HeapOk answers the plain heapOk; it writes to nothing that was there.
-/
import Derived.Test.YtbjgjjkgfnfejaaGreatDoorHWait
namespace Go.Proofs.YtbjgjjkgfnfejaaGreatDoor
open Go.RowKit
theorem zca {ms:zM} (h:yr ms=true):∀i,(hi:i<ms.length)->ms[i].2.2.length<=1000000:=fun i hi=>by
 simp only[yr,Bool.and_eq_true] at h
 have:=List.all_eq_true.1 h.2 ms[i] (List.getElem_mem hi)
 simp only[qd,Bool.and_eq_true,zF,decide_eq_true_iff] at this
 omega
set_option maxRecDepth 100000 in
set_option maxHeartbeats 8000000 in
theorem Kr (vp vc vs:Value) (ms:zM) (h:Hp) (w:World) (hp:yD w vp ms) (hh:wu w vc vs h) (hn:h.za.length<=1048576) :
 Calls Tryz.prog 51 #[.agg #[vp],.agg (jK vc vs h)] w fun e w'=>e=.returned (.bool (xm ms h))/\zO w w':=by
 obtain⟨ac,kc,hvc⟩:=hh.c.shape
 obtain⟨aD,kD,km⟩:=hh.s.shape
 obtain⟨ap,cp,qI,hlp,_⟩:=id hp
 subst hvc km qI
 unfold maxLen at hlp
 unfold jK
 have hA:zO w ((w.alloc (.cells #[.slice ap ms.length cp] 25)).alloc (.cells #[.slice ac h.za.length kc,.int .i64 h.now,.int .i64 h.born,.slice aD h.zm.length kD,.int .i64 h.code] 44)):=(zR _ _).alloc (by simp) _
 have bp:((w.alloc (.cells #[.slice ap ms.length cp] 25)).alloc (.cells #[.slice ac h.za.length kc,.int .i64 h.now,.int .i64 h.born,.slice aD h.zm.length kD,.int .i64 h.code] 44)).cell? (zH w.heap.size 0)=some (.slice ap ms.length cp):=by simp[go_sem]
 have bh:=jj (w.alloc (.cells #[.slice ap ms.length cp] 25)) 44 (.slice ac h.za.length kc) (.int .i64 h.now) (.int .i64 h.born) (.slice aD h.zm.length kD) (.int .i64 h.code)
 simp only[World.size_alloc] at bh
 go_enter Tryz.func51,Tryz.ntmps51
 go_upto_region 1 with fail
 generalize (w.alloc (.cells #[.slice ap ms.length cp] 25)).alloc (.cells #[.slice ac h.za.length kc,.int .i64 h.now,.int .i64 h.born,.slice aD h.zm.length kD,.int .i64 h.code] 44)=W0 at *
 obtain⟨⟨x0,x1,x2,x3,x4⟩,_⟩:=zq bh
 have zA:=hA.size
 go_wp2_with fail
 refine(uc _ ms _ (hp.below hA)).mono ?_
 rintro e w1 ⟨rfl,qa⟩
 have hB1:zO w w1:=hA.trans (qa.mono zA)
 have bp1:=zc qa bp
 have bh1:=yp qa bh
 have z1:=hB1.size
 clear hA bp bh x0 x1 x2 x3 x4 qa
 obtain⟨⟨x0,x1,x2,x3,x4⟩,_⟩:=zq bh1
 have HH:Hid (vg ms h=false->xm ms h=false):=WC
 cases h1:yr ms
 ·have HE:Hid (xm ms h=false):=HH.out (by simp[vg,h1])
  go_wp2
  go_ret
  exact⟨zo HE.out.symm,hB1⟩
 have HO:=zca h1
 have HOPS:Hid (∀i,(hi:i<ms.length)->ms[i].2.2.length<=1000000):=HO
 clear HO
 have hx:=@Ua h.za.length h.now
 cases h2:qC h.now (-1) ((h.za.length:Int) - 1)
 ·have HE:Hid (xm ms h=false):=HH.out (by simp[vg,h2])
  rw[h2] at hx
  have HX:Hid ((h.now == -1 || qC h.now 0 ((h.za.length:Int) - 1))=false):=hx
  clear hx
  go_wp2_with (go_at_call 96;refine(qi _ _ _).mono ?_;rintro e w' ⟨rfl,hw⟩;obtain rfl:=hw.symm;rw[HX.out])
  go_ret
  exact⟨zo HE.out.symm,hB1⟩
 rw[h2] at hx
 have HX:Hid ((h.now == -1 || qC h.now 0 ((h.za.length:Int) - 1))=true):=hx
 clear hx
 have h2':=zF.1 h2
 cases h3:qC h.born 1 30
 ·have HE:Hid (xm ms h=false):=HH.out (by simp[vg,h3])
  go_wp2_with (first | (go_at_call 96;refine(qi _ _ _).mono ?_;rintro e w' ⟨rfl,hw⟩;obtain rfl:=hw.symm;rw[HX.out]) | (go_at_call 61;refine(jN _ _).mono ?_;rintro e w' ⟨rfl,hw⟩;obtain rfl:=hw.symm;rw[h3]))
  go_ret
  exact⟨zo HE.out.symm,hB1⟩
 have h3':=zF.1 h3
 by_cases h4:h.born<(h.za.length:Int)
 ·have HE:Hid (xm ms h=false):=HH.out (by simp only[vg,decide_eq_false (show ¬(h.za.length:Int)<=h.born by omega),Bool.and_false,Bool.false_and])
  go_wp2_with (first | (go_at_call 96;refine(qi _ _ _).mono ?_;rintro e w' ⟨rfl,hw⟩;obtain rfl:=hw.symm;rw[HX.out]) | (go_at_call 61;refine(jN _ _).mono ?_;rintro e w' ⟨rfl,hw⟩;obtain rfl:=hw.symm;rw[h3]))
  go_ret
  exact⟨zo HE.out.symm,hB1⟩
 have h4':(h.za.length:Int)<=h.born:=by omega
 replace hn:h.za.length<=900000:=by omega
 clear h4
 have HS:Hid (Calls Tryz.prog 63 #[.agg #[.slice ap ms.length cp],.slice aD h.zm.length kD] w1 fun e w'=>e=.returned (.bool (yA ms.length h.zm))/\zO w1 w'):=Yw _ _ ms h.zm _ (hp.below hB1) (hh.below hB1).s
 obtain⟨r6,hr6⟩:∃r,yA ms.length h.zm=r:=⟨_,rfl⟩
 have H6:Hid (yA ms.length h.zm=r6):=hr6
 clear hr6
 cases r6
 ·have HE:Hid (xm ms h=false):=HH.out (by simp[vg,H6.out])
  go_wp2_with (first | (go_at_call 96;refine(qi _ _ _).mono ?_;rintro e w' ⟨rfl,hw⟩;obtain rfl:=hw.symm;rw[HX.out]) | (go_at_call 61;refine(jN _ _).mono ?_;rintro e w' ⟨rfl,hw⟩;obtain rfl:=hw.symm;rw[h3]) | (go_at_call 63;refine HS.out.mono ?_;rintro e w2 ⟨rfl,yL⟩;rw[H6.out]))
  go_ret
  exact⟨zo HE.out.symm,hB1.trans (yL.mono z1)⟩
 have hcd:((h.code == 1) == (h.now == -1))=((h.code == 1) == decide (h.now<0)):=by
  have:(h.now == -1)=decide (h.now<0):=by rw[Bool.eq_iff_iff,beq_iff_eq,decide_eq_true_iff];omega
  rw[this]
 obtain⟨r7,hr7⟩:∃r,(qC h.code 0 3 && ((h.code == 1) == (h.now == -1)))=r:=⟨_,rfl⟩
 have H7:Hid ((qC h.code 0 3 && ((h.code == 1) == (h.now == -1)))=r7):=hr7
 have H7':Hid ((qC h.code 0 3 && ((h.code == 1) == decide (h.now<0)))=r7):=by show _=_;rw[<-hcd];exact hr7
 clear hr7 hcd
 cases r7
 ·have HE:Hid (xm ms h=false):=HH.out (by
   have e:=H7'.out
   cases h5:qC h.code 0 3
   ·simp[vg,h5]
   ·rw[h5,Bool.true_and] at e
    simp only[vg,e,Bool.and_false])
  go_wp2_with (first | (go_at_call 96;refine(qi _ _ _).mono ?_;rintro e w' ⟨rfl,hw⟩;obtain rfl:=hw.symm;rw[HX.out]) | (go_at_call 61;refine(jN _ _).mono ?_;rintro e w' ⟨rfl,hw⟩;obtain rfl:=hw.symm;rw[h3]) | (go_at_call 63;refine HS.out.mono ?_;rintro e w2 ⟨rfl,yL⟩;rw[H6.out];have y4:=zc yL x4;have y1:=zc yL x1) | (go_at_call 64;refine(wL _ _ _).mono ?_;rintro e w' ⟨rfl,hw⟩;obtain rfl:=hw.symm;rw[H7.out]))
  go_ret
  exact⟨zo HE.out.symm,hB1.trans (yL.mono z1)⟩
 have HEND:Hid ((∀i,(hi:i<h.za.length)->xN ms h.za.length h.za[i]=true)->xm ms h=uq h.za h.now):=fun hc=>by
  have e:=Bool.and_eq_true_iff.1 H7'.out
  rw[za9 (by simp only[vg,h1,h2,h3,decide_eq_true h4',e.1,e.2,H6.out,Bool.true_and]) hc,zeA hc h2'.1 (by omega)]
 go_wp2_with (first | (go_at_call 96;refine(qi _ _ _).mono ?_;rintro e w' ⟨rfl,hw⟩;obtain rfl:=hw.symm;rw[HX.out]) | (go_at_call 61;refine(jN _ _).mono ?_;rintro e w' ⟨rfl,hw⟩;obtain rfl:=hw.symm;rw[h3]) | (go_at_call 63;refine HS.out.mono ?_;rintro e w2 ⟨rfl,yL⟩;rw[H6.out];have y4:=zc yL x4;have y1:=zc yL x1;have y0:=zc yL x0) | (go_at_call 64;refine(wL _ _ _).mono ?_;rintro e w' ⟨rfl,hw⟩;obtain rfl:=hw.symm;rw[H7.out]))
 have hB2:zO w w2:=hB1.trans (yL.mono z1)
 have bp2:=zc yL bp1
 have bh2:=yp yL bh1
 have z2:=hB2.size
 clear hB1 bp1 bh1 x0 x1 x2 x3 x4 yL y0 y1 y4 HS H6 H7 H7' HX HH h1 h2 h3
 go_loopg [49] h.za.length (fun d i wr=>∃k:Nat,k<=h.za.length/\d=h.za.length - k/\i=zI (k:Nat)/\zO w2 wr/\∀j,(hj:j<h.za.length)->j<k->xN ms h.za.length h.za[j]=true)
 case atStart=>exact⟨0,Nat.zero_le _,rfl,rfl,zS,fun j _ hj=>absurd hj yB⟩
 case round =>
  obtain⟨k,hk,rfl,rfl,hbr,hall⟩:=hrel
  have HA:Hid (∀j,(hj:j<h.za.length)->j<k->xN ms h.za.length h.za[j]=true):=hall
  clear hall
  have hBr:zO w wr:=hB2.trans (hbr.mono z2)
  have zr:=hBr.size
  have bpr:=zc hbr bp2
  have bhr:=yp hbr bh2
  obtain⟨⟨y0,y1,y2,y3,y4⟩,_⟩:=zq bhr
  by_cases yz:k<h.za.length
  ·have uW:(k:Int)<(h.za.length:Int):=by omega
   obtain⟨_,_,hx,_,hcl⟩:=(hh.below hBr).c
   cases hx
   obtain⟨b,o,vt,vs',rfl,hc⟩:=hcl k yz
   obtain⟨d0,d1,d2,d3,d4,d5,dt,ds⟩:=hc
   obtain⟨a1,k1,e1⟩:=dt.shape
   obtain⟨a2,k2,e2⟩:=ds.shape
   subst e1 e2
   clear hcl
   have HCL:Hid (∀W,zO wr W->Calls Tryz.prog 97 #[.agg #[.slice ap ms.length cp],.agg #[zI h.za[k].m,zI h.za[k].pc,.slice a1 h.za[k].zg.length k1,.slice a2 h.za[k].zf.length k2,zI h.za[k].zi,.bool h.za[k].zv],zI (h.za.length:Nat)] W fun e w'=>e=.returned (.bool (xN ms h.za.length h.za[k]))/\zO W w'):=fun W hb=>wK _ _ _ ms h.za[k] h.za.length W ((hp.below hBr).below hb) (dt.below hb) (ds.below hb) (by unfold maxLen;omega) HOPS.out
   clear dt ds
   have qN:=fun o=>zc (zR _ o) bpr
   have q0N:=fun o=>zc (zR _ o) y0
   have hbN:=fun o=>zR wr o
   obtain⟨r,hr⟩:∃r,xN ms h.za.length h.za[k]=r:=⟨_,rfl⟩
   have HR:Hid (xN ms h.za.length h.za[k]=r):=hr
   clear hr
   cases r
   ·go_wp2_with (go_at_call 97;refine(HCL.out _ (hbN _)).mono ?_;rintro e w3 ⟨rfl,xn⟩;rw[HR.out])
    go_ret
    exact⟨zo (WB yz HR.out).symm,(hBr.alloc zr _).trans (xn.mono (by simp;omega))⟩
   ·go_wp2_with (go_at_call 97;refine(HCL.out _ (hbN _)).mono ?_;rintro e w3 ⟨rfl,xn⟩;rw[HR.out])
    go_roundg (h.za.length - (k+1))
    case measure=>omega
    case rel =>
     refine⟨k+1,by omega,rfl,by go_num,(hbr.alloc hbr.size _).trans (xn.mono (by have:=hbr.size;simp;omega)),fun j hj hjk=>?_⟩
     by_cases e:j=k
     ·subst e;exact HR.out
     ·exact HA.out j hj (by omega)
  ·obtain rfl:k=h.za.length:=by omega
   have HE:Hid (xm ms h=uq h.za h.now):=HEND.out fun i hi=>HA.out i hi hi
   have HWT:Hid (Calls Tryz.prog 67 #[.agg #[.slice ac h.za.length kc,zI h.now,zI h.born,.slice aD h.zm.length kD,zI h.code]] wr fun e w'=>e=.returned (.bool (uq h.za h.now))/\zO wr w'):=Yx _ _ h wr (hh.below hBr) hn
   go_wp2_with (go_at_call 67;refine HWT.out.mono ?_;rintro e w3 ⟨rfl,xn⟩)
   go_ret
   exact⟨zo HE.out.symm,hBr.trans (xn.mono zr)⟩
structure ClP (ms:Ms) (n:Nat) (c:Cl):Prop where
 m:0<=c.m/\c.m<(ms.length:Int)
 pc:0<=c.pc/\c.pc<=((ms.getD c.m.toNat (0,0,[])).2.2.length:Int)
 t:(c.zg.length:Int)=(ms.getD c.m.toNat (0,0,[])).2.1
 s:c.zf.length<=6
 sd:-1<=c.zi/\c.zi<(n:Int)
 vt:yA n c.zg=true
 vs:yA n c.zf=true
 dd:c.zv=true->c.zi=-1/\c.zf=[]
theorem Wm {ms:Ms} {n:Nat} {c:Cl}:xN ms n c=true ↔ ClP ms n c:=by
 simp only[xN,Bool.and_eq_true,zF,decide_eq_true_iff]
 constructor
 ·rintro⟨⟨⟨⟨h1,h2⟩,h3⟩,h4⟩,⟨⟨⟨h5,h6⟩,h7⟩,h8⟩⟩
  refine⟨by omega,h2,h3,h4,by omega,h6,h7,fun hd=>?_⟩
  rw[hd] at h8
  simp at h8
  exact h8
 ·rintro⟨h1,h2,h3,h4,h5,h6,h7,h8⟩
  refine⟨⟨⟨⟨by omega,h2⟩,h3⟩,h4⟩,⟨⟨⟨by omega,h6⟩,h7⟩,?_⟩⟩
  cases hd:c.zv
  ·rfl
  ·obtain⟨e1,e2⟩:=h8 hd
   simp[e1,e2]
theorem zbP {n n':Nat} (hn:n<=n') {k a:Int} (h:qQ n k a=true):qQ n' k a=true:=by
 unfold qQ at h ⊢
 split at h
 ·rename_i e;rw[if_pos e];exact h
 ·rename_i e;rw[if_neg e]
  split at h
  ·rename_i e1;rw[if_pos e1];exact h
  ·rename_i e1;rw[if_neg e1]
   split at h
   ·rename_i e2;rw[if_pos e2];rw[zF] at h ⊢;omega
   ·cases h
theorem kM {n:Int} {l:yH}:yA n l=true ↔ ∀v∈l,qQ n v.1 v.2=true:=by
 unfold yA
 rw[List.all_eq_true]
theorem YK {n n':Nat} (hn:n<=n') {l:yH} (h:yA n l=true):yA n' l=true:=by
 rw[kM] at h ⊢
 exact fun v hv=>zbP hn (h v hv)
theorem ClP.mono {ms:Ms} {n n':Nat} {c:Cl} (h:ClP ms n c) (hn:n<=n'):ClP ms n' c :=
 ⟨h.m,h.pc,h.t,h.s,by have:=h.sd;omega,YK hn h.vt,YK hn h.vs,h.dd⟩
structure ze2 (ms:Ms) (h:Hp):Prop where
 p:yr ms=true
 now:-1<=h.now/\h.now<(h.za.length:Int)
 born:1<=h.born/\h.born<=30
 few:(h.za.length:Int)<=h.born
 code:0<=h.code/\h.code<=3
 zm:yA ms.length h.zm=true
 fin:h.code=1 ↔ h.now<0
theorem Kl {ms:Ms} {h:Hp}:vg ms h=true ↔ ze2 ms h:=by
 simp only[vg,Bool.and_eq_true,zF,decide_eq_true_iff]
 constructor
 ·rintro⟨⟨⟨⟨⟨⟨h1,h2⟩,h3⟩,h4⟩,h5⟩,h6⟩,h7⟩
  refine⟨h1,by omega,h3,h4,h5,h6,?_⟩
  simp only[beq_iff_eq] at h7
  by_cases e:h.code=1
  ·rw[beq_iff_eq.2 e] at h7
   exact⟨fun _=>of_decide_eq_true h7.symm,fun _=>e⟩
  ·rw[zG.2 e] at h7
   exact⟨fun q=>absurd q e,fun q=>absurd q (of_decide_eq_false h7.symm)⟩
 ·rintro⟨h1,h2,h3,h4,h5,h6,h7⟩
  refine⟨⟨⟨⟨⟨⟨h1,by omega⟩,h3⟩,h4⟩,h5⟩,h6⟩,?_⟩
  simp only[beq_iff_eq]
  by_cases e:h.code=1
  ·rw[beq_iff_eq.2 e,decide_eq_true (h7.1 e)]
  ·rw[zG.2 e,decide_eq_false (fun q=>e (h7.2 q))]
structure Good (ms:Ms) (h:Hp):Prop where
 head:ze2 ms h
 cl:∀i,(hi:i<h.za.length)->ClP ms h.za.length h.za[i]
 w:∃l,qG h.za h.now l
theorem We (cs:List Cl):(ZM cs).Nodup:=by
 unfold ZM
 exact List.Pairwise.filter _ List.nodup_range
theorem Q5 {ms:Ms} {h:Hp}:xm ms h=true ↔ Good ms h:=by
 unfold xm
 simp only[Bool.and_eq_true]
 constructor
 ·rintro⟨⟨h1,h2⟩,h3⟩
  have hh:=Kl.1 h1
  have hc:∀i,(hi:i<h.za.length)->xN ms h.za.length h.za[i]=true:=fun i hi=>List.all_eq_true.1 h2 _ (List.getElem_mem hi)
  refine⟨hh,fun i hi=>Wm.1 (hc i hi),qs h.za h.now,?_⟩
  unfold X5 at h3
  simp only[Bool.and_eq_true,Bool.or_eq_true,decide_eq_true_iff,beq_iff_eq] at h3
  obtain⟨⟨e1,e2⟩,e3⟩:=h3
  have hall:∀k,(hk:k<h.za.length)->h.za[k].zv=false->k∈qs h.za h.now:=fun k hk hd=>YQ e2 hk hd
  refine⟨?_,hall,fun k hk hkl=>?_⟩
  ·cases hw:qz h.za h.za.length h.now with
   | some l=>exact⟨_,by unfold qs;rw[hw];rfl⟩
   | none =>
    exfalso
    by_cases hn:h.now<0
    ·rw[qn hn] at hw;cases hw
    ·have yz:h.now.toNat<h.za.length:=by have:=hh.now;omega
     rcases e1 with e1 | e1
     ·exact hn e1
     ·have hd:h.za[h.now.toNat].zv=false:=by simpa [yz] using e1
      have:=hall _ yz hd
      unfold qs at this
      rw[hw] at this
      cases this
  ·unfold Jg at e3
   rw[List.all_eq_true] at e3
   have:=e3 k hk
   simpa [hkl] using this
 ·rintro⟨h1,h2,l,hw⟩
  refine⟨⟨Kl.2 h1,Xr fun i hi=>Wm.2 (h2 i hi)⟩,?_⟩
  unfold X5
  simp only[Bool.and_eq_true,Bool.or_eq_true,decide_eq_true_iff,beq_iff_eq]
  rw[hw.chain]
  refine⟨⟨?_,?_⟩,?_⟩
  ·by_cases hn:h.now<0
   ·exact .inl hn
   ·obtain⟨f,hf⟩:=hw.ch
    obtain⟨g,n,hnl,t,_,e,_,hd,_⟩:=qS hf (by omega)
    refine .inr ?_
    rw[e]
    simp[hnl,hd]
  ·rw[<-J1]
   have a1:=v7 l (ZM h.za) hw.nodup (fun k hk=>YT.2 (hw.mem hk))
   have a2:=v7 (ZM h.za) l (We _) (fun k hk=>by obtain⟨q1,q2⟩:=YT.1 hk;exact hw.all k q1 q2)
   omega
  ·unfold Jg
   rw[List.all_eq_true]
   intro k hk
   obtain⟨hkl,_⟩:=hw.mem (List.mem_of_mem_drop hk)
   have:=hw.room k hk hkl
   simpa [hkl] using this
theorem qG.head {cs:List Cl} {j:Nat} {l:List Nat} (h:qG cs (j:Int) l):∃(hj:j<cs.length) (t:List Nat),l=j :: t/\cs[j].zv=false/\(∃f,qz cs f cs[j].zi=some t)/\j∉t:=by
 have hn:=h.nodup
 obtain⟨f,hf⟩:=h.ch
 obtain⟨g,n,hnl,t,_,e,e2,hd,ht⟩:=qS hf (by omega)
 obtain rfl:j=n:=by omega
 subst e2
 exact⟨hnl,t,rfl,hd,⟨g,ht⟩,(List.nodup_cons.1 hn).1⟩
theorem qG.set_like {cs:List Cl} {now:Int} {l:List Nat} (h:qG cs now l) (j:Nat) (hj:j<cs.length) (c:Cl) (hd:c.zv=cs[j].zv) (hs:c.zi=cs[j].zi) (hr:j∈l.drop 1->c.zf.length<6):qG (cs.set j c) now l:=by
 have hl:(cs.set j c).length=cs.length:=by simp
 have key:∀i,(hi:i<cs.length)->((cs.set j c)[i]'(by omega)).zv=cs[i].zv/\((cs.set j c)[i]'(by omega)).zi=cs[i].zi:=fun i hi=>by
  by_cases e:j=i
  ·subst e;simp[hd,hs]
  ·rw[List.getElem_set_ne e];exact⟨rfl,rfl⟩
 refine⟨?_,fun k hk hkd=>?_,fun k hk hkl=>?_⟩
 ·obtain⟨f,hf⟩:=h.ch
  exact⟨f,by rw[Jq hl key];exact hf⟩
 ·rw[hl] at hk
  exact h.all k hk (by rw[<-(key k hk).1];exact hkd)
 ·rw[hl] at hkl
  by_cases e:j=k
  ·subst e;simp only[List.getElem_set_self];exact hr hk
  ·rw[List.getElem_set_ne e];exact h.room k hk hkl
theorem qG.set_cur {cs:List Cl} {j:Nat} {l:List Nat} (h:qG cs (j:Int) l) (hj:j<cs.length) (c:Cl) (hd:c.zv=cs[j].zv) (hs:c.zi=cs[j].zi):qG (cs.set j c) (j:Int) l:=by
 obtain⟨_,t,rfl,_,_,hnt⟩:=h.head
 exact h.set_like j hj c hd hs (fun e=>absurd (by simpa using e) hnt)
theorem qG.leave {cs:List Cl} {j:Nat} {l:List Nat} (h:qG cs (j:Int) l) (hj:j<cs.length) (c:Cl) (hd:c.zv=true):∃t,l=j :: t/\qG (cs.set j c) cs[j].zi t/\∀k∈t,∀hk:k<cs.length,cs[k].zf.length<6:=by
 obtain⟨_,t,rfl,hjd,⟨f,hf⟩,hnt⟩:=h.head
 have hr:∀k∈t,∀hk:k<cs.length,cs[k].zf.length<6:=fun k hk hkl=>h.room k (by simpa using hk) hkl
 refine⟨t,rfl,⟨⟨f,Ui c t f _ hf hnt⟩,fun k hk hkd=>?_,fun k hk hkl=>?_⟩,hr⟩
 ·have hk':k<cs.length:=by simpa using hk
  by_cases e:j=k
  ·subst e;simp only[List.getElem_set_self] at hkd;rw[hd] at hkd;cases hkd
  ·rw[List.getElem_set_ne e] at hkd
   rcases List.mem_cons.1 (h.all k hk' hkd) with q | q
   ·exact absurd q.symm e
   ·exact q
 ·have hkt:=List.mem_of_mem_drop hk
  have e:j≠k:=fun e=>hnt (by rw[e];exact hkt)
  rw[List.getElem_set_ne e]
  exact hr k hkt (by simpa using hkl)
theorem qG.call {cs:List Cl} {j:Nat} {l:List Nat} (h:qG cs (j:Int) l) (hj:j<cs.length) (h6:cs[j].zf.length<6) (c:Cl) (hd:c.zv=false) (hs:c.zi=(j:Int)):qG (cs ++ [c]) (cs.length:Int) (cs.length :: l):=by
 have hn:cs.length<(cs ++ [c]).length:=by simp
 have he:(cs ++ [c])[cs.length]=c:=by simp
 obtain⟨_,t,hl,_⟩:=h.head
 refine⟨?_,fun k hk hkd=>?_,fun k hk hkl=>?_⟩
 ·obtain⟨f,hf⟩:=h.ch
  refine⟨f+1,?_⟩
  rw[uB hn (by rw[he];exact hd),he,hs,Xm c l f _ hf]
  rfl
 ·by_cases e:k<cs.length
  ·rw[List.getElem_append_left e] at hkd
   exact List.mem_cons_of_mem _ (h.all k e hkd)
  ·obtain rfl:k=cs.length:=by simp at hk;omega
   exact List.mem_cons_self
 ·have hkl':k∈l:=by simpa using hk
  obtain⟨Jw,_⟩:=h.mem hkl'
  rw[List.getElem_append_left Jw]
  subst hl
  rcases List.mem_cons.1 hkl' with q | q
  ·subst q;exact h6
  ·exact h.room k (by simpa using q) Jw
theorem QJ (n:Int):qQ n 0 0=true:=by simp[qQ]
theorem ZG {n a:Int} (h0:0<=a) (h1:a<=999):qQ n 1 a=true:=by
 unfold qQ
 rw[if_neg (by decide),if_pos rfl,zF]
 exact⟨h0,h1⟩
theorem XT {n:Nat} {a:Int} (h0:0<=a) (h1:a<(n:Int)):qQ n 2 a=true:=by
 unfold qQ
 rw[if_neg (by decide),if_neg (by decide),if_pos rfl,zF]
 omega
theorem ZZ {n:Nat} {a:Int} (h:qQ n 2 a=true):0<=a/\a<(n:Int):=by
 unfold qQ at h
 rw[if_neg (by decide),if_neg (by decide),if_pos rfl,zF] at h
 omega
theorem zbO {n n':Int} {k a:Int} (hk:k≠2) (h:qQ n k a=true):qQ n' k a=true:=by
 unfold qQ at h ⊢
 split at h
 ·rename_i e;rw[if_pos e];exact h
 ·rename_i e;rw[if_neg e]
  split at h
  ·rename_i e1;rw[if_pos e1];exact h
  ·cases h
theorem Ue (n:Int) (b:Bool):qQ n (Qo b).1 (Qo b).2=true:=by
 unfold Qo
 cases b
 ·exact ZG (by decide) (by decide)
 ·exact ZG (by decide) (by decide)
theorem XU {n:Int} {l:yH} (h:yA n l=true) (i:Nat):qQ n (l.getD i (0,0)).1 (l.getD i (0,0)).2=true:=by
 by_cases hi:i<l.length
 ·rw[show l.getD i (0,0)=l[i] by simp[hi]]
  exact kM.1 h _ (List.getElem_mem hi)
 ·rw[show l.getD i (0,0)=(0,0) by simp[hi]]
  exact QJ n
theorem Zm {n:Int} {l l':yH} (h:yA n l=true) (h':yA n l'=true):yA n (l ++ l')=true:=by
 rw[kM] at *
 intro v hv
 rcases List.mem_append.1 hv with q | q
 ·exact h v q
 ·exact h' v q
theorem KY {n:Int} {v:Int × Int} (h:qQ n v.1 v.2=true):yA n [v]=true:=by
 rw[kM]
 intro u hu
 simp at hu
 subst hu
 exact h
theorem zaB {n:Int} {l:yH} (h:yA n l=true) (i:Nat) {v:Int × Int} (hv:qQ n v.1 v.2=true):yA n (l.set i v)=true:=by
 rw[kM] at *
 intro u hu
 rcases List.mem_or_eq_of_mem_set hu with q | q
 ·exact h u q
 ·subst q;exact hv
theorem zdf {n:Int} {l:yH} (h:yA n l=true) (k:Nat):yA n (l.take k)=true:=by
 rw[kM] at *
 exact fun v hv=>h v (List.mem_of_mem_take hv)
theorem zde {n:Int} {l:yH} (h:yA n l=true) (k:Nat):yA n (l.drop k)=true:=by
 rw[kM] at *
 exact fun v hv=>h v (List.mem_of_mem_drop hv)
theorem zbQ (n:Int) (k:Nat):yA n (List.replicate k (0,0))=true:=by
 rw[kM]
 intro v hv
 rw[List.eq_of_mem_replicate hv]
 exact QJ n
structure MethP (ms:Ms) (m:zP):Prop where
 args:0<=m.1/\m.1<=2
 zg:m.1<=m.2.1/\m.2.1<=4
 few:m.2.2.length<=14
 ops:∀op∈m.2.2,kg ms.length m.2.2.length m.2.1 op.1 op.2=true
theorem jR {ms:Ms} (hp:yr ms=true) {m:Nat} (hm:m<ms.length):MethP ms ms[m]:=by
 unfold yr at hp
 simp only[Bool.and_eq_true] at hp
 have:=List.all_eq_true.1 hp.2 _ (List.getElem_mem hm)
 unfold qd at this
 simp only[Bool.and_eq_true,zF,decide_eq_true_iff] at this
 exact⟨this.1.1.1,this.1.1.2,this.1.2,fun op ho=>List.all_eq_true.1 this.2 op ho⟩
theorem set_cur {h:Hp} {j:Nat} (hn:h.now=j) (hj:j<h.za.length) (c:Cl):yJ (setH h c)=c:=by
 unfold yJ setH
 simp[hn,hj]
theorem xO {h:Hp} {j:Nat} (hn:h.now=j) (hj:j<h.za.length):yJ h=h.za[j]:=by
 unfold yJ
 simp[hn,hj]
theorem Good.set {ms:Ms} {h:Hp} (g:Good ms h) {j:Nat} (_hj:j<h.za.length) {c:Cl} (hc:ClP ms h.za.length c) {l:List Nat} (hw:qG (h.za.set j c) h.now l):Good ms {h with za:=h.za.set j c}:=by
 have hl:(h.za.set j c).length=h.za.length:=by simp
 refine⟨⟨g.head.p,by simp only[hl];exact g.head.now,g.head.born,by simp only[hl];exact g.head.few,g.head.code,g.head.zm,g.head.fin⟩,fun i hi=>?_,l,hw⟩
 simp only[hl] at hi ⊢
 by_cases e:j=i
 ·subst e;simp only[List.getElem_set_self];exact hc
 ·rw[List.getElem_set_ne e];exact g.cl i hi
theorem Good.cur {ms:Ms} {h:Hp} (g:Good ms h) {j:Nat} (hn:h.now=j) (hj:j<h.za.length) {c:Cl} (hc:ClP ms h.za.length c) (hd:c.zv=h.za[j].zv) (hs:c.zi=h.za[j].zi):Good ms (setH h c):=by
 obtain⟨l,hw⟩:=g.w
 unfold setH
 have e:h.now.toNat=j:=by omega
 rw[e]
 refine g.set hj hc (l:=l) ?_
 rw[hn] at hw ⊢
 exact hw.set_cur hj c hd hs
theorem Good.push {ms:Ms} {h:Hp} (g:Good ms h) {j:Nat} (hn:h.now=j) (hj:j<h.za.length) (h6:h.za[j].zf.length<6) {v:Int × Int} (hv:qQ h.za.length v.1 v.2=true) (hd:h.za[j].zv=false):Good ms (yI h v):=by
 unfold yI
 rw[xO hn hj]
 have c:=g.cl j hj
 exact g.cur hn hj ⟨c.m,c.pc,c.t,by simp;omega,c.sd,c.vt,Zm c.vs (KY hv),fun q=>by rw[hd] at q;cases q⟩ rfl rfl
theorem Good.code {ms:Ms} {h:Hp} (g:Good ms h) (hn:0<=h.now) {k:Int} (hk:k=2\/k=3):Good ms (vZ h k) :=
 ⟨⟨g.head.p,g.head.now,g.head.born,g.head.few,by unfold vZ;simp only[];omega,g.head.zm,⟨fun e=>by unfold vZ at e;simp only[] at e;omega,fun e=>by unfold vZ at e;simp only[] at e;omega⟩⟩,g.cl,g.w⟩
theorem Good.die {ms:Ms} {h:Hp} (g:Good ms h) {j:Nat} (hj:j<h.za.length):ClP ms h.za.length (um h.za[j]):=by
 have c:=g.cl j hj
 exact⟨c.m,c.pc,c.t,by simp[um],by simp[um];omega,c.vt,rfl,fun _=>⟨rfl,rfl⟩⟩
theorem Good.leave {ms:Ms} {h:Hp} (g:Good ms h) {j:Nat} (hn:h.now=j) (hj:j<h.za.length) (hs:0<=h.za[j].zi) (hc:h.code=0):Good ms (ye h):=by
 obtain⟨l,hw⟩:=g.w
 rw[hn] at hw
 obtain⟨t,_,hw',_⟩:=hw.leave hj (um h.za[j]) rfl
 have e:h.now.toNat=j:=by omega
 have hl:(h.za.set j (um h.za[j])).length=h.za.length:=by simp
 have c:=g.cl j hj
 unfold ye setH
 rw[xO hn hj,e]
 refine⟨⟨g.head.p,?_,g.head.born,by simp only[hl];exact g.head.few,g.head.code,g.head.zm,⟨fun e=>by simp only[] at e;omega,fun e=>by simp only[] at e;omega⟩⟩,fun i hi=>?_,t,hw'⟩
 ·simp only[hl];have:=c.sd;omega
 ·simp only[hl] at hi ⊢
  by_cases e:j=i
  ·subst e;simp only[List.getElem_set_self];exact g.die hj
  ·rw[List.getElem_set_ne e];exact g.cl i hi
theorem zaA {ms:Ms} {h:Hp} (g:Good ms h) {v:Int × Int} (hv:qQ h.za.length v.1 v.2=true):qQ ms.length (XP h v).1 (XP h v).2=true:=by
 unfold XP
 by_cases e:v.1=2
 ·rw[if_pos e]
  rw[e] at hv
  have hr:=ZZ hv
  have yz:v.2.toNat<h.za.length:=by omega
  rw[show h.za.getD v.2.toNat Cl.none=h.za[v.2.toNat] by simp[yz]]
  have:=(g.cl _ yz).m
  exact XT this.1 this.2
 ·rw[if_neg e]
  exact zbO e hv
theorem Good.fin {ms:Ms} {h:Hp} (g:Good ms h) {j:Nat} (hn:h.now=j) (hj:j<h.za.length) (hs:h.za[j].zi<0) {v:Int × Int} (hv:qQ h.za.length v.1 v.2=true):Good ms (vZ (uN (ye h) v) 1):=by
 obtain⟨l,hw⟩:=g.w
 rw[hn] at hw
 obtain⟨t,_,hw',_⟩:=hw.leave hj (um h.za[j]) rfl
 have e:h.now.toNat=j:=by omega
 have hl:(h.za.set j (um h.za[j])).length=h.za.length:=by simp
 have c:=g.cl j hj
 have UE:XP (ye h) v=XP h v:=by
  unfold XP
  by_cases e2:v.1=2
  ·rw[if_pos e2,if_pos e2]
   congr 1
   unfold ye setH
   rw[xO hn hj,e]
   by_cases e3:j=v.2.toNat
   ·rw[<-e3];simp[hj,um]
   ·simp[List.getElem?_set_ne e3]
  ·rw[if_neg e2,if_neg e2]
 unfold vZ uN
 rw[UE]
 unfold ye setH
 rw[xO hn hj,e]
 refine⟨⟨g.head.p,?_,g.head.born,by simp only[hl];exact g.head.few,by simp,Zm g.head.zm (KY (zaA g hv)),⟨fun _=>hs,fun _=>rfl⟩⟩,fun i hi=>?_,t,hw'⟩
 ·simp only[hl];have:=c.sd;omega
 ·simp only[hl] at hi ⊢
  by_cases e:j=i
  ·subst e;simp only[List.getElem_set_self];exact g.die hj
  ·rw[List.getElem_set_ne e];exact g.cl i hi
theorem Xd {h:Hp} {j:Nat} (hn:h.now=j) (hj:j<h.za.length):(ye h).za=h.za.set j (um h.za[j])/\(ye h).now=h.za[j].zi/\(ye h).code=h.code:=by
 have e:h.now.toNat=j:=by omega
 unfold ye setH
 rw[xO hn hj,e]
 exact⟨rfl,rfl,rfl⟩
theorem XY {f:Nat} {h:Hp} {b:Nat} (e:h.now=b):yC (f+1) h b=h:=by
 unfold yC
 rw[if_pos e]
theorem VB {f:Nat} {h:Hp} {b:Nat} (e:¬h.now=b):yC (f+1) h b=yC f (ye h) b:=by
 conv=>lhs;unfold yC
 rw[if_neg e]
theorem Good.back {ms:Ms}:∀(f:Nat) (h:Hp) (b:Nat) (l:List Nat),Good ms h->h.code=0->qG h.za h.now l->b∈l->l.length<=f->(∀hb:b<h.za.length,h.za[b].zf.length<6) ->
 Good ms (yC f h b)/\(yC f h b).code=0/\(yC f h b).now=b/\(yC f h b).za.length=h.za.length/\(∀hb:b<(yC f h b).za.length,(yC f h b).za[b].zf.length<6/\(yC f h b).za[b].zv=false)
 | 0,h,b,l,g,hc,hw,hb,hl,h6=>by
  cases l with
  | nil=>cases hb
  | cons=>simp at hl
 | f+1,h,b,l,g,hc,hw,hb,hl,h6=>by
  by_cases e:h.now=b
  ·rw[XY e]
   exact⟨g,hc,e,rfl,fun hb'=>⟨h6 hb',(hw.mem hb).2⟩⟩
  ·rw[VB e]
   have WE:0<=h.now:=by
    by_cases q:h.now<0
    ·obtain⟨f',hf'⟩:=hw.ch
     rw[qn q] at hf'
     cases hf'
     cases hb
    ·omega
   obtain⟨j,hn⟩:∃j:Nat,h.now=j:=⟨h.now.toNat,by omega⟩
   rw[hn] at hw
   have hj:j<h.za.length:=hw.head.1
   obtain⟨t,rfl,hw',hr⟩:=hw.leave hj (um h.za[j]) rfl
   have hbt:b∈t:=by
    rcases List.mem_cons.1 hb with q | q
    ·exact absurd (by rw[hn,q]) e
    ·exact q
   have hs0:0<=h.za[j].zi:=by
    by_cases q:h.za[j].zi<0
    ·obtain⟨f',hf'⟩:=hw'.ch
     rw[qn q] at hf'
     cases hf'
     cases hbt
    ·omega
   obtain⟨a1,a2,a3⟩:=Xd hn hj
   have hlen:(ye h).za.length=h.za.length:=by rw[a1];simp
   have hbj:j≠b:=fun q=>e (by rw[hn,q])
   have hh6:∀hb:b<(ye h).za.length,(ye h).za[b].zf.length<6:=fun hb'=>by
    simp only[a1]
    rw[List.getElem_set_ne hbj]
    exact h6 (by omega)
   have hw2:qG (ye h).za (ye h).now t:=by rw[a1,a2];exact hw'
   obtain⟨r1,r2,r3,r4,r5⟩:=Good.back f (ye h) b t (g.leave hn hj hs0 hc) (by rw[a3];exact hc) hw2 hbt (by simpa using hl) hh6
   exact⟨r1,r2,r3,by rw[r4];exact hlen,r5⟩
theorem yn {α:Type} {l:List α} {i:Nat} (h:i<l.length) (d:α):l.getD i d=l[i]:=by simp[h]
structure jX (ms:Ms) (h:Hp) (j:Nat) (k a:Int) (args:yH):Prop where
 g:Good ms h
 code:h.code=0
 now:h.now=j
 lt:j<h.za.length
 live:h.za[j].zv=false
 kind:1<=k/\k<=18
 op:∃(m:Nat) (hm:m<ms.length),h.za[j].m=m/\kg ms.length ms[m].2.2.length ms[m].2.1 k a=true
 takes:(args.length:Int)=(yv ms k a).1
 room:(h.za[j].zf.length:Int)+(yv ms k a).2<=6
 vals:yA h.za.length args=true
 kinds:qK k args=true
theorem je {ms:Ms} {k a:Int} (h:k≠9):yv ms k a=(tk k,lv k):=by
 unfold yv
 rw[if_neg h]
theorem jX.free {ms:Ms} {h:Hp} {j:Nat} {k a:Int} {args:yH} (d:jX ms h j k a args) (hl:(yv ms k a).2=1):(h.za[j]'d.lt).zf.length<6:=by
 have:=d.room
 rw[hl] at this
 omega
theorem jX.push {ms:Ms} {h:Hp} {j:Nat} {k a:Int} {args:yH} (d:jX ms h j k a args) (hl:(yv ms k a).2=1) {v:Int × Int} (hv:qQ h.za.length v.1 v.2=true):Good ms (yI h v) :=
 d.g.push d.now d.lt (d.free hl) hv d.live
theorem zcV {nm no:Nat} {t k a:Int} (h:kg nm no t k a=true):1<=k/\k<=18:=by
 unfold kg at h
 by_cases h1:k=1
 ·omega
 rw[if_neg h1] at h
 by_cases h2:k=2\/k=3
 ·omega
 rw[if_neg h2] at h
 by_cases h3:k=7\/k=8
 ·omega
 rw[if_neg h3] at h
 by_cases h4:k=9
 ·omega
 rw[if_neg h4] at h
 by_cases h5:k=13\/k=14
 ·omega
 rw[if_neg h5] at h
 simp only[Bool.and_eq_true,zF] at h
 exact h.1
theorem jX.first {ms:Ms} {h:Hp} {j:Nat} {k a:Int} {args:yH} (d:jX ms h j k a args) (i:Nat):qQ h.za.length (args.getD i (0,0)).1 (args.getD i (0,0)).2=true:=XU d.vals i
theorem jX.ref {ms:Ms} {h:Hp} {j:Nat} {k a:Int} {args:yH} (d:jX ms h j k a args) (hk:k=12\/k=13\/k=14\/k=15\/k=17\/k=18):(args.getD 0 (0,0)).1=2/\0<=(args.getD 0 (0,0)).2/\(args.getD 0 (0,0)).2.toNat<h.za.length:=by
 have hq:=d.kinds
 unfold qK at hq
 rw[if_neg (by omega),if_pos hk,beq_iff_eq] at hq
 have hv:=d.first 0
 rw[hq] at hv
 have:=ZZ hv
 exact⟨hq,this.1,by omega⟩
theorem Good.do {ms:Ms} {h:Hp} {j:Nat} {k a:Int} {args:yH} (d:jX ms h j k a args):Good ms (doH ms h k a args):=by
 have yz:=d.lt
 obtain⟨m,hm,hcm,hop⟩:=d.op
 have hP:=jR d.g.head.p hm
 have c:=d.g.cl j d.lt
 have hmg:ms.getD h.za[j].m.toNat (0,0,[])=ms[m]:=by rw[hcm];simp[hm]
 have Zz:=xO d.now d.lt
 have WE:0<=h.now:=by rw[d.now];omega
 have hset:∀c':Cl,ClP ms h.za.length c'->c'.zv=h.za[j].zv->c'.zi=h.za[j].zi->Good ms (setH h c'):=fun c' q1 q2 q3=>d.g.cur d.now d.lt q1 q2 q3
 unfold doH
 simp only[]
 by_cases h1:k=1
 ·rw[if_pos h1];subst h1
  refine d.push (by rw[je (by decide)];rfl) (ZG ?_ ?_)
  all_goals
   have:=hop
   simp only[kg,if_true,zF] at this
   simp only[]
   omega
 rw[if_neg h1]
 by_cases h5:k=5
 ·rw[if_pos h5];subst h5
  refine d.push (by rw[je (by decide)];rfl) (ZG ?_ ?_)
  ·exact Int.emod_nonneg _ (by decide)
  ·have:=Int.emod_lt_of_pos ((args.getD 0 (0,0)).2+(args.getD 1 (0,0)).2) (show(0:Int)<1000 by decide)
   simp only[]
   omega
 rw[if_neg h5]
 by_cases h6:k=6
 ·rw[if_pos h6];subst h6
  exact d.push (by rw[je (by decide)];rfl) (Ue _ _)
 rw[if_neg h6]
 by_cases h2:k=2
 ·rw[if_pos h2];subst h2
  refine d.push (by rw[je (by decide)];rfl) ?_
  rw[Zz]
  exact XU c.vt _
 rw[if_neg h2]
 by_cases h3:k=3
 ·rw[if_pos h3];subst h3
  rw[Zz]
  exact hset _ ⟨c.m,c.pc,by simp only[List.length_set];exact c.t,c.s,c.sd,zaB c.vt _ (d.first 0),c.vs,c.dd⟩ rfl rfl
 rw[if_neg h3]
 have ze9:k=7\/k=8->Good ms (setH h {yJ h with pc:=a}):=fun hk=>by
  rw[Zz]
  have ho:=hop
  unfold kg at ho
  rw[if_neg (by omega),if_neg (by omega),if_pos hk,zF] at ho
  exact hset _ ⟨c.m,by simp only[];rw[hmg];omega,c.t,c.s,c.sd,c.vt,c.vs,c.dd⟩ rfl rfl
 by_cases h7:k=7
 ·rw[if_pos h7];exact ze9 (.inl h7)
 rw[if_neg h7]
 by_cases h8:k=8
 ·rw[if_pos h8]
  split
  ·exact ze9 (.inr h8)
  ·exact d.g
 rw[if_neg h8]
 by_cases h9:k=9
 ·rw[if_pos h9];subst h9
  unfold uI
  by_cases hb:30<=h.born
  ·rw[if_pos hb];exact d.g.code WE (.inr rfl)
  rw[if_neg hb]
  have ho:=hop
  unfold kg at ho
  rw[if_neg (by decide),if_neg (by decide),if_neg (by decide),if_pos rfl,zF] at ho
  obtain⟨a',rfl⟩:=Int.eq_ofNat_of_zero_le ho.1
  have ha:a'<ms.length:=by omega
  have hA:=jR d.g.head.p ha
  have htk:=ui ha
  have h6:=d.free (by rw[htk])
  have hal:(args.length:Int)=ms[a'].1:=by rw[d.takes,htk]
  have hga:ms.getD ((a':Int)).toNat (0,0,[])=ms[a']:=by simp[ha]
  rw[hga]
  obtain⟨l,hw⟩:=d.g.w
  rw[d.now] at hw
  have hw':=hw.call d.lt h6 ⟨(a':Int),0,args ++ List.replicate (ms[a'].2.1.toNat - args.length) (0,0),[],h.now,false⟩ rfl d.now
  have hlen:(h.za ++ [(⟨(a':Int),0,args ++ List.replicate (ms[a'].2.1.toNat - args.length) (0,0),[],h.now,false⟩:Cl)]).length=h.za.length+1:=by simp
  have qa:=d.g.head.born
  have yL:=d.g.head.few
  refine⟨⟨d.g.head.p,?_,by simp only[];omega,by simp only[hlen];omega,d.g.head.code,d.g.head.zm,⟨fun e=>by(have e':h.code=1:=e;rw[d.code] at e';cases e'),fun e=>by(have e':((h.za.length:Nat):Int)<0:=e;omega)⟩⟩,fun i hi=>?_,_,hw'⟩
  ·simp only[hlen];omega
  ·simp only[hlen] at hi ⊢
   by_cases e:i<h.za.length
   ·rw[List.getElem_append_left e]
    exact(d.g.cl i e).mono (Nat.le_succ _)
   ·obtain rfl:i=h.za.length:=by omega
    simp only[List.getElem_append_right zD,Nat.sub_self,List.getElem_singleton]
    refine⟨by simp only[];omega,by simp only[hga];omega,?_,by simp,by simp only[];rw[d.now];omega,?_,rfl,fun e=>by cases e⟩
    ·simp only[hga,List.length_append,List.length_replicate]
     have:=hA.zg
     omega
    ·exact Zm (YK (Nat.le_succ _) d.vals) (zbQ _ _)
 rw[if_neg h9]
 by_cases h10:k=10
 ·rw[if_pos h10];subst h10
  unfold Vt
  rw[Zz]
  by_cases hs:h.za[j].zi<0
  ·rw[if_pos hs]
   exact d.g.fin d.now d.lt hs (d.first 0)
  ·rw[if_neg hs]
   have hs0:0<=h.za[j].zi:=by omega
   obtain⟨a1,a2,_⟩:=Xd d.now d.lt
   have hg:=d.g.leave d.now d.lt hs0 d.code
   obtain⟨l,hw⟩:=d.g.w
   rw[d.now] at hw
   obtain⟨t,_,hw',hr⟩:=hw.leave d.lt (um h.za[j]) rfl
   obtain⟨s,hse⟩:∃s:Nat,h.za[j].zi=s:=⟨h.za[j].zi.toNat,by omega⟩
   rw[hse] at hw'
   obtain⟨hsl,t',rfl,hsd,_,_⟩:=hw'.head
   have hlen:(ye h).za.length=h.za.length:=by rw[a1];simp
   have hsl':s<h.za.length:=by simpa using hsl
   have hjs:j≠s:=fun q=>by
    subst q
    simp only[List.getElem_set_self] at hsd
    cases hsd
   have hat:∀q:s<(ye h).za.length,(ye h).za[s]=h.za[s]:=fun q=>by
    simp only[a1]
    rw[List.getElem_set_ne hjs]
   have hlv:s<(ye h).za.length:=by omega
   refine hg.push (j:=s) (by rw[a2,hse]) hlv (by rw[hat];exact hr s List.mem_cons_self hsl') (by rw[hlen];exact d.first 0) ?_
   rw[hat]
   rw[List.getElem_set_ne hjs] at hsd
   exact hsd
 rw[if_neg h10]
 by_cases h11:k=11
 ·rw[if_pos h11];subst h11
  refine d.push (by rw[je (by decide)];rfl) (XT WE ?_)
  rw[d.now]
  have:=d.lt
  simp only[]
  omega
 rw[if_neg h11]
 by_cases hl:k=12\/k=13\/k=17\/k=18
 ·rw[if_pos hl]
  obtain⟨_,_,hr⟩:=d.ref (by omega)
  have hlv:(yv ms k a).2=1:=by
   rw[je (by omega)]
   rcases hl with e | e | e | e <;> subst e <;> rfl
  refine d.push hlv ?_
  have cr:=d.g.cl _ hr
  unfold uo
  simp only[]
  rw[yn hr]
  by_cases e12:k=12
  ·rw[if_pos e12]
   split
   ·rename_i q;exact XT q cr.sd.2
   ·exact QJ _
  rw[if_neg e12]
  by_cases e13:k=13
  ·rw[if_pos e13];exact XU cr.vt _
  rw[if_neg e13]
  by_cases e17:k=17
  ·rw[if_pos e17];exact Ue _ _
  rw[if_neg e17]
  have hlm:h.za[(args.getD 0 (0,0)).2.toNat].m.toNat<ms.length:=by have:=cr.m;omega
  have zba:=(jR d.g.head.p hlm).few
  have hpc:=cr.pc
  rw[yn hlm] at hpc
  exact ZG hpc.1 (by simp only[];omega)
 rw[if_neg hl]
 by_cases K1:k=14
 ·rw[if_pos K1]
  obtain⟨_,_,hr⟩:=d.ref (by omega)
  have cr:=d.g.cl _ hr
  unfold uV
  rw[yn hr]
  obtain⟨l,hw⟩:=d.g.w
  exact d.g.set hr ⟨cr.m,cr.pc,by simp only[List.length_set];exact cr.t,cr.s,cr.sd,zaB cr.vt _ (d.first 1),cr.vs,cr.dd⟩ (hw.set_like _ hr _ rfl rfl (fun q=>hw.room _ q hr))
 rw[if_neg K1]
 by_cases h15:k=15
 ·rw[if_pos h15];subst h15
  obtain⟨_,_,hr⟩:=d.ref (by decide)
  unfold Qb
  rw[yn hr]
  by_cases hd:h.za[(args.getD 0 (0,0)).2.toNat].zv=true
  ·rw[if_pos hd];exact d.g.code WE (.inl rfl)
  rw[if_neg hd]
  obtain⟨l,hw⟩:=d.g.w
  have hbl:(args.getD 0 (0,0)).2.toNat∈l:=hw.all _ hr (by simpa using hd)
  have h6:∀hb:(args.getD 0 (0,0)).2.toNat<h.za.length,h.za[(args.getD 0 (0,0)).2.toNat].zf.length<6:=fun hb=>by
   have hw2:=hw
   rw[d.now] at hw2
   obtain⟨_,t,rfl,_⟩:=hw2.head
   rcases List.mem_cons.1 hbl with q | q
   ·have:=d.free (by rw[je (by decide)];rfl)
    simp only[q]
    exact this
   ·exact hw.room _ (by simpa using q) hb
  obtain⟨r1,_,r3,r4,r5⟩:=Good.back h.za.length h _ l d.g d.code hw hbl hw.len h6
  have yz:(args.getD 0 (0,0)).2.toNat<(yC h.za.length h (args.getD 0 (0,0)).2.toNat).za.length:=by rw[r4];exact hr
  exact r1.push r3 yz (r5 yz).1 (by rw[r4];exact d.first 1) (r5 yz).2
 rw[if_neg h15]
 by_cases h16:k=16
 ·rw[if_pos h16]
  exact⟨⟨d.g.head.p,d.g.head.now,d.g.head.born,d.g.head.few,d.g.head.code,Zm d.g.head.zm (KY (zaA d.g (d.first 0))),d.g.head.fin⟩,d.g.cl,d.g.w⟩
 rw[if_neg h16]
 exact d.g
theorem Good.doing {ms:Ms} {h:Hp} (g:Good ms h) (hc:h.code=0) (h1:¬((ms.getD (yJ h).m.toNat (0,0,[])).2.2.length:Int)<=(yJ h).pc)
 (h2:¬(((yJ h).zf.length:Int) - (yv ms (qV ms (yJ h)).1 (qV ms (yJ h)).2).1<0\/6<((yJ h).zf.length:Int) - (yv ms (qV ms (yJ h)).1 (qV ms (yJ h)).2).1+(yv ms (qV ms (yJ h)).1 (qV ms (yJ h)).2).2))
 (h3:qK (qV ms (yJ h)).1 ((yJ h).zf.drop (((yJ h).zf.length:Int) - (yv ms (qV ms (yJ h)).1 (qV ms (yJ h)).2).1).toNat)=true) :
 ∃j:Nat,jX ms (setH h {yJ h with zf:=(yJ h).zf.take (((yJ h).zf.length:Int) - (yv ms (qV ms (yJ h)).1 (qV ms (yJ h)).2).1).toNat,pc:=(yJ h).pc+1}) j (qV ms (yJ h)).1 (qV ms (yJ h)).2 ((yJ h).zf.drop (((yJ h).zf.length:Int) - (yv ms (qV ms (yJ h)).1 (qV ms (yJ h)).2).1).toNat):=by
 have WE:0<=h.now:=by
  by_cases q:h.now<0
  ·have:=g.head.fin.2 q;omega
  ·omega
 obtain⟨j,hn⟩:∃j:Nat,h.now=j:=⟨h.now.toNat,by omega⟩
 have hj:j<h.za.length:=by have:=g.head.now;omega
 have Zz:=xO hn hj
 have c:=g.cl j hj
 obtain⟨l,hw⟩:=g.w
 rw[hn] at hw
 obtain⟨_,_,_,hlive,_⟩:=hw.head
 rw[Zz] at h1 h2 h3 ⊢
 have wX:h.za[j].m.toNat<ms.length:=by have:=c.m;omega
 have hmg:ms.getD h.za[j].m.toNat (0,0,[])=ms[h.za[j].m.toNat]:=by simp[wX]
 have hpc:=c.pc
 rw[hmg] at h1 hpc
 have hpl:h.za[j].pc.toNat<ms[h.za[j].m.toNat].2.2.length:=by omega
 have hon:qV ms h.za[j]=ms[h.za[j].m.toNat].2.2[h.za[j].pc.toNat]:=by
  unfold qV
  rw[hmg]
  simp[hpl]
 have hop:=(jR g.head.p wX).ops _ (List.getElem_mem hpl)
 rw[<-hon] at hop
 generalize qV ms h.za[j]=op at *
 generalize hT:yv ms op.1 op.2=T at *
 have hs:=c.s
 have hlen:∀c':Cl,(setH h c').za.length=h.za.length:=fun c'=>by unfold setH;simp
 have hat:∀(c':Cl) (q:j<(setH h c').za.length),(setH h c').za[j]=c':=fun c' q=>by
  have e:h.now.toNat=j:=by omega
  unfold setH
  simp only[e,List.getElem_set_self]
 have hT1:0<=T.1:=by
  rw[<-hT]
  unfold yv
  split
  ·split
   ·rename_i q
    rw[zF] at q
    have hq:op.2.toNat<ms.length:=by omega
    rw[show ms.getD op.2.toNat (0,0,[])=ms[op.2.toNat] by simp[hq]]
    exact(jR g.head.p hq).args.1
   ·exact Int.le_refl _
  ·simp only[]
   unfold tk
   split
   ·decide
   ·split <;> decide
 refine⟨j,?_,hc,hn,by rw[hlen];exact hj,?_,zcV hop,⟨_,wX,?_,hop⟩,?_,?_,?_,h3⟩
 ·exact g.cur hn hj ⟨c.m,by simp only[];rw[hmg];omega,c.t,by simp only[List.length_take];omega,c.sd,c.vt,zdf c.vs _,fun q=>by simp only[] at q;rw[hlive] at q;cases q⟩ rfl rfl
 ·rw[hat];exact hlive
 ·rw[hat];simp only[];have:=c.m;omega
 ·rw[hT,List.length_drop];omega
 ·rw[hat,hT];simp only[List.length_take];omega
 ·rw[hlen];exact zde c.vs _
theorem Good.step {ms:Ms} {h:Hp} (g:Good ms h) (hc:h.code=0):Good ms (qH ms h):=by
 have WE:0<=h.now:=by
  by_cases q:h.now<0
  ·have:=g.head.fin.2 q;omega
  ·omega
 unfold qH
 simp only[]
 by_cases h1:((ms.getD (yJ h).m.toNat (0,0,[])).2.2.length:Int)<=(yJ h).pc
 ·rw[if_pos h1];exact g.code WE (.inl rfl)
 rw[if_neg h1]
 split
 ·exact g.code WE (.inl rfl)
 rename_i h2
 split
 ·exact g.code WE (.inl rfl)
 rename_i h3
 obtain⟨j,d⟩:=g.doing hc h1 h2 (by simpa using h3)
 exact Good.do d
theorem Good.run {ms:Ms}:∀(n:Nat) (h:Hp),Good ms h->Good ms (zV ms n h)
 | 0,h,g=>g
 | n+1,h,g=>by
  unfold zV
  by_cases hc:h.code=0
  ·rw[if_pos hc];exact Good.run n _ (g.step hc)
  ·rw[if_neg hc];exact g
theorem XO (h:Hp) (v:Int × Int):(yI h v).zm=h.zm:=rfl
theorem QF (h:Hp):(ye h).zm=h.zm:=rfl
theorem YC:∀(f:Nat) (h:Hp) (b:Nat),(yC f h b).zm=h.zm
 | 0,_,_=>rfl
 | f+1,h,b=>by
  unfold yC
  split
  ·rfl
  ·rw[YC f,QF]
theorem zag (h:Hp) (v:Int × Int):(uN h v).zm.length=h.zm.length+1:=by simp[uN]
theorem qM {c:Prop} [Decidable c] {a b:Hp} {n:Nat} (h1:a.zm.length<=n) (h2:b.zm.length<=n):(if c then a else b).zm.length<=n:=by
 by_cases e:c
 ·rw[if_pos e];exact h1
 ·rw[if_neg e];exact h2
theorem zc7 (ms:Ms) (h:Hp) (m:Int) (args:yH):(uI ms h m args).zm.length<=h.zm.length+1 :=
 qM (Nat.le_succ _) (Nat.le_succ _)
theorem zes (h:Hp) (v:Int × Int):(Vt h v).zm.length<=h.zm.length+1 :=
 qM (Nat.le_of_eq ((zag (ye h) v).trans (by rw[QF]))) (by rw[XO,QF];exact Nat.le_succ _)
theorem zc6 (h:Hp) (b:Nat) (v:Int × Int):(Qb h b v).zm.length<=h.zm.length+1 :=
 qM (Nat.le_succ _) (by rw[XO,YC];exact Nat.le_succ _)
theorem zeY (ms:Ms) (h:Hp) (k a:Int) (args:yH):(doH ms h k a args).zm.length<=h.zm.length+1:=by
 have h0:h.zm.length<=h.zm.length+1:=Nat.le_succ _
 exact qM h0 (qM h0 (qM h0 (qM h0 (qM h0 (qM h0 (qM (qM h0 h0) (qM (zc7 ms h a args) (qM (zes h _) (qM h0 (qM h0 (qM h0 (qM (zc6 h _ _) (qM (Nat.le_of_eq (zag h _)) h0)))))))))))))
theorem zc8 (ms:Ms) (h:Hp):(qH ms h).zm.length<=h.zm.length+1 :=
 qM (Nat.le_succ _) (qM (Nat.le_succ _) (qM (Nat.le_succ _) (zeY ms _ _ _ _)))
theorem KN (ms:Ms):∀(n:Nat) (h:Hp),(zV ms n h).zm.length<=h.zm.length+n
 | 0,_=>Nat.le_refl _
 | n+1,h=>by
  unfold zV
  split
  ·have:=KN ms n (qH ms h)
   have:=zc8 ms h
   omega
  ·omega
theorem KL (ms:Ms):∀(n:Nat) (h:Hp),(zV ms n h).code=0->zV ms (n+1) h=qH ms (zV ms n h)
 | 0,h,hc=>by
  have hc':h.code=0:=hc
  show(if h.code=0 then zV ms 0 (qH ms h) else h)=_
  rw[if_pos hc']
  rfl
 | n+1,h,hc=>by
  by_cases h0:h.code=0
  ·have e:zV ms (n+1) h=zV ms n (qH ms h):=by
    show(if h.code=0 then zV ms n (qH ms h) else h)=_
    rw[if_pos h0]
   have e2:zV ms (n+1+1) h=zV ms (n+1) (qH ms h):=by
    show(if h.code=0 then zV ms (n+1) (qH ms h) else h)=_
    rw[if_pos h0]
   rw[e] at hc
   rw[e2,e]
   exact KL ms n _ hc
  ·have e:zV ms (n+1) h=h:=by
    show(if h.code=0 then zV ms n (qH ms h) else h)=_
    rw[if_neg h0]
   rw[e] at hc
   exact absurd hc h0
theorem KM (ms:Ms):∀(m n:Nat) (h:Hp),n<=m->(zV ms n h).code≠0->zV ms m h=zV ms n h
 | 0,n,h,hl,_=>by
  obtain rfl:n=0:=by omega
  rfl
 | m+1,0,h,_,hc=>by
  have hc':h.code≠0:=hc
  show(if h.code=0 then zV ms m (qH ms h) else h)=_
  rw[if_neg hc']
  rfl
 | m+1,n+1,h,hl,hc=>by
  by_cases h0:h.code=0
  ·have e:zV ms (n+1) h=zV ms n (qH ms h):=by
    show(if h.code=0 then zV ms n (qH ms h) else h)=_
    rw[if_pos h0]
   have e2:zV ms (m+1) h=zV ms m (qH ms h):=by
    show(if h.code=0 then zV ms m (qH ms h) else h)=_
    rw[if_pos h0]
   rw[e] at hc
   rw[e2,e]
   exact KM ms m n _ (by omega) hc
  ·show(if h.code=0 then zV ms m (qH ms h) else h)=(if h.code=0 then zV ms n (qH ms h) else h)
   rw[if_neg h0,if_neg h0]
theorem Good.lens {ms:Ms} {h:Hp} (g:Good ms h):h.za.length<=30/\∀i,(hi:i<h.za.length)->h.za[i].zg.length<=4/\h.za[i].zf.length<=6:=by
 refine⟨by have:=g.head.few;have:=g.head.born;omega,fun i hi=>⟨?_,(g.cl i hi).s⟩⟩
 have c:=g.cl i hi
 have hp:=g.head.p
 unfold yr at hp
 simp only[Bool.and_eq_true] at hp
 have hm:=c.m
 have hl:h.za[i].m.toNat<ms.length:=by omega
 have ha:=List.all_eq_true.1 hp.2 _ (List.getElem_mem hl)
 unfold qd at ha
 simp only[Bool.and_eq_true] at ha
 have a2:=zF.1 ha.1.1.2
 have ht:=c.t
 have e:ms.getD h.za[i].m.toNat (0,0,[])=ms[h.za[i].m.toNat]:=by simp[hl]
 rw[e] at ht
 omega
theorem JX (h:Hp) (c:Cl):(setH h c).za.length=h.za.length:=by simp[setH]
theorem ZC (h:Hp) (v:Int × Int):(yI h v).za.length=h.za.length:=JX _ _
theorem ZB (h:Hp):(ye h).za.length=h.za.length:=JX _ _
theorem Ku:∀(f:Nat) (h:Hp) (b:Nat),(yC f h b).za.length=h.za.length
 | 0,_,_=>rfl
 | f+1,h,b=>by
  unfold yC
  by_cases e:h.now=b
  ·rw[if_pos e]
  ·rw[if_neg e,Ku f,ZB]
def Ki (ms:Ms) (h:Hp) (n:Int):Hp:=if(xm ms h && qC n 0 400)=true then zV ms n.toNat h else⟨[],0,0,[],0⟩
def zfh (ps:List Nat) (p:Int):Int:=match ps.findIdx? (fun(q:Nat)=>(q:Int) == p) with
 | some i=>(i:Int)
 | none=>-1
structure PsOk (n:Nat) (ps:List Nat):Prop where
 nd:ps.Nodup
 lt:∀p∈ps,p<n
def zdn (n:Nat) (ps:List Nat) (p:Int):List Nat:=if 0<=p/\p<(n:Int)/\zfh ps p=-1 then ps ++ [p.toNat] else ps
def ze3 (n:Nat) (ps:List Nat) (vs:yH):List Nat:=vs.foldl (fun ps v=>if v.1=2 then zdn n ps v.2 else ps) ps
def comeC (n:Nat) (ps:List Nat) (c:Cl):List Nat:=ze3 n (ze3 n (zdn n ps c.zi) c.zg) c.zf
def zdF (cs:List Cl):Nat->Nat->List Nat->List Nat
 | 0,_,ps=>ps
 | f+1,j,ps=>if h:j<ps.length then zdF cs f (j+1) (comeC cs.length ps (cs.getD ps[j] Cl.none)) else ps
def found (h:Hp):List Nat:=zdF h.za h.za.length 0 (zdn h.za.length [] h.now)
theorem xw {P:Hp->Prop} {c:Prop} [Decidable c] {a b:Hp} (h1:P a) (h2:¬c->P b):P (if c then a else b):=by
 by_cases e:c
 ·rw[if_pos e];exact h1
 ·rw[if_neg e];exact h2 e
structure jZ (h h':Hp):Prop where
 few:h'.za.length<=h.za.length+1
 more:h.za.length<=h'.za.length
 born:h'.born - h.born=(h'.za.length:Int) - (h.za.length:Int)
 zm:∃l,h'.zm=h.zm ++ l
theorem jZ.refl' {h h':Hp} (h1:h'.za.length=h.za.length) (h2:h'.born=h.born) (h3:h'.zm=h.zm):jZ h h' :=
 ⟨by omega,by omega,by omega,⟨[],by rw[h3];simp⟩⟩
theorem jZ.say {h h':Hp} (h1:h'.za.length=h.za.length) (h2:h'.born=h.born) {l:yH} (h3:h'.zm=h.zm ++ l):jZ h h' :=
 ⟨by omega,by omega,by omega,⟨l,h3⟩⟩
theorem X1:∀(f:Nat) (h:Hp) (b:Nat),(yC f h b).born=h.born
 | 0,_,_=>rfl
 | f+1,h,b=>by
  unfold yC
  split
  ·rfl
  ·rw[X1 f];rfl
theorem zee (ms:Ms) (h:Hp) (m:Int) (args:yH):jZ h (uI ms h m args) :=
 xw (jZ.refl' rfl rfl rfl) fun _=>⟨by simp,by simp,by simp;omega,[],by simp⟩
theorem zeT (h:Hp) (v:Int × Int):jZ h (Vt h v) :=
 xw (jZ.say (l:=[XP (ye h) v]) (by show(ye h).za.length=_;exact ZB h) rfl rfl) fun _=>jZ.refl' (by rw[ZC,ZB]) rfl rfl
theorem zed (h:Hp) (b:Nat) (v:Int × Int):jZ h (Qb h b v) :=
 xw (jZ.refl' rfl rfl rfl) fun _=>jZ.refl' (by rw[ZC,Ku]) (X1 _ h b) (by rw[XO,YC])
theorem ZD (h:Hp) (v:Int × Int):jZ h (yI h v):=jZ.refl' (ZC h v) rfl rfl
theorem UQ (h:Hp) (c:Cl):jZ h (setH h c):=jZ.refl' (JX h c) rfl rfl
theorem zef (h:Hp):jZ h h:=jZ.refl' rfl rfl rfl
theorem zfp (ms:Ms) (h:Hp) (k a:Int) (args:yH):jZ h (doH ms h k a args):=by
 have h0:=zef h
 exact xw (ZD _ _) fun _=>xw (ZD _ _) fun _=>xw (ZD _ _) fun _=>xw (ZD _ _) fun _=>xw (UQ _ _) fun _=>xw (UQ _ _) fun _=>xw (xw (UQ _ _) fun _=>h0) fun _=>xw (zee ms h a args) fun _=>xw (zeT h _) fun _=>xw (ZD _ _) fun _=>xw (ZD _ _) fun _=>xw (jZ.refl' (by simp[uV]) rfl rfl) fun _=>xw (zed h _ _) fun _=>xw (jZ.say (l:=[XP h (args.getD 0 (0,0))]) rfl rfl rfl) fun _=>h0
theorem zeg (ms:Ms) (h:Hp):jZ h (qH ms h) :=
 xw (jZ.refl' rfl rfl rfl) fun _=>xw (jZ.refl' rfl rfl rfl) fun _=>xw (jZ.refl' rfl rfl rfl) fun _=>by
  have h1:=zfp ms (setH h {yJ h with zf:=(yJ h).zf.take (((yJ h).zf.length:Int) - (yv ms (qV ms (yJ h)).1 (qV ms (yJ h)).2).1).toNat,pc:=(yJ h).pc+1}) (qV ms (yJ h)).1 (qV ms (yJ h)).2 ((yJ h).zf.drop (((yJ h).zf.length:Int) - (yv ms (qV ms (yJ h)).1 (qV ms (yJ h)).2).1).toNat)
  have hl:=JX h {yJ h with zf:=(yJ h).zf.take (((yJ h).zf.length:Int) - (yv ms (qV ms (yJ h)).1 (qV ms (yJ h)).2).1).toNat,pc:=(yJ h).pc+1}
  obtain⟨a,b,c,d⟩:=h1
  rw[hl] at a b c
  exact⟨a,b,c,d⟩
structure zfj (h h':Hp) (n:Nat):Prop where
 few:h'.za.length<=h.za.length+n
 more:h.za.length<=h'.za.length
 born:h'.born - h.born=(h'.za.length:Int) - (h.za.length:Int)
 zm:∃l,h'.zm=h.zm ++ l
theorem Kw (ms:Ms):∀(n:Nat) (h:Hp),zfj h (zV ms n h) n
 | 0,h=>⟨by simp[zV],by simp[zV],by simp[zV],⟨[],by simp[zV]⟩⟩
 | n+1,h=>by
  unfold zV
  by_cases e:h.code=0
  ·rw[if_pos e]
   obtain⟨a,b,c,l,d⟩:=zeg ms h
   obtain⟨a',b',c',l',d'⟩:=Kw ms n (qH ms h)
   exact⟨by omega,by omega,by omega,l ++ l',by rw[d',d,List.append_assoc]⟩
  ·rw[if_neg e]
   exact⟨by omega,by omega,by omega,[],by simp⟩
theorem zeX (ms:Ms):∀(n:Nat) (h:Hp),h.code≠0->zV ms n h=h
 | 0,_,_=>rfl
 | n+1,h,c=>by unfold zV;rw[if_neg c]
theorem UY (ms:Ms):∀(a b:Nat) (h:Hp),zV ms (a+b) h=zV ms b (zV ms a h)
 | 0,b,h=>by rw[Nat.zero_add];rfl
 | a+1,b,h=>by
  rw[show a+1+b=(a+b)+1 by omega]
  by_cases c:h.code=0
  ·show(if h.code=0 then zV ms (a+b) (qH ms h) else h)=zV ms b (if h.code=0 then zV ms a (qH ms h) else h)
   rw[if_pos c,if_pos c,UY ms a b]
  ·show(if h.code=0 then zV ms (a+b) (qH ms h) else h)=zV ms b (if h.code=0 then zV ms a (qH ms h) else h)
   rw[if_neg c,if_neg c,zeX ms b h c]
end Go.Proofs.YtbjgjjkgfnfejaaGreatDoor
