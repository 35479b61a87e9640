/-
  MachRun, the program: what runs on pages runs as the heap does.
-/
import Derived.Test.YtbjgjjkgfnfejaaGreatDoorRStep2
import Derived.Test.YtbjgjjkgfnfejaaGreatDoorLOut
import Derived.Test.YtbjgjjkgfnfejaaGreatDoorMIn2
namespace Go.Proofs.YtbjgjjkgfnfejaaGreatDoor
open Go.RowKit
attribute [local go_sem ↓] Go.wp_at_zero Go.wp_at_succ
theorem yj.mono {B B':Nat} {ρ:Nat->Rl} {w:World} {P:Lay} (h:yj B ρ w P) (hB:B'<=B):yj B' ρ w P:=fun r=>by
 cases r with
 | other=>trivial
 | live=>exact⟨(h .live).1,(h .live).2.1,Nat.le_trans hB (h .live).2.2⟩
 | za=>exact⟨(h .za).1.mono hB,(h .za).2⟩
 | zg i=>exact fun hi=>⟨((h (.zg i)) hi).1.mono hB,((h (.zg i)) hi).2⟩
 | order=>exact⟨(h .order).1.mono hB,(h .order).2⟩
 | zd=>exact⟨(h .zd).1,(h .zd).2.1,Nat.le_trans hB (h .zd).2.2⟩
 | body k=>exact fun hk=>⟨((h (.body k)) hk).1,((h (.body k)) hk).2.1,Nat.le_trans hB ((h (.body k)) hk).2.2⟩
 | zh k=>exact fun hk=>⟨((h (.zh k)) hk).1.mono hB,((h (.zh k)) hk).2⟩
 | zf k=>exact fun hk=>⟨((h (.zf k)) hk).1.mono hB,((h (.zf k)) hk).2⟩
theorem zfW {w:World} {g:Nat} {t:TypeId} {a b c d e:Value} (h:w.rowIs g t 5 (ZI a b c d e)):Bx w g t [a,b,c,d,e]:=by
 obtain⟨cc,e1,e2,e3⟩:=h
 refine⟨cc,e1,e2,fun i hi=>?_⟩
 have hi':i<5:=hi
 rw[e3 i hi']
 match i,hi' with
 | 0,_=>rfl
 | 1,_=>rfl
 | 2,_=>rfl
 | 3,_=>rfl
 | 4,_=>rfl
set_option maxRecDepth 100000 in
set_option maxHeartbeats 8000000 in
theorem K6 (vq:Value) (ms:Ms) (vp vo vt vs:Value) (m:Mc) (L:yw) (h:Hp) (N:Nat) (w:World) (hq:yD w vq ms) (hT:TabAt w) (hm:yC w vp vo vt vs m) (hsm:m.small) (htn:m.zd.length<=800000) (hsd:m.zm.length<=1000000) (k:Zv ms m L h)
 (hLP:∀W,zO w W->Calls Tryz.prog 45 #[.agg (zu vp vo vt vs m).toArray] W fun e w'=>∃(P:Lay) (ρ:Nat->Rl),yj (W.heap.size+1) ρ w' P/\e=.returned (.pointer (some ⟨P.bl,0,none⟩))/\P.L=L/\zO W w') (hN:N<=400) :
 Calls Tryz.prog 15 #[.agg #[vq],.agg (zu vp vo vt vs m).toArray,.int .i64 (N:Int)] w fun e w'=>∃(L':yw) (v1 v2 v3 v4:Value),e=.returned (.tuple #[.agg (zu v1 v2 v3 v4 (yM L' (qi ms N h).born (qi ms N h).zm (qi ms N h).code)).toArray,.bool true])/\yC w' v1 v2 v3 v4 (yM L' (qi ms N h).born (qi ms N h).zm (qi ms N h).code)/\zcY L L' (qi ms N h)/\zO w w':=by
 have HOK:=fun W (hb:zO w W)=>K5 vq ms vp vo vt vs m W (hq.below hb) (hm.below hb) hsm htn
 rw[k.ok] at HOK
 have HK:Hid (Zv ms m L h):=k
 have HLP:Hid (∀W,zO w W->Calls Tryz.prog 45 #[.agg (zu vp vo vt vs m).toArray] W fun e w'=>∃(P:Lay) (ρ:Nat->Rl),yj (W.heap.size+1) ρ w' P/\e=.returned (.pointer (some ⟨P.bl,0,none⟩))/\P.L=L/\zO W w'):=hLP
 have HQ:Hid (yD w vq ms/\TabAt w):=⟨hq,hT⟩
 have HMS:Hid (yi w vs m.zm):=hm.s
 have HSD:Hid (m.zm.length<=1000000):=hsd
 obtain⟨aq,cq,hvq,_⟩:=id hq
 obtain⟨ap,cp,qz⟩:=hm.p.shape
 obtain⟨ao,co,jw⟩:=hm.o.shape
 obtain⟨at',ct,jA⟩:=hm.t.shape
 obtain⟨as',cs,jG⟩:=hm.s.shape
 subst hvq qz jw jA jG
 unfold zu at HOK HLP
 clear k hLP hq hT hm hsm htn hsd
 show Calls _ _ #[.agg #[.slice aq ms.length cq],.agg #[zI m.cells,.slice ap m.za.length cp,.slice ao m.order.length co,zI m.now,.slice at' m.zd.length ct,zI m.born,.slice as' m.zm.length cs,zI m.code],zI (N:Int)] w _
 go_enter Tryz.func15,Tryz.ntmps15
 go_upto_region 1 with fail
 refine yg (fun W=>zO w W/\Bx W w.heap.size 25 [.slice aq ms.length cq]/\Bx W (w.heap.size+1) 34 [.int .i64 m.cells,.slice ap m.za.length cp,.slice ao m.order.length co,.int .i64 m.now,.slice at' m.zd.length ct,.int .i64 m.born,.slice as' m.zm.length cs,.int .i64 m.code]/\Bx W (w.heap.size+2) 34 [.int .i64 0,.slice none 0 0,.slice none 0 0,.int .i64 0,.slice none 0 0,.int .i64 0,.slice none 0 0,.int .i64 0]) ⟨((zR _ _).alloc (by simp) _).alloc (by simp;omega) _,((Bx.new w _ _).alloc _).alloc _,(Bx.newAt _ _ _ (by simp)).alloc _,Bx.newAt _ _ _ (by simp)⟩ ?_
 rintro W0 ⟨B0,x0,y0,r0⟩
 have p0:=x0.cell 0 rfl
 obtain⟨⟨b0,b1,b2,b3,b4,b5,b6,b7⟩,_⟩:=jW y0
 have z0:=B0.size
 go_wp2_with fail
 refine(HOK _ B0).mono ?_
 rintro e W1 ⟨rfl,t1⟩
 have x1:=x0.below t1
 have y1:=y0.below t1
 have r1:=r0.below t1
 have B1:=B0.trans (t1.mono z0)
 have z1:=B1.size
 clear HOK t1 x0 y0 B0 z0 p0 b0 b1 b2 b3 b4 b5 b6 b7 r0
 have hso:=zbs (N:Int) W1
 rw[zx.2 ⟨by omega,by omega⟩] at hso
 obtain⟨⟨b0,b1,b2,b3,b4,b5,b6,b7⟩,_⟩:=jW y1
 have HLP1:=HLP.out W1 B1
 go_wp2_with fail
 refine hso.mono ?_
 rintro e W2 ⟨rfl,hw⟩
 obtain rfl:=hw.symm
 clear hso
 go_wp2_with fail
 refine HLP1.mono ?_
 rintro e W3 ⟨P,ρ,hLv,rfl,hPL,t3⟩
 have x3:=x1.below t3
 have y3:=y1.below t3
 have r3:=r1.below t3
 have B3:=B1.trans (t3.mono z1)
 have zt3:=t3.size
 have hrl:w.heap.size+2<W1.heap.size:=r1.lt
 clear HLP1 b0 b1 b2 b3 b4 b5 b6 b7 x1 y1 r1
 have v0:=x3.cell 0 rfl
 have u5:=y3.cell 5 rfl
 have u6:=y3.cell 6 rfl
 have u7:=y3.cell 7 rfl
 have HS:∀w':World,zO W3 w'->((w'.cell? (zH w.heap.size 0)=some (.slice aq ms.length cq)/\w'.cell? (zH (w.heap.size+1) 5)=some (.int .i64 m.born)/\w'.cell? (zH (w.heap.size+1) 6)=some (.slice as' m.zm.length cs)/\w'.cell? (zH (w.heap.size+1) 7)=some (.int .i64 m.code))/\zO W3 w'):=fun w' hb=>⟨⟨zc hb v0,zc hb u5,zc hb u6,zc hb u7⟩,hb⟩
 have HCL:Hid (∀W,zO W3 W->Calls Tryz.prog 46 #[.slice as' m.zm.length cs] W fun e w'=>∃v',e=.returned v'/\zl W.heap.size w' v' m.zm/\zO W w'):=fun W hb=>zdt _ _ _ ((HMS.out.below B3).below hb) (by have:=HSD.out;omega)
 obtain⟨bl,hbl⟩:∃bl,P.bl=bl:=⟨_,rfl⟩
 rw[hbl]
 have HLV:Hid (yj (W1.heap.size+1) ρ W3 P/\P.L=L/\P.bl=bl/\zO W1 W3/\Bx W3 (w.heap.size+2) 34 [.int .i64 0,.slice none 0 0,.slice none 0 0,.int .i64 0,.slice none 0 0,.int .i64 0,.slice none 0 0,.int .i64 0]):=⟨hLv,hPL,hbl,t3,r3⟩
 clear hLv hPL hbl t3 r3 x3 y3
 go_upto_region 4 with fail
 go_region_held3 (fun w'=>(w'.cell? (zH w.heap.size 0)=some (.slice aq ms.length cq)/\w'.cell? (zH (w.heap.size+1) 5)=some (.int .i64 m.born)/\w'.cell? (zH (w.heap.size+1) 6)=some (.slice as' m.zm.length cs)/\w'.cell? (zH (w.heap.size+1) 7)=some (.int .i64 m.code))/\zO W3 w')
  ((refine HS _ ?_;first
   | (with_reducible exact(‹(_/\_/\_/\_)/\zO W3 _›).2)
   | (with_reducible exact zS.drew)
   | (with_reducible exact hBA)
   | (with_reducible exact(zR _ _).drew)
   | (with_reducible exact hBA.alloc hBA.size _)
   | (with_reducible exact((((hBA.setCell (p:=zH _ 0) (by first | omega | simp) _).setCell (p:=zH _ 1) (by first | omega | simp) _).setCell (p:=zH _ 2) (by first | omega | simp) _).setCell (p:=zH _ 3) (by first | omega | simp) _).setCell (p:=zH _ 4) (by first | omega | simp) _)))
  (first
   | (go_at_call 46;refine(HCL.out _ (‹(_/\_/\_/\_)/\zO W3 _›).2).mono ?_;rintro e wA ⟨vA,rfl,KY,Uz⟩;have hBA:=Below.trans (‹(_/\_/\_/\_)/\zO W3 _›).2 (Uz.mono ((‹(_/\_/\_/\_)/\zO W3 _›).2).size);have hzA:=hBA.size;obtain⟨aA,kA,hvA,_⟩:=KY.slice;subst hvA;first | (have rC:=yU Uz (show((W3.alloc (.cells #[.slice none 0 0,.nilIface,.int .i64 0,.slice none 0 0,.int .i64 0] 90)).drew).rowIs _ _ 5 _ from uP W3 90 (.slice none 0 0) .nilIface (.int .i64 0) (.slice none 0 0) (.int .i64 0));obtain⟨⟨n0,n1,n2,n3,n4⟩,l0,l1,l2,l3,l4⟩:=kP rC) | skip))
 all_goals first
  | (have rn:=uP wA 90 (.slice aq ms.length cq) (.iface 82 (.pointer (some ⟨bl,0,none⟩))) (.int .i64 m.born) (.slice aA m.zm.length kA) (.int .i64 m.code);have BW:=(‹(_/\_/\_/\_)/\zO W3 (wA.alloc _)›).2;have hbrw:W3.heap.size<=wA.heap.size:=hzA;have sdW:=(KY.below (zR wA (.cells #[.slice aq ms.length cq,.iface 82 (.pointer (some ⟨bl,0,none⟩)),.int .i64 m.born,.slice aA m.zm.length kA,.int .i64 m.code] 90))).mono (B':=W3.heap.size) (by first | exact Nat.le_refl _ | (simp;done) | omega);have Wx:(Value.slice aA m.zm.length kA).ownBlock≠some wA.heap.size:=fun e=>(by have:=(KY.lt _ e).2;omega);clear HS HCL Uz hBA hzA KY;generalize wA.alloc (.cells #[.slice aq ms.length cq,.iface 82 (.pointer (some ⟨bl,0,none⟩)),.int .i64 m.born,.slice aA m.zm.length kA,.int .i64 m.code] 90)=W at *;generalize wA.heap.size=br at *)
  | (have rn:=zdC (zdB (zdA (Uw (zdz rC (.slice aq ms.length cq)) (.iface 82 (zJ bl 0))) (zI m.born)) (.slice aA m.zm.length kA)) (zI m.code);have BW:=(‹(_/\_/\_/\_)/\zO W3 (World.setCell _ _ _)›).2;have Wx:(Value.slice aA m.zm.length kA).ownBlock≠some W3.heap.size:=fun e=>(by have:=(KY.lt _ e).1;simp at this;omega);have sdW:=((((((KY.mono (B':=W3.heap.size) (by simp)).set_other (p:=zH W3.heap.size 0) (.slice aq ms.length cq) Wx).set_other (p:=zH W3.heap.size 1) (.iface 82 (zJ bl 0)) Wx).set_other (p:=zH W3.heap.size 2) (zI m.born) Wx).set_other (p:=zH W3.heap.size 3) (.slice aA m.zm.length kA) Wx).set_other (p:=zH W3.heap.size 4) (zI m.code) Wx);clear HS HCL Uz hBA hzA KY rC n0 n1 n2 n3 n4 l0 l1 l2 l3 l4;generalize (((((wA.setCell (zH W3.heap.size 0) (.slice aq ms.length cq)).setCell (zH W3.heap.size 1) (.iface 82 (zJ bl 0))).setCell (zH W3.heap.size 2) (zI m.born)).setCell (zH W3.heap.size 3) (.slice aA m.zm.length kA)).setCell (zH W3.heap.size 4) (zI m.code))=W at *;obtain⟨br,hbr⟩:∃br,br=W3.heap.size:=⟨_,rfl⟩;have hbrw:W3.heap.size<=br:=(by omega);rw[<-hbr] at rn Wx;rw[<-hbr];clear hbr)
 all_goals
  obtain⟨hLv,hPL,hbl,t3,r3⟩:=HLV.out
  have K:=HK.out
  have J7:=BW.size
  have rv:RV W1.heap.size (zv ρ W3 .other) W P bl br (.slice aq ms.length cq) (.slice aA m.zm.length kA) L.cells L.za.length h:=⟨(hLv.mono (Nat.le_succ _)).below BW,hbl,by omega,by rw[K.born,K.code];exact zfW rn,qt hbrw,by omega,by rw[K.zm];exact sdW.mono zt3,fun g e=>⟨qt (sdW.lt g e).1,fun e2=>Wx (by rw[<-e2];exact e)⟩,by rw[hPL];exact K.sim,by rw[hPL];exact K.ord,by rw[hPL];exact K.now,by rw[hPL],by rw[hPL]⟩
  have E1:JZ W1.heap.size W (.slice aq ms.length cq) ms:=⟨W1,rfl,t3.trans (BW.mono zt3),HQ.out.1.below B1,HQ.out.2.below B1⟩
  have HST:=zbt rv E1 K.good K.za K.cells N (by rw[K.zm];have:=HSD.out;omega)
  have r4:=r3.below BW
  have HR4:Hid (Bx W (w.heap.size+2) 34 [.int .i64 0,.slice none 0 0,.slice none 0 0,.int .i64 0,.slice none 0 0,.int .i64 0,.slice none 0 0,.int .i64 0]/\zO w W):=⟨r4,B3.trans (BW.mono B3.size)⟩
  clear rv E1 rn sdW Wx r4 r3 v0 u5 u6 u7 hLv hPL hbl t3 K
  go_upto_region 6 with(go_at_call 47;refine HST.mono ?_;rintro e W5 ⟨rfl,ρ',P',vsd',k5,b5⟩)
  have gR:=Good.run N h HK.out.good
  obtain⟨hlR,_⟩:=gR.lens
  obtain⟨m4,c4,hvs4,_⟩:=k5.zm.slice
  obtain⟨n4,hn4⟩:∃n4,(qi ms N h).zm.length=n4:=⟨_,rfl⟩
  rw[hn4] at hvs4
  subst hvs4
  have xt:=HK.out.za
  have hfw:=k5.sim.few (by omega) (by rw[k5.hnp];omega)
  have hwf:=k5.sim.wf
  have hfw2:P'.L.za.length<=1000/\∀i,(hi:i<P'.L.za.length)->P'.L.za[i].zg.length<=1000:=⟨by rw[k5.hnp];omega,fun i hi=>by
   have:=hfw.1.f i
   rw[kx hi] at this
   omega⟩
  have HMA:=zfo k5.lv hwf hfw2 (by omega) (qi ms N h).born (qi ms N h).code _ _ k5.zm.at
  obtain⟨m2,c2,zdT,_⟩:=(k5.lv .order).1.slice
  obtain⟨n2,hn2⟩:∃n2,P'.L.order.length=n2:=⟨_,rfl⟩
  rw[hn2] at zdT
  have HRAN:Hid (zcY L P'.L (qi ms N h)):=⟨k5.sim,k5.ord,k5.now,k5.hce,k5.hnp⟩
  obtain⟨M,hM⟩:∃M,yM P'.L (qi ms N h).born (qi ms N h).zm (qi ms N h).code=M:=⟨_,rfl⟩
  rw[hM,zdT] at HMA
  have hbl5:=k5.hbl
  have hMb:(qi ms N h).born=M.born:=by rw[<-hM];rfl
  have hMc:(qi ms N h).code=M.code:=by rw[<-hM];rfl
  rw[hbl5] at HMA
  have r5:Bx W5 (w.heap.size+2) 34 [.int .i64 0,.slice none 0 0,.slice none 0 0,.int .i64 0,.slice none 0 0,.int .i64 0,.slice none 0 0,.int .i64 0]:=HR4.out.1.kept (b5.block _ hrl)
  have B5:zO w W5:=HR4.out.2.trans (b5.mono z1)
  have y5:=k5.run
  rw[hMb,hMc] at y5 HMA
  have j2:=y5.cell 2 rfl
  have j3:=y5.cell 3 rfl
  have j4:=y5.cell 4 rfl
  have HK5:Hid (yj W1.heap.size ρ' W5 P'/\P'.L.wf/\P'.L.za.length<=1000/\zl W1.heap.size W5 (.slice m4 n4 c4) (qi ms N h).zm/\P'.vo=.slice m2 n2 c2/\yM P'.L (qi ms N h).born (qi ms N h).zm (qi ms N h).code=M):=⟨k5.lv,hwf,hfw2.1,k5.zm,zdT,hM⟩
  unfold zu at HMA
  clear y5 k5 hwf hfw hfw2 zdT hM gR HST HR4 hMb hMc
  have z5:=B5.size
  have hr5l:=r5.lt
  go_wp2_with fail
  refine HMA.mono ?_
  rintro e W6 ⟨v1,v3,rfl,hmo,b6⟩
  obtain⟨⟨m1,c1,e1⟩,m3,c3,e3⟩:=hmo.slices
  obtain⟨n1,Ww⟩:∃n1,P'.L.za.length=n1:=⟨_,rfl⟩
  obtain⟨n3,hn3⟩:∃n3,P'.L.zd.length=n3:=⟨_,rfl⟩
  rw[Ww] at e1
  rw[hn3] at e3
  subst e1 e3
  have r6:=r5.below b6
  have B6:=B5.trans (b6.mono z5)
  obtain⟨⟨q0,q1,q2,q3,q4,q5,q6,q7⟩,⟨g0,g1,g2,g3,g4,g5,g6,g7⟩⟩:=jW r6
  have HE:Hid (zO w ((((((((W6.setCell (zH (w.heap.size+2) 0) (.int .i64 M.cells)).setCell (zH (w.heap.size+2) 1) (.slice m1 n1 c1)).setCell (zH (w.heap.size+2) 2) (.slice m2 n2 c2)).setCell (zH (w.heap.size+2) 3) (.int .i64 M.now)).setCell (zH (w.heap.size+2) 4) (.slice m3 n3 c3)).setCell (zH (w.heap.size+2) 5) (.int .i64 M.born)).setCell (zH (w.heap.size+2) 6) (.slice m4 n4 c4)).setCell (zH (w.heap.size+2) 7) (.int .i64 M.code))/\Bx ((((((((W6.setCell (zH (w.heap.size+2) 0) (.int .i64 M.cells)).setCell (zH (w.heap.size+2) 1) (.slice m1 n1 c1)).setCell (zH (w.heap.size+2) 2) (.slice m2 n2 c2)).setCell (zH (w.heap.size+2) 3) (.int .i64 M.now)).setCell (zH (w.heap.size+2) 4) (.slice m3 n3 c3)).setCell (zH (w.heap.size+2) 5) (.int .i64 M.born)).setCell (zH (w.heap.size+2) 6) (.slice m4 n4 c4)).setCell (zH (w.heap.size+2) 7) (.int .i64 M.code)) (w.heap.size+2) 34 [.int .i64 M.cells,.slice m1 n1 c1,.slice m2 n2 c2,.int .i64 M.now,.slice m3 n3 c3,.int .i64 M.born,.slice m4 n4 c4,.int .i64 M.code]/\W6.heap.size<=(((((((((W6.setCell (zH (w.heap.size+2) 0) (.int .i64 M.cells)).setCell (zH (w.heap.size+2) 1) (.slice m1 n1 c1)).setCell (zH (w.heap.size+2) 2) (.slice m2 n2 c2)).setCell (zH (w.heap.size+2) 3) (.int .i64 M.now)).setCell (zH (w.heap.size+2) 4) (.slice m3 n3 c3)).setCell (zH (w.heap.size+2) 5) (.int .i64 M.born)).setCell (zH (w.heap.size+2) 6) (.slice m4 n4 c4)).setCell (zH (w.heap.size+2) 7) (.int .i64 M.code))).heap.size/\∀g,g≠w.heap.size+2->(((((((((W6.setCell (zH (w.heap.size+2) 0) (.int .i64 M.cells)).setCell (zH (w.heap.size+2) 1) (.slice m1 n1 c1)).setCell (zH (w.heap.size+2) 2) (.slice m2 n2 c2)).setCell (zH (w.heap.size+2) 3) (.int .i64 M.now)).setCell (zH (w.heap.size+2) 4) (.slice m3 n3 c3)).setCell (zH (w.heap.size+2) 5) (.int .i64 M.born)).setCell (zH (w.heap.size+2) 6) (.slice m4 n4 c4)).setCell (zH (w.heap.size+2) 7) (.int .i64 M.code))).heap[g]?=W6.heap[g]?):=by
   have HW:=((((((((Wr.refl1 (w.heap.size+2) W6).set1 (o:=0) (zI M.cells)).set1 (o:=1) (.slice m1 n1 c1)).set1 (o:=2) (.slice m2 n2 c2)).set1 (o:=3) (zI M.now)).set1 (o:=4) (.slice m3 n3 c3)).set1 (o:=5) (zI M.born)).set1 (o:=6) (.slice m4 n4 c4)).set1 (o:=7) (zI M.code)
   exact⟨HW.below1 B6 zD (Nat.le_add_right _ _),(((((((r6.set 0 _).set 1 _).set 2 _).set 3 _).set 4 _).set 5 _).set 6 _).set 7 _,by simp only[World.size_setCell];exact Nat.le_refl _,fun g hg=>(Below.heap_setCell _ ⟨w.heap.size+2,7,none⟩ _ _ hg).trans ((Below.heap_setCell _ ⟨w.heap.size+2,6,none⟩ _ _ hg).trans ((Below.heap_setCell _ ⟨w.heap.size+2,5,none⟩ _ _ hg).trans ((Below.heap_setCell _ ⟨w.heap.size+2,4,none⟩ _ _ hg).trans ((Below.heap_setCell _ ⟨w.heap.size+2,3,none⟩ _ _ hg).trans ((Below.heap_setCell _ ⟨w.heap.size+2,2,none⟩ _ _ hg).trans ((Below.heap_setCell _ ⟨w.heap.size+2,1,none⟩ _ _ hg).trans (Below.heap_setCell _ ⟨w.heap.size+2,0,none⟩ _ _ hg)))))))⟩
  have HF:Hid (∀W9:World,W6.heap.size<=W9.heap.size->(∀g,g≠w.heap.size+2->W9.heap[g]?=W6.heap[g]?)->yC W9 (.slice m1 n1 c1) (.slice m2 n2 c2) (.slice m3 n3 c3) (.slice m4 n4 c4) (yM P'.L (qi ms N h).born (qi ms N h).zm (qi ms N h).code)):=fun W9 hs hk=>by
   obtain⟨l5,hwf,hpn,s5,zdT,_⟩:=HK5.out
   have l9:=(l5.below b6).from hs fun g h1 _=>hk g (by omega)
   have mo9:=hmo.kept hs fun g h1 _=>hk g (by omega)
   have s9:=(s5.below b6).kept hs fun g e=>hk g (by have:=(s5.lt g e).1;omega)
   have:=uF.at l9 hwf hpn mo9 s9.at (qi ms N h).born (qi ms N h).code
   rw[zdT] at this
   exact this
  have HEQ:Hid (yM P'.L (qi ms N h).born (qi ms N h).zm (qi ms N h).code=M):=HK5.out.2.2.2.2.2
  clear r6 r5 hmo HMA j2 j3 j4 HK5
  go_wp2
  refine xW (fun W9=>zO w W9/\Bx W9 (w.heap.size+2) 34 [.int .i64 M.cells,.slice m1 n1 c1,.slice m2 n2 c2,.int .i64 M.now,.slice m3 n3 c3,.int .i64 M.born,.slice m4 n4 c4,.int .i64 M.code]/\W6.heap.size<=W9.heap.size/\∀g,g≠w.heap.size+2->W9.heap[g]?=W6.heap[g]?) HE.out ?_
  rintro W9 ⟨k1,k2,k3,k4⟩
  obtain⟨⟨q0,q1,q2,q3,q4,q5,q6,q7⟩,_⟩:=jW k2
  have hE:=HEQ.out
  exact bodyPost_ret (v:=.tuple #[.agg #[zI M.cells,.slice m1 n1 c1,.slice m2 n2 c2,zI M.now,.slice m3 n3 c3,zI M.born,.slice m4 n4 c4,zI M.code],.bool true]) (by simp[results,Tryz.results15,go_sem,q0,q1,q2,q3,q4,q5,q6,q7]) rfl ⟨P'.L,.slice m1 n1 c1,.slice m2 n2 c2,.slice m3 n3 c3,.slice m4 n4 c4,by rw[hE];rfl,HF.out W9 k3 k4,HRAN.out,k1⟩
theorem Ux {α:Type} (F:Nat->List α):∀{n i:Nat},i<n->∃rest,(List.range n).flatMap F=(List.range i).flatMap F ++ (F i ++ rest)
 | 0,i,h=>absurd h yB
 | n+1,i,h=>by
  rw[List.range_succ,List.flatMap_append]
  by_cases e:i=n
  ·subst e
   exact⟨[],by simp⟩
  ·obtain⟨r,hr⟩:=Ux F (show i<n by omega)
   exact⟨r ++ [n].flatMap F,by rw[hr];simp⟩
theorem zeV {α:Type} (F:Nat->List α) {n i k:Nat} {x:α} (h:i<n) (hx:(F i)[k]?=some x):((List.range n).flatMap F)[((List.range i).flatMap F).length+k]?=some x:=by
 obtain⟨r,hr⟩:=Ux F h
 rw[hr,List.getElem?_append_right (by omega),Nat.add_sub_cancel_left,List.getElem?_append_left (List.getElem?_eq_some_iff.1 hx).1,hx]
theorem Wl {α β:Type} (F:Nat->List α) (G:Nat->List β) (h:∀i,(F i).length=(G i).length):∀n,((List.range n).flatMap F).length=((List.range n).flatMap G).length
 | 0=>rfl
 | n+1=>by
  rw[List.range_succ,List.flatMap_append,List.flatMap_append,List.length_append,List.length_append,Wl F G h n]
  simp[h n]
def fbs (L:yw) (i:Nat):List Nat:=(L.za.getD i ⟨-1,[]⟩).zg.map fun f=>f.body
def allB (L:yw):List Nat:=(List.range L.za.length).flatMap (fbs L) ++ L.zd.map fun t=>t.body
def phi (L:yw) (p:Nat):Nat:=(allB L).getD p 0
def pF (L:yw) (i k:Nat):Nat:=((List.range i).flatMap (fbs L)).length+k
def nF (L:yw):Nat:=((List.range L.za.length).flatMap (fbs L)).length
section
variable {L:yw} {born:Int} {zm:yH} {code:Int}
theorem kr:(yM L born zm code).za.length=L.za.length:=by show(L.za.map _).length=_;rw[List.length_map]
theorem jT:(yM L born zm code).zd.length=L.zd.length:=by show(L.zd.map _).length=_;rw[List.length_map]
theorem YR {i:Nat} (hi:i<L.za.length):pgAt (yM L born zm code) (i:Int)=pgM L L.za[i]:=by
 rw[kE (by rw[kr];exact hi)]
 exact List.getElem_map (f:=pgM L) (l:=L.za) (i:=i) (h:=by rw[List.length_map];exact hi)
theorem zc9 (i:Nat):(qJ (yM L born zm code) i (pgAt (yM L born zm code) (i:Int)).zg.length).length=(fbs L i).length:=by
 rw[wd]
 unfold fbs
 rw[List.length_map]
 by_cases hi:i<L.za.length
 ·rw[YR hi]
  show(List.map _ _).length=_
  simp[hi]
 ·unfold pgAt
  rw[Int.toNat_natCast,List.getD_eq_getElem?_getD,List.getD_eq_getElem?_getD,List.getElem?_eq_none (by rw[kr];omega),List.getElem?_eq_none (by omega)]
  rfl
theorem zdb {i:Nat} (hi:i<=L.za.length):qc (yM L born zm code).za i=((List.range i).flatMap (fbs L)).length:=by
 rw[<-qY (m:=yM L born zm code) (by rw[kr];exact hi)]
 exact Wl _ _ zc9 i
theorem WR:yc (yM L born zm code).za=nF L:=by
 unfold yc
 rw[kr,zdb zD]
 rfl
theorem zeW {i k:Nat} {f:jV} (hf:L.fr i k=some f):i<L.za.length/\(fbs L i)[k]?=some f.body:=by
 obtain⟨hi,hk,he⟩:=yw.fr_some hf
 refine⟨hi,?_⟩
 unfold fbs
 rw[List.getD_eq_getElem?_getD,List.getElem?_eq_getElem hi,Option.getD_some,List.getElem?_map,List.getElem?_eq_getElem hk,he]
 rfl
theorem Z5 {i k:Nat} {f:jV} (hf:L.fr i k=some f):phi L (pF L i k)=f.body/\pF L i k<nF L:=by
 obtain⟨hi,hb⟩:=zeW hf
 have h1:=zeV (fbs L) hi hb
 have h2:pF L i k<nF L:=(List.getElem?_eq_some_iff.1 h1).1
 refine⟨?_,h2⟩
 unfold phi allB
 rw[List.getD_eq_getElem?_getD,List.getElem?_append_left h2]
 have h3:((List.range L.za.length).flatMap (fbs L))[pF L i k]?=some f.body:=h1
 rw[h3]
 rfl
theorem Q3 {j:Nat} {t:km} (ht:L.zd[j]?=some t):phi L (nF L+j)=t.body:=by
 unfold phi allB
 rw[List.getD_eq_getElem?_getD,List.getElem?_append_right (by unfold nF;omega)]
 have:nF L+j - ((List.range L.za.length).flatMap (fbs L)).length=j:=by unfold nF;omega
 rw[this,List.getElem?_map,ht]
 rfl
theorem zbv {i k:Nat} {f:jV} (hf:L.fr i k=some f):(yQ (yM L born zm code)).ze[pF L i k]?=some (j8 (yM L born zm code) i k (frM L f)):=by
 obtain⟨hi,hk,he⟩:=yw.fr_some hf
 have hpl:i<(yM L born zm code).za.length:=by rw[kr];exact hi
 have xt:(pgAt (yM L born zm code) (i:Int)).zg=L.za[i].zg.map (frM L):=by rw[YR hi];rfl
 have hfr:frAt (yM L born zm code) (i:Int) (k:Int)=frM L f:=by
  unfold frAt
  rw[xt,Int.toNat_natCast,List.getD_eq_getElem?_getD,List.getElem?_map,List.getElem?_eq_getElem hk,he]
  rfl
 have h1:(qJ (yM L born zm code) i (pgAt (yM L born zm code) (i:Int)).zg.length)[k]?=some (j8 (yM L born zm code) i k (frM L f)):=by
  unfold qJ
  rw[List.getElem?_map,List.getElem?_range (by rw[xt,List.length_map];exact hk),Option.map_some,hfr]
 have h2:=zeV (fun j=>qJ (yM L born zm code) j (pgAt (yM L born zm code) (j:Int)).zg.length) hpl h1
 have h3:((List.range i).flatMap fun j=>qJ (yM L born zm code) j (pgAt (yM L born zm code) (j:Int)).zg.length).length+k=pF L i k:=by
  unfold pF
  rw[Wl _ _ zc9 i]
 rw[h3] at h2
 show(yR _ _ ++ qV _ _)[_]?=_
 have h5:pF L i k<(yR (yM L born zm code) (yM L born zm code).za.length).length:=(List.getElem?_eq_some_iff.1 h2).1
 rw[List.getElem?_append_left h5]
 exact h2
theorem zbw {j:Nat} {t:km} (ht:L.zd[j]?=some t):(yQ (yM L born zm code)).ze[nF L+j]?=some (xl (yM L born zm code) (ZG L t)):=by
 obtain⟨hj,he⟩:=List.getElem?_eq_some_iff.1 ht
 have hl:(yR (yM L born zm code) (yM L born zm code).za.length).length=nF L:=by rw[qY zD];exact WR
 show(yR _ _ ++ qV _ _)[_]?=_
 rw[List.getElem?_append_right (by rw[hl];omega),hl,Nat.add_sub_cancel_left]
 unfold qV
 rw[List.getElem?_map,List.getElem?_range (by rw[jT];exact hj),Option.map_some,ut (by rw[jT];exact hj)]
 have e:(yM L born zm code).zd[j]'(by rw[jT];exact hj)=ZG L L.zd[j]:=List.getElem_map (f:=ZG L) (l:=L.zd) (i:=j) (h:=by rw[List.length_map];exact hj)
 rw[e,he]
def PlS (L:yw) (p:Nat):Prop:=(∃i k f,L.fr i k=some f/\p=pF L i k)\/∃j t,L.zd[j]?=some t/\t.page=-1/\p=nF L+j
theorem Vu {i k:Nat} {f:jV} (hf:L.fr i k=some f):Q4 (yM L born zm code) (i:Int) (k:Int)=(pF L i k:Int):=by
 unfold Q4
 rw[Int.toNat_natCast,zdb (Nat.le_of_lt (zeW hf).1)]
 unfold pF
 omega
theorem US {i m:Nat} {f:jV} (h1:L.now=(i:Int)) (h2:i<L.za.length) (hm:qv L i=m+1) (hf:L.fr i m=some f):kF (yM L born zm code)=(pF L i m:Int):=by
 have e0:(yM L born zm code).now=(i:Int):=h1
 have e1:(pgAt (yM L born zm code) (i:Int)).zg.length=m+1:=by
  rw[YR h2]
  show(List.map _ _).length=_
  rw[List.length_map,<-kx h2,hm]
 unfold kF
 rw[e0,e1,if_pos ⟨zx.2 ⟨by omega,by rw[kr];omega⟩,by omega⟩]
 have e2:((m+1:Nat):Int) - 1=(m:Int):=by omega
 rw[e2,Vu hf]
variable {h:Hp}
theorem Vv (s:xE 0 0 L h) {j:Nat} (hj:j<L.zd.length):∃p:Nat,vh (yM L born zm code) (j:Int)=(p:Int)/\PlS L p/\(phi L p:Int)=Ya L.zd (j:Int):=by
 obtain⟨t,ht⟩:∃t,L.zd[j]?=some t:=⟨_,List.getElem?_eq_getElem hj⟩
 have ZT:uU (yM L born zm code) (j:Int)=ZG L t:=by
  have e:(yM L born zm code).zd[j]'(by rw[jT];exact hj)=ZG L L.zd[j]:=List.getElem_map (f:=ZG L) (l:=L.zd) (i:=j) (h:=by rw[List.length_map];exact hj)
  rw[ut (by rw[jT];exact hj),e,(List.getElem?_eq_some_iff.1 ht).2]
 have hB:Ya L.zd (j:Int)=(t.body:Int):=by
  unfold Ya
  rw[if_neg (by omega),Int.toNat_natCast,ht]
  rfl
 rw[hB]
 unfold vh
 rw[ZT]
 rcases(s.tb j t ht).2 with h0 | ⟨i,k,f,hf,_,_,hb,hp,hq⟩
 ·have e:(ZG L t).page=-1:=by unfold ZG;rw[if_pos h0]
  rw[if_pos e,WR]
  exact⟨nF L+j,by omega,.inr ⟨j,t,ht,h0,rfl⟩,by rw[Q3 ht]⟩
 ·have h1:t.page≠-1:=by rw[hp];omega
  have e1:(ZG L t).page=(i:Int):=by unfold ZG;rw[if_neg h1];exact hp
  have e2:(ZG L t).place=(k:Int):=by unfold ZG;rw[if_neg h1];exact hq
  rw[e1,e2,if_neg (by omega),Vu hf]
  exact⟨pF L i k,rfl,.inl ⟨i,k,f,hf,rfl⟩,by rw[(Z5 hf).1,hb]⟩
theorem zba (s:xE 0 0 L h) {j:Int} (hj:ui L.zd.length j):KA (PlS L) (xH (yM L born zm code) j)/\up (phi L) (xH (yM L born zm code) j)=Ya L.zd j:=by
 rcases hj with rfl | ⟨k,rfl,hk⟩
 ·have e:xH (yM L born zm code) (-1)=-1:=if_pos rfl
  rw[e]
  exact⟨.inl (by omega),rfl⟩
 ·obtain⟨p,h1,h2,h3⟩:=Vv (born:=born) (zm:=zm) (code:=code) s hk
  have e:xH (yM L born zm code) (k:Int)=(p:Int):=by
   unfold xH
   rw[if_neg (by omega)]
   exact h1
  rw[e,Yb]
  exact⟨.inr ⟨p,rfl,h2⟩,h3⟩
theorem XE (s:xE 0 0 L h) (F:Int->Int) (hF:∀j:Nat,F (j:Int)=vh (yM L born zm code) (j:Int)) {vs:yH} (hv:Zr L.zd.length vs) :
 Ye (PlS L) (vs.map (jx F))/\(vs.map (jx F)).map (upV (phi L))=vs.map (yP L.zd):=by
 refine⟨fun v hm h2=>?_,?_⟩
 ·obtain⟨u,hu,rfl⟩:=List.mem_map.1 hm
  have hk:u.1=2:=by
   unfold jx at h2
   split at h2
   ·assumption
   ·exact h2
  obtain⟨j,e,hj⟩:=hv u hu hk
  obtain⟨p,h3,h4,_⟩:=Vv (born:=born) (zm:=zm) (code:=code) s hj
  unfold jx
  rw[if_pos hk,e,hF,h3]
  exact .inr ⟨p,rfl,h4⟩
 ·rw[List.map_map]
  refine List.map_congr_left fun u hu=>?_
  simp only[Function.comp_apply]
  by_cases hk:u.1=2
  ·obtain⟨j,e,hj⟩:=hv u hu hk
   obtain⟨p,h3,h4,h5⟩:=Vv (born:=born) (zm:=zm) (code:=code) s hj
   unfold jx yP
   rw[if_pos hk,if_pos hk,e,hF,h3]
   unfold upV
   rw[if_pos hk,Yb,h5]
  ·unfold jx yP
   rw[if_neg hk,if_neg hk,zdj _ hk]
theorem zgo (s:xE 0 0 L h) {i k:Nat} {f:jV} (hf:L.fr i k=some f):KA (PlS L) (VE (yM L born zm code) i k)/\up (phi L) (VE (yM L born zm code) i k)=qE L i k:=by
 obtain⟨hi,hk,he⟩:=yw.fr_some hf
 unfold VE
 cases k with
 | zero =>
  rw[if_neg (by omega),YR hi]
  have:=zba (born:=born) (zm:=zm) (code:=code) s (s.ba i _ (List.getElem?_eq_getElem hi))
  refine⟨this.1,this.2.trans ?_⟩
  show _=Ya L.zd _
  rw[List.getElem?_eq_getElem hi]
  rfl
 | succ q =>
  have hg:L.fr i q=some (L.za[i].zg[q]'(by omega)):=yw.fr_at hi (by omega)
  have e:((q+1:Nat):Int) - 1=(q:Int):=by omega
  rw[if_pos (by omega),e,Vu hg,Yb,(Z5 hg).1]
  refine⟨.inr ⟨_,rfl,.inl ⟨i,q,_,hg,rfl⟩⟩,?_⟩
  show _=((L.fr i q).map fun f=>(f.body:Int)).getD (-1)
  rw[hg]
  rfl
theorem Vo (s:xE 0 0 L h) (hw:uZ L h):Zw (PlS L) (phi L) (yQ (yM L born zm code)) h:=by
 have key:∀p,PlS L p->∃c,(yQ (yM L born zm code)).ze[p]?=some c/\phi L p<h.ze.length/\h.ze.getD (phi L p) Cl.none=upC (phi L) c/\KA (PlS L) c.zi/\Ye (PlS L) c.zh/\Ye (PlS L) c.zf:=by
  rintro p (⟨i,k,f,hf,rfl⟩ | ⟨j,t,ht,h0,rfl⟩)
  ·have hb:=(s.fb i k f hf (yv _ _)).1
   obtain⟨c,hc,ha⟩:=s.c f.body _ (List.getElem?_eq_getElem hb)
   have hbd:jR L f.body=L.zj[f.body]:=Qd hb
   obtain⟨v1,v2⟩:=XE (born:=born) (zm:=zm) (code:=code) s (vh (yM L born zm code)) (fun _=>rfl) ha.vt
   obtain⟨w1,w2⟩:=XE (born:=born) (zm:=zm) (code:=code) s (vh (yM L born zm code)) (fun _=>rfl) ha.vs
   obtain⟨d1,d2⟩:=zgo (born:=born) (zm:=zm) (code:=code) s hf
   have hd:=s.al i k f _ hf (yv _ _) (List.getElem?_eq_getElem hb)
   refine⟨_,zbv hf,by rw[(Z5 hf).1,s.n];exact hb,?_,d1,?_,?_⟩
   ·rw[(Z5 hf).1,List.getD_eq_getElem?_getD,hc,Option.getD_some]
    unfold upC j8 frM
    simp only[]
    rw[hbd,v2,w2,d2,<-ha.m,<-ha.pc,<-ha.zh,<-ha.zf,<-s.fs i k f c hf (yv _ _) hc,<-hd,<-ha.zy]
   ·show Ye _ ((jR L f.body).zh.map _)
    rw[hbd]
    exact v1
   ·show Ye _ ((jR L f.body).zf.map _)
    rw[hbd]
    exact w1
  ·have hb:=(s.tb j t ht).1
   obtain⟨c,hc,ha⟩:=s.c t.body _ (List.getElem?_eq_getElem hb)
   have hbd:jR L t.body=L.zj[t.body]:=Qd hb
   have hF:∀q:Nat,xH (yM L born zm code) (q:Int)=vh (yM L born zm code) (q:Int):=fun q=>by unfold xH;rw[if_neg (by omega)]
   obtain⟨v1,v2⟩:=XE (born:=born) (zm:=zm) (code:=code) s (xH (yM L born zm code)) hF ha.vt
   obtain⟨w1,w2⟩:=XE (born:=born) (zm:=zm) (code:=code) s (xH (yM L born zm code)) hF ha.vs
   obtain⟨d1,d2⟩:=zba (born:=born) (zm:=zm) (code:=code) s (s.se j t ht h0)
   have hth:xl (yM L born zm code) (ZG L t)=⟨L.zj[t.body].m,L.zj[t.body].pc,L.zj[t.body].zh.map (jx (xH (yM L born zm code))),L.zj[t.body].zf.map (jx (xH (yM L born zm code))),xH (yM L born zm code) t.zi,L.zj[t.body].zy⟩:=by
    unfold xl ZG zc5
    rw[if_pos h0,if_pos rfl,hbd]
   refine⟨_,zbw ht,by rw[Q3 ht,s.n];exact hb,?_,?_,?_,?_⟩
   ·rw[Q3 ht,List.getD_eq_getElem?_getD,hc,Option.getD_some,hth]
    unfold upC
    simp only[]
    rw[v2,w2,d2,<-ha.m,<-ha.pc,<-ha.zh,<-ha.zf,<-s.ts j t c ht h0 hc,<-ha.zy]
   ·rw[hth];exact d1
   ·rw[hth];exact v1
   ·rw[hth];exact w1
 have at_:∀p,PlS L p->∃c,(yQ (yM L born zm code)).ze.getD p Cl.none=c/\h.ze.getD (phi L p) Cl.none=upC (phi L) c/\KA (PlS L) c.zi/\Ye (PlS L) c.zh/\Ye (PlS L) c.zf:=fun p hp=>by
  obtain⟨c,h1,_,h3,h4,h5,h6⟩:=key p hp
  exact⟨c,by rw[List.getD_eq_getElem?_getD,h1];rfl,h3,h4,h5,h6⟩
 refine⟨?_,fun p hp=>?_,fun p hp=>?_,fun p hp=>?_,fun p hp=>?_,fun p hp=>?_,fun p hp=>?_,?_,?_⟩
 ·rintro p q (⟨i,k,f,hf,rfl⟩ | ⟨j,t,ht,h0,rfl⟩) (⟨i',k',f',hf',rfl⟩ | ⟨j',t',ht',h0',rfl⟩) e
  ·rw[(Z5 hf).1,(Z5 hf').1] at e
   obtain⟨rfl,rfl⟩:=s.fi i k f i' k' f' hf (yv _ _) hf' (yv _ _) e
   rfl
  ·rw[(Z5 hf).1,Q3 ht'] at e
   exact absurd e.symm (s.tf i k f j' t' hf (yv _ _) ht' h0')
  ·rw[Q3 ht,(Z5 hf').1] at e
   exact absurd e (s.tf i' k' f' j t hf' (yv _ _) ht h0)
  ·rw[Q3 ht,Q3 ht'] at e
   rw[s.ti j t j' t' ht ht' e]
 ·obtain⟨c,h1,_⟩:=key p hp
  exact(List.getElem?_eq_some_iff.1 h1).1
 ·obtain⟨c,_,h2,_⟩:=key p hp
  exact h2
 ·obtain⟨c,h1,h2,_⟩:=at_ p hp
  rw[h1];exact h2
 ·obtain⟨c,h1,_,h3,_⟩:=at_ p hp
  rw[h1];exact h3
 ·obtain⟨c,h1,_,_,h4,_⟩:=at_ p hp
  rw[h1];exact h4
 ·obtain⟨c,h1,_,_,_,h5⟩:=at_ p hp
  rw[h1];exact h5
 ·show h.now=up _ (kF _)
  rcases hw with⟨h1,h2⟩ | ⟨i,h1,h2,h3,h4⟩
  ·have e:kF (yM L born zm code)=-1:=by
    unfold kF
    rw[if_neg]
    rintro⟨e1,_⟩
    have e2:=(zx.1 e1).1
    have e3:(yM L born zm code).now=-1:=h1
    omega
   rw[e,h2]
   rfl
  ·obtain⟨m,hm⟩:∃m,qv L i=m+1:=⟨qv L i - 1,by omega⟩
   obtain⟨f,hf⟩:=vB (L:=L) (i:=i) (k:=m) (by omega)
   rw[h4,Js hm hf]
   have e:=US (born:=born) (zm:=zm) (code:=code) h1 h2 hm hf
   rw[e,Yb,(Z5 hf).1]
 ·show KA _ (kF _)
  rcases hw with⟨h1,h2⟩ | ⟨i,h1,h2,h3,h4⟩
  ·left
   unfold kF
   rw[if_neg]
   ·omega
   ·rintro⟨e1,_⟩
    have e2:=(zx.1 e1).1
    have e3:(yM L born zm code).now=-1:=h1
    omega
  ·obtain⟨m,hm⟩:∃m,qv L i=m+1:=⟨qv L i - 1,by omega⟩
   obtain⟨f,hf⟩:=vB (L:=L) (i:=i) (k:=m) (by omega)
   rw[US (born:=born) (zm:=zm) (code:=code) h1 h2 hm hf]
   exact .inr ⟨_,rfl,.inl ⟨i,m,f,hf,rfl⟩⟩
theorem zfC (s:xE 0 0 L h) (hw:uZ L h):jq (yQ (yM L born zm code))=jq h:=(Vo s hw).view.symm
end
section
variable {L:yw} {born:Int} {zm:yH} {code:Int} {h:Hp}
theorem Vn {i:Nat} (hi:i<(yM L born zm code).za.length):∃hi':i<L.za.length,(yM L born zm code).za[i]=pgM L L.za[i]:=by
 have hi':i<L.za.length:=by rw[kr] at hi;exact hi
 exact⟨hi',List.getElem_map (f:=pgM L) (l:=L.za) (i:=i) (h:=by rw[List.length_map];exact hi')⟩
theorem UP {i k:Nat} (hi:i<(yM L born zm code).za.length) (hk:k<(yM L born zm code).za[i].zg.length):∃f,L.fr i k=some f/\(yM L born zm code).za[i].zg[k]=frM L f:=by
 obtain⟨hi',he⟩:=Vn hi
 have hk':k<L.za[i].zg.length:=by
  rw[he] at hk
  have:k<(L.za[i].zg.map (frM L)).length:=hk
  rw[List.length_map] at this
  exact this
 refine⟨L.za[i].zg[k],yw.fr_at hi' hk',?_⟩
 have e2:(yM L born zm code).za[i].zg=L.za[i].zg.map (frM L):=by rw[he];rfl
 simp only[e2,List.getElem_map]
theorem Vq {j:Nat} (hj:j<(yM L born zm code).zd.length):∃t,L.zd[j]?=some t/\(yM L born zm code).zd[j]=ZG L t:=by
 have hj':j<L.zd.length:=by rw[jT] at hj;exact hj
 exact⟨L.zd[j],List.getElem?_eq_getElem hj',List.getElem_map (f:=ZG L) (l:=L.zd) (i:=j) (h:=by rw[List.length_map];exact hj')⟩
theorem zda {i k:Nat} {f:jV} (hf:L.fr i k=some f):frB (yM L born zm code) (i:Int) (k:Int)=true:=by
 obtain⟨hi,hk,he⟩:=yw.fr_some hf
 have e:(pgAt (yM L born zm code) (i:Int)).zg.length=L.za[i].zg.length:=by
  rw[YR hi]
  show(List.map _ _).length=_
  rw[List.length_map]
 unfold frB
 rw[e,Bool.and_eq_true,zx,zx,kr]
 exact⟨⟨by omega,by omega⟩,by omega,by omega⟩
theorem Vp (s:xE 0 0 L h) {j:Nat} (hj:j<L.zd.length):qU (yM L born zm code) (j:Int)=true/\qy (j:Int) 0 (((yM L born zm code).zd.length:Int) - 1)=true:=by
 have h1:qy (j:Int) 0 (((yM L born zm code).zd.length:Int) - 1)=true:=zx.2 ⟨by omega,by rw[jT];omega⟩
 obtain⟨t,ht,he⟩:=Vq (L:=L) (born:=born) (zm:=zm) (code:=code) (j:=j) (by rw[jT];exact hj)
 refine⟨?_,h1⟩
 unfold qU
 rw[h1,ut (by rw[jT];exact hj),he,Bool.true_and]
 rcases(s.tb j t ht).2 with h0 | ⟨i,k,f,hf,_,_,hb,hp,hq⟩
 ·have e:(ZG L t).page=-1:=by unfold ZG;rw[if_pos h0]
  rw[e]
  rfl
 ·have xp:t.page≠-1:=by rw[hp];omega
  have e1:(ZG L t).page=(i:Int):=by unfold ZG;rw[if_neg xp];exact hp
  have e2:(ZG L t).place=(k:Int):=by unfold ZG;rw[if_neg xp];exact hq
  rw[e1,e2,zda hf,Bool.or_true]
theorem ZM (s:xE 0 0 L h) {j:Int} (hj:ui L.zd.length j):(j == -1 || qU (yM L born zm code) j)=true/\(j == -1 || qy j 0 (((yM L born zm code).zd.length:Int) - 1))=true:=by
 rcases hj with rfl | ⟨k,rfl,hk⟩
 ·exact⟨rfl,rfl⟩
 ·obtain⟨h1,h2⟩:=Vp (born:=born) (zm:=zm) (code:=code) s hk
  rw[h1,h2,Bool.or_true]
  exact⟨rfl,rfl⟩
theorem vk (s:xE 0 0 L h) {vs:yH} (hv:Zr L.zd.length vs):kK (yM L born zm code).zd.length vs/\∀q,(hq:q<vs.length)->vs[q].1=2->qU (yM L born zm code) vs[q].2=true:=by
 refine⟨fun q hq h2=>?_,fun q hq h2=>?_⟩
 ·obtain⟨j,e,hj⟩:=hv _ (List.getElem_mem hq) h2
  rw[e]
  exact(Vp s hj).2
 ·obtain⟨j,e,hj⟩:=hv _ (List.getElem_mem hq) h2
  rw[e]
  exact(Vp s hj).1
theorem wu (s:xE 0 0 L h) (hl:∀i,(hi:i<h.ze.length)->h.ze[i].zh.length<=4/\h.ze[i].zf.length<=6) {k:Nat} (hk:k<L.zj.length):(jR L k).zh.length<=4/\(jR L k).zf.length<=6/\Zr L.zd.length (jR L k).zh/\Zr L.zd.length (jR L k).zf:=by
 obtain⟨c,hc,ha⟩:=s.c k _ (List.getElem?_eq_getElem hk)
 obtain⟨hi,he⟩:=List.getElem?_eq_some_iff.1 hc
 have:=hl k hi
 rw[he,ha.zh,ha.zf,List.length_map,List.length_map] at this
 rw[Qd hk]
 exact⟨this.1,this.2,ha.vt,ha.vs⟩
theorem UR (s:xE 0 0 L h) (hl:∀i,(hi:i<h.ze.length)->h.ze[i].zh.length<=4/\h.ze[i].zf.length<=6):Jw (yM L born zm code):=by
 refine⟨fun i k hi hk=>?_,fun i hi=>?_,fun j hj=>?_⟩
 ·obtain⟨f,hf,he⟩:=UP hi hk
  obtain⟨hb,ht⟩:=s.fb i k f hf (yv _ _)
  obtain⟨_,_,b1,b2⟩:=wu s hl hb
  rw[he]
  refine⟨(ZM s ?_).2,(vk s b1).1,(vk s b2).1⟩
  rcases ht with h1 | ⟨j,x,h1,h2⟩
  ·exact .inl h1
  ·exact .inr ⟨j,h1,(List.getElem?_eq_some_iff.1 h2).1⟩
 ·obtain⟨hi',he⟩:=Vn hi
  rw[he]
  exact(ZM s (s.ba i _ (List.getElem?_eq_getElem hi'))).2
 ·obtain⟨t,ht,he⟩:=Vq hj
  obtain⟨hb,hp⟩:=s.tb j t ht
  obtain⟨_,_,b1,b2⟩:=wu s hl hb
  rw[he]
  refine⟨fun h1=>?_,fun h1=>?_⟩
  ·rcases hp with h0 | ⟨i,k,f,hf,_,_,_,hp,hq⟩
   ·exact absurd (by unfold ZG;rw[if_pos h0]) h1
   ·have xp:t.page≠-1:=by rw[hp];omega
    have e1:(ZG L t).page=(i:Int):=by unfold ZG;rw[if_neg xp];exact hp
    have e2:(ZG L t).place=(k:Int):=by unfold ZG;rw[if_neg xp];exact hq
    rw[e1,e2]
    exact zda hf
  ·by_cases h0:t.page=-1
   ·have e:(ZG L t).left=⟨(jR L t.body).m,(jR L t.body).pc,(jR L t.body).zh,(jR L t.body).zf,t.zi,(jR L t.body).zy⟩:=by unfold ZG;rw[if_pos h0]
    rw[e]
    exact⟨(ZM s (s.se j t ht h0)).2,(vk s b1).1,(vk s b2).1⟩
   ·exact absurd (by unfold ZG at h1;rw[if_neg h0] at h1;exact h1) h0
theorem za8 (s:xE 0 0 L h) (hl:∀i,(hi:i<h.ze.length)->h.ze[i].zh.length<=4/\h.ze[i].zf.length<=6):zdm (yM L born zm code):=by
 refine⟨fun i k hi hk=>?_,fun i hi=>?_,fun j hj=>?_⟩
 ·obtain⟨f,hf,he⟩:=UP hi hk
  obtain⟨l1,l2,b1,b2⟩:=wu s hl (s.fb i k f hf (yv _ _)).1
  rw[he]
  exact⟨⟨Nat.le_trans l1 (by decide),Nat.le_trans l2 (by decide)⟩,(vk s b1).2,(vk s b2).2⟩
 ·obtain⟨hi',he⟩:=Vn hi
  rw[he]
  exact(ZM s (s.ba i _ (List.getElem?_eq_getElem hi'))).1
 ·obtain⟨t,ht,he⟩:=Vq hj
  obtain⟨l1,l2,b1,b2⟩:=wu s hl (s.tb j t ht).1
  rw[he]
  by_cases h0:t.page=-1
  ·have e:(ZG L t).left=⟨(jR L t.body).m,(jR L t.body).pc,(jR L t.body).zh,(jR L t.body).zf,t.zi,(jR L t.body).zy⟩:=by unfold ZG;rw[if_pos h0]
   rw[e]
   refine⟨⟨Nat.le_trans l1 (by decide),Nat.le_trans l2 (by decide)⟩,fun _=>⟨(ZM s (s.se j t ht h0)).1,fun q hq h2=>?_,fun q hq h2=>?_⟩⟩
   ·rw[(vk s b1).2 q hq h2,Bool.or_true]
   ·rw[(vk s b2).2 q hq h2,Bool.or_true]
  ·have e:(ZG L t)=⟨t.page,t.place,⟨0,0,[],[],0,false⟩⟩:=by unfold ZG;rw[if_neg h0]
   rw[e]
   exact⟨⟨Nat.zero_le _,Nat.zero_le _⟩,fun h1=>absurd h1 h0⟩
theorem XZ {α:Type} (F:Nat->List α):∀{n p:Nat},p<((List.range n).flatMap F).length->∃i k,i<n/\k<(F i).length/\p=((List.range i).flatMap F).length+k
 | 0,p,h=>absurd h (by simp)
 | n+1,p,h=>by
  rw[List.range_succ,List.flatMap_append,List.length_append] at h
  by_cases e:p<((List.range n).flatMap F).length
  ·obtain⟨i,k,h1,h2,h3⟩:=XZ F e
   exact⟨i,k,by omega,h2,h3⟩
  ·have e2:([n].flatMap F).length=(F n).length:=by simp
   rw[e2] at h
   exact⟨n,p - ((List.range n).flatMap F).length,by omega,by omega,by omega⟩
theorem zgk (s:xE 0 0 L h) (hw:uZ L h):nF L<=h.ze.length/\L.zd.length<=h.ze.length:=by
 have e:=Vo (born:=0) (zm:=[]) (code:=0) s hw
 have hin:∀p,p<nF L->PlS L p:=fun p hp=>by
  obtain⟨i,k,hi,hk,rfl⟩:=XZ (fbs L) hp
  unfold fbs at hk
  rw[List.length_map,List.getD_eq_getElem?_getD,List.getElem?_eq_getElem hi,Option.getD_some] at hk
  exact .inl ⟨i,k,_,yw.fr_at hi hk,rfl⟩
 refine⟨K9 _ _ (phi L) (fun p hp=>e.lt p (hin p hp)) fun p q hp hq=>e.inj p q (hin p hp) (hin q hq),?_⟩
 rw[s.n]
 refine K9 _ _ (fun j=>((L.zd[j]?).map fun t:km=>t.body).getD 0) (fun j hj=>?_) fun j q hj hq e=>?_
 ·show((L.zd[j]?).map fun t:km=>t.body).getD 0<_
  rw[List.getElem?_eq_getElem hj]
  exact(s.tb j _ (List.getElem?_eq_getElem hj)).1
 ·have e':((L.zd[j]?).map fun t:km=>t.body).getD 0=((L.zd[q]?).map fun t:km=>t.body).getD 0:=e
  rw[List.getElem?_eq_getElem hj,List.getElem?_eq_getElem hq] at e'
  exact s.ti j _ q _ (List.getElem?_eq_getElem hj) (List.getElem?_eq_getElem hq) e'
theorem UQ (s:xE 0 0 L h) (hw:uZ L h) (hc:h.ze.length<=30) (hl:∀i,(hi:i<h.ze.length)->h.ze[i].zh.length<=4/\h.ze[i].zf.length<=6):yc (yM L born zm code).za+(yM L born zm code).zd.length<=60/\(yQ (yM L born zm code)).short:=by
 obtain⟨h1,h2⟩:=zgk s hw
 have h3:yc (yM L born zm code).za+(yM L born zm code).zd.length<=60:=by rw[WR,jT];omega
 have hlen:(yQ (yM L born zm code)).ze.length=nF L+L.zd.length:=by
  show(yR _ _ ++ qV _ _).length=_
  rw[List.length_append,qY zD,ki,jT]
  exact congrArg (·+_) WR
 refine⟨h3,by rw[hlen];omega,fun p hp=>?_⟩
 rw[hlen] at hp
 by_cases e:p<nF L
 ·obtain⟨i,k,hi,hk,rfl⟩:=XZ (fbs L) e
  unfold fbs at hk
  rw[List.length_map,List.getD_eq_getElem?_getD,List.getElem?_eq_getElem hi,Option.getD_some] at hk
  have hf:=yw.fr_at hi hk
  obtain⟨l1,l2,_⟩:=wu s hl (s.fb i k _ hf (yv _ _)).1
  have ht:=(List.getElem?_eq_some_iff.1 (zbv (born:=born) (zm:=zm) (code:=code) hf)).2
  have ht':(yQ (yM L born zm code)).ze[((List.range i).flatMap (fbs L)).length+k]'(by rw[hlen];exact hp)=j8 (yM L born zm code) i k (frM L L.za[i].zg[k]):=ht
  rw[ht']
  show(List.map _ _).length<=1000/\(List.map _ _).length<=1000
  rw[List.length_map,List.length_map]
  exact⟨Nat.le_trans l1 (by decide),Nat.le_trans l2 (by decide)⟩
 ·obtain⟨j,rfl⟩:∃j,p=nF L+j:=⟨p - nF L,by omega⟩
  have hj:j<L.zd.length:=by omega
  have ht:=(List.getElem?_eq_some_iff.1 (zbw (born:=born) (zm:=zm) (code:=code) (List.getElem?_eq_getElem hj))).2
  rw[ht]
  obtain⟨l1,l2,_⟩:=wu s hl (s.tb j _ (List.getElem?_eq_getElem hj)).1
  unfold xl ZG zc5
  by_cases h0:L.zd[j].page=-1
  ·rw[if_pos h0,if_pos rfl]
   show(List.map _ _).length<=1000/\(List.map _ _).length<=1000
   rw[List.length_map,List.length_map]
   exact⟨Nat.le_trans l1 (by decide),Nat.le_trans l2 (by decide)⟩
  ·rw[if_neg h0,if_neg h0]
   exact⟨Nat.zero_le _,Nat.zero_le _⟩
end
theorem Z2 {ms:Ms} {L:yw} {h:Hp} {born:Int} {zm:yH} {code:Int} {vp vo vt vs:Value} (s:xE 0 0 L h) (hw:uZ L h) (g:Good ms h) (xt:L.za.length<=900) (w:World) (hm:yC w vp vo vt vs (yM L born zm code)) :
 Calls Tryz.prog 17 #[.agg (zu vp vo vt vs (yM L born zm code)).toArray] w fun e w'=>∃aM kM,e=.returned (.slice aM (jq h).length kM)/\xz w' (.slice aM (jq h).length kM) (jq h)/\zO w w':=by
 obtain⟨h30,hl⟩:=g.lens
 obtain⟨h60,hsh⟩:=UQ (born:=born) (zm:=zm) (code:=code) s hw h30 hl
 have:=Jc vp vo vt vs (yM L born zm code) w hm (UR s hl) (za8 s hl) (by rw[kr];omega) (by omega) hsh
 rw[zfC s hw] at this
 refine this.mono ?_
 rintro e wM ⟨⟨vM,VM,rfl,hOM⟩,hbM⟩
 have hAM:=hOM.at
 obtain⟨aM,kM,hvM⟩:=hAM.shape
 subst hvM
 exact⟨aM,kM,rfl,hAM,hbM⟩
structure Yz (m:Mc) (c:Int) (n t:Nat):Prop where
 eq:m=yV n t c
 small:m.small
 t4:t<=1000
theorem Z3 {ms:Ms} {n:Nat} {c:Int} (hp:yn ms=true) (_hn:1<=n) (hn4:n<=4):Yz (yV n (yr ms) c) c n (yr ms):=by
 obtain⟨_,_,_,_,h5⟩:=YD hp
 have hf:=UJ n (yr ms) c
 have hpl:(yV n (yr ms) c).za.length=n:=xe n _
 have ho:(yV n (yr ms) c).order.length=n:=vy n n
 refine⟨rfl,⟨by rw[hpl];omega,fun i hi=>by have:=(hf i hi).1;omega,by show 0<=_;omega,by rw[ho];omega,by show 0<=_;omega,fun i hi j hj=>?_,fun i hi=>absurd hi yB⟩,by omega⟩
 have h1:=(hf i hi).2 j hj
 omega
theorem YO {ms:Ms} {n:Nat} {c:Int} {M:Mc} {vq:Value} {vp vo vt vs:Value} (_hp:yn ms=true) (hn:1<=n) (hn4:n<=4) (k:Zv ms M (xI c (n - 1) (yG n n) (ZF (yr ms))) (kh ms)) (hf:Yz M c n (yr ms)) (N:Nat) (w:World) (hq:yD w vq ms) (hT:TabAt w) (hm:yC w vp vo vt vs M) (hN:N<=400) :
 Calls Tryz.prog 15 #[.agg #[vq],.agg (zu vp vo vt vs M).toArray,.int .i64 (N:Int)] w fun e w'=>∃(L':yw) (v1 v2 v3 v4:Value),e=.returned (.tuple #[.agg (zu v1 v2 v3 v4 (yM L' (qi ms N (kh ms)).born (qi ms N (kh ms)).zm (qi ms N (kh ms)).code)).toArray,.bool true])/\yC w' v1 v2 v3 v4 (yM L' (qi ms N (kh ms)).born (qi ms N (kh ms)).zm (qi ms N (kh ms)).code)/\zcY (xI c (n - 1) (yG n n) (ZF (yr ms))) L' (qi ms N (kh ms))/\zO w w':=by
 obtain⟨rfl,hsm,K0⟩:=hf
 have hpl:(yV n (yr ms) c).za.length=n:=xe n _
 have ho:(yV n (yr ms) c).order.length=n:=vy n n
 have hfw:=UJ n (yr ms) c
 refine K6 vq ms vp vo vt vs _ _ _ N w hq hT hm hsm (by show 0<=_;omega) (by show 0<=_;omega) k (fun W hW=>?_) hN
 refine(Kb vp vo vt vs _ W (hm.below hW) (by rw[ho];omega) (by rw[hpl];omega) rfl (fun i hi=>(hfw i hi).1) (fun i hi j hj=>by have:=(hfw i hi).2 j hj;omega)).mono ?_
 rintro e w' ⟨P,ρ,h1,h2,h3,h4⟩
 exact⟨P,ρ,h1,h2,h3.trans (zf9 hn hn4),h4⟩
end Go.Proofs.YtbjgjjkgfnfejaaGreatDoor
