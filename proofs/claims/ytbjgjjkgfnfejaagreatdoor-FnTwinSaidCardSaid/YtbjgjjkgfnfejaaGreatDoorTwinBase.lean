/-
  MachRun, the program: what runs on pages runs as the heap does.
-/
import Derived.Test.YtbjgjjkgfnfejaaGreatDoorRStep2
import Derived.Test.YtbjgjjkgfnfejaaGreatDoorLOut
import Derived.Test.YtbjgjjkgfnfejaaGreatDoorMIn2
namespace Go.Proofs.YtbjgjjkgfnfejaaGreatDoor
open Go.RowKit
attribute [local go_sem ↓] Go.wp_at_zero Go.wp_at_succ
theorem yj.mono {B B':Nat} {ρ:Nat->Rl} {w:World} {P:Lay} (h:yj B ρ w P) (hB:B'<=B):yj B' ρ w P:=fun r=>by
 cases r with
 | other=>trivial
 | live=>exact⟨(h .live).1,(h .live).2.1,Nat.le_trans hB (h .live).2.2⟩
 | zd=>exact⟨(h .zd).1.mono hB,(h .zd).2⟩
 | zh i=>exact fun hi=>⟨((h (.zh i)) hi).1.mono hB,((h (.zh i)) hi).2⟩
 | order=>exact⟨(h .order).1.mono hB,(h .order).2⟩
 | ze=>exact⟨(h .ze).1,(h .ze).2.1,Nat.le_trans hB (h .ze).2.2⟩
 | body k=>exact fun hk=>⟨((h (.body k)) hk).1,((h (.body k)) hk).2.1,Nat.le_trans hB ((h (.body k)) hk).2.2⟩
 | zg k=>exact fun hk=>⟨((h (.zg k)) hk).1.mono hB,((h (.zg k)) hk).2⟩
 | zf k=>exact fun hk=>⟨((h (.zf k)) hk).1.mono hB,((h (.zf k)) hk).2⟩
theorem zeD {w:World} {g:Nat} {t:TypeId} {a b c d e:Value} (h:w.rowIs g t 5 (kq a b c d e)):Bx w g t [a,b,c,d,e]:=by
 obtain⟨cc,e1,e2,e3⟩:=h
 refine⟨cc,e1,e2,fun i hi=>?_⟩
 have hi':i<5:=hi
 rw[e3 i hi']
 match i,hi' with
 | 0,_=>rfl
 | 1,_=>rfl
 | 2,_=>rfl
 | 3,_=>rfl
 | 4,_=>rfl
set_option maxRecDepth 100000 in
set_option maxHeartbeats 8000000 in
theorem Kt (vq:Value) (ms:Ms) (vp vo vt vs:Value) (m:Mc) (L:yF) (h:Hp) (N:Nat) (w:World) (hq:yD w vq ms) (hT:TabAt w) (hm:ql w vp vo vt vs m) (hsm:m.small) (htn:m.ze.length<=800000) (hsd:m.zm.length<=1000000) (k:Xp ms m L h)
 (hLP:∀W,zO w W->Calls Tryz.prog 45 #[.agg (zE vp vo vt vs m).toArray] W fun e w'=>∃(P:Lay) (ρ:Nat->Rl),yj (W.heap.size+1) ρ w' P/\e=.returned (zJ P.bl 0)/\P.L=L/\zO W w') (hN:N<=400) :
 Calls Tryz.prog 15 #[.agg #[vq],.agg (zE vp vo vt vs m).toArray,zI (N:Int)] w fun e w'=>∃(L':yF) (v1 v2 v3 v4:Value),e=.returned (.tuple #[.agg (zE v1 v2 v3 v4 (JH L' (zV ms N h).born (zV ms N h).zm (zV ms N h).code)).toArray,.bool true])/\ql w' v1 v2 v3 v4 (JH L' (zV ms N h).born (zV ms N h).zm (zV ms N h).code)/\zbW L L' (zV ms N h)/\zO w w':=by
 have HOK:=fun W (hb:zO w W)=>Ks vq ms vp vo vt vs m W (hq.below hb) (hm.below hb) hsm htn
 rw[k.ok] at HOK
 have HK:Hid (Xp ms m L h):=k
 have HLP:Hid (∀W,zO w W->Calls Tryz.prog 45 #[.agg (zE vp vo vt vs m).toArray] W fun e w'=>∃(P:Lay) (ρ:Nat->Rl),yj (W.heap.size+1) ρ w' P/\e=.returned (zJ P.bl 0)/\P.L=L/\zO W w'):=hLP
 have HQ:Hid (yD w vq ms/\TabAt w):=⟨hq,hT⟩
 have HMS:Hid (yo w vs m.zm):=hm.s
 have HSD:Hid (m.zm.length<=1000000):=hsd
 obtain⟨aq,cq,hvq,_⟩:=id hq
 obtain⟨ap,cp,qI⟩:=hm.p.shape
 obtain⟨ao,co,j5⟩:=hm.o.shape
 obtain⟨at',ct,jz⟩:=hm.t.shape
 obtain⟨as',cs,km⟩:=hm.s.shape
 subst hvq qI j5 jz km
 unfold zE at HOK HLP
 clear k hLP hq hT hm hsm htn hsd
 show Calls _ _ #[.agg #[.slice aq ms.length cq],.agg #[zI m.cells,.slice ap m.zd.length cp,.slice ao m.order.length co,zI m.now,.slice at' m.ze.length ct,zI m.born,.slice as' m.zm.length cs,zI m.code],zI (N:Int)] w _
 go_enter Tryz.func15,Tryz.ntmps15
 go_upto_region 1 with fail
 refine ym (fun W=>zO w W/\Bx W w.heap.size 25 [.slice aq ms.length cq]/\Bx W (w.heap.size+1) 34 [.int .i64 m.cells,.slice ap m.zd.length cp,.slice ao m.order.length co,.int .i64 m.now,.slice at' m.ze.length ct,.int .i64 m.born,.slice as' m.zm.length cs,.int .i64 m.code]/\Bx W (w.heap.size+2) 34 [.int .i64 0,.slice none 0 0,.slice none 0 0,.int .i64 0,.slice none 0 0,.int .i64 0,.slice none 0 0,.int .i64 0]) ⟨((zR _ _).alloc (by simp) _).alloc (by simp;omega) _,((Bx.new w _ _).alloc _).alloc _,(Bx.newAt _ _ _ (by simp)).alloc _,Bx.newAt _ _ _ (by simp)⟩ ?_
 rintro W0 ⟨B0,x0,y0,r0⟩
 have p0:=x0.cell 0 rfl
 obtain⟨⟨b0,b1,b2,b3,b4,b5,b6,b7⟩,_⟩:=uk y0
 have z0:=B0.size
 go_wp2_with fail
 refine(HOK _ B0).mono ?_
 rintro e W1 ⟨rfl,t1⟩
 have x1:=x0.below t1
 have y1:=y0.below t1
 have r1:=r0.below t1
 have B1:=B0.trans (t1.mono z0)
 have z1:=B1.size
 clear HOK t1 x0 y0 B0 z0 p0 b0 b1 b2 b3 b4 b5 b6 b7 r0
 have hso:=YI (N:Int) W1
 rw[zF.2 ⟨by omega,by omega⟩] at hso
 obtain⟨⟨b0,b1,b2,b3,b4,b5,b6,b7⟩,_⟩:=uk y1
 have HLP1:=HLP.out W1 B1
 go_wp2_with fail
 refine hso.mono ?_
 rintro e W2 ⟨rfl,hw⟩
 obtain rfl:=hw.symm
 clear hso
 go_wp2_with fail
 refine HLP1.mono ?_
 rintro e W3 ⟨P,ρ,hLv,rfl,hPL,t3⟩
 have x3:=x1.below t3
 have y3:=y1.below t3
 have r3:=r1.below t3
 have B3:=B1.trans (t3.mono z1)
 have zt3:=t3.size
 have hrl:w.heap.size+2<W1.heap.size:=r1.lt
 clear HLP1 b0 b1 b2 b3 b4 b5 b6 b7 x1 y1 r1
 have v0:=x3.cell 0 rfl
 have u5:=y3.cell 5 rfl
 have u6:=y3.cell 6 rfl
 have u7:=y3.cell 7 rfl
 have HS:∀w':World,zO W3 w'->((w'.cell? (zH w.heap.size 0)=some (.slice aq ms.length cq)/\w'.cell? (zH (w.heap.size+1) 5)=some (zI m.born)/\w'.cell? (zH (w.heap.size+1) 6)=some (.slice as' m.zm.length cs)/\w'.cell? (zH (w.heap.size+1) 7)=some (zI m.code))/\zO W3 w'):=fun w' hb=>⟨⟨zc hb v0,zc hb u5,zc hb u6,zc hb u7⟩,hb⟩
 have HCL:Hid (∀W,zO W3 W->Calls Tryz.prog 46 #[.slice as' m.zm.length cs] W fun e w'=>∃v',e=.returned v'/\zk W.heap.size w' v' m.zm/\zO W w'):=fun W hb=>VD _ _ _ ((HMS.out.below B3).below hb) (by have:=HSD.out;omega)
 obtain⟨bl,hbl⟩:∃bl,P.bl=bl:=⟨_,rfl⟩
 rw[hbl]
 have HLV:Hid (yj (W1.heap.size+1) ρ W3 P/\P.L=L/\P.bl=bl/\zO W1 W3/\Bx W3 (w.heap.size+2) 34 [zI 0,zQ,zQ,zI 0,zQ,zI 0,zQ,zI 0]):=⟨hLv,hPL,hbl,t3,r3⟩
 clear hLv hPL hbl t3 r3 x3 y3
 go_upto_region 4 with fail
 go_region_held3 (fun w'=>(w'.cell? (zH w.heap.size 0)=some (.slice aq ms.length cq)/\w'.cell? (zH (w.heap.size+1) 5)=some (zI m.born)/\w'.cell? (zH (w.heap.size+1) 6)=some (.slice as' m.zm.length cs)/\w'.cell? (zH (w.heap.size+1) 7)=some (zI m.code))/\zO W3 w')
  ((refine HS _ ?_;first
   | (with_reducible exact(‹(_/\_/\_/\_)/\zO W3 _›).2)
   | (with_reducible exact zS.drew)
   | (with_reducible exact Vd)
   | (with_reducible exact(zR _ _).drew)
   | (with_reducible exact Vd.alloc Vd.size _)
   | (with_reducible exact((((Vd.setCell (p:=zH _ 0) (by first | omega | simp) _).setCell (p:=zH _ 1) (by first | omega | simp) _).setCell (p:=zH _ 2) (by first | omega | simp) _).setCell (p:=zH _ 3) (by first | omega | simp) _).setCell (p:=zH _ 4) (by first | omega | simp) _)))
  (first
   | (go_at_call 46;refine(HCL.out _ (‹(_/\_/\_/\_)/\zO W3 _›).2).mono ?_;rintro e wA ⟨vA,rfl,Q7,Kk⟩;have Vd:=Below.trans (‹(_/\_/\_/\_)/\zO W3 _›).2 (Kk.mono ((‹(_/\_/\_/\_)/\zO W3 _›).2).size);have hzA:=Vd.size;obtain⟨aA,kA,hvA,_⟩:=Q7.slice;subst hvA;first | (have rC:=yp Kk (show((W3.alloc (.cells #[.slice none 0 0,.nilIface,.int .i64 0,.slice none 0 0,.int .i64 0] 90)).drew).rowIs _ _ 5 _ from jj W3 90 (.slice none 0 0) .nilIface (.int .i64 0) (.slice none 0 0) (.int .i64 0));obtain⟨⟨n0,n1,n2,n3,n4⟩,l0,l1,l2,l3,l4⟩:=zq rC) | skip))
 all_goals first
  | (have rn:=jj wA 90 (.slice aq ms.length cq) (.iface 82 (.pointer (some ⟨bl,0,none⟩))) (.int .i64 m.born) (.slice aA m.zm.length kA) (.int .i64 m.code);have BW:=(‹(_/\_/\_/\_)/\zO W3 (wA.alloc _)›).2;have zdM:W3.heap.size<=wA.heap.size:=hzA;have sdW:=(Q7.below (zR wA (.cells #[.slice aq ms.length cq,.iface 82 (.pointer (some ⟨bl,0,none⟩)),.int .i64 m.born,.slice aA m.zm.length kA,.int .i64 m.code] 90))).mono (B':=W3.heap.size) (by first | exact Nat.le_refl _ | (simp;done) | omega);have ZP:(Value.slice aA m.zm.length kA).ownBlock≠some wA.heap.size:=fun e=>(by have:=(Q7.lt _ e).2;omega);clear HS HCL Kk Vd hzA Q7;generalize wA.alloc (.cells #[.slice aq ms.length cq,.iface 82 (.pointer (some ⟨bl,0,none⟩)),.int .i64 m.born,.slice aA m.zm.length kA,.int .i64 m.code] 90)=W at *;generalize wA.heap.size=br at *)
  | (have rn:=jM (kP (uw (uv (wi rC (.slice aq ms.length cq)) (.iface 82 (zJ bl 0))) (zI m.born)) (.slice aA m.zm.length kA)) (zI m.code);have BW:=(‹(_/\_/\_/\_)/\zO W3 (World.setCell _ _ _)›).2;have ZP:(Value.slice aA m.zm.length kA).ownBlock≠some W3.heap.size:=fun e=>(by have:=(Q7.lt _ e).1;simp at this;omega);have sdW:=((((((Q7.mono (B':=W3.heap.size) (by simp)).set_other (p:=zH W3.heap.size 0) (.slice aq ms.length cq) ZP).set_other (p:=zH W3.heap.size 1) (.iface 82 (zJ bl 0)) ZP).set_other (p:=zH W3.heap.size 2) (zI m.born) ZP).set_other (p:=zH W3.heap.size 3) (.slice aA m.zm.length kA) ZP).set_other (p:=zH W3.heap.size 4) (zI m.code) ZP);clear HS HCL Kk Vd hzA Q7 rC n0 n1 n2 n3 n4 l0 l1 l2 l3 l4;generalize (((((wA.setCell (zH W3.heap.size 0) (.slice aq ms.length cq)).setCell (zH W3.heap.size 1) (.iface 82 (zJ bl 0))).setCell (zH W3.heap.size 2) (zI m.born)).setCell (zH W3.heap.size 3) (.slice aA m.zm.length kA)).setCell (zH W3.heap.size 4) (zI m.code))=W at *;obtain⟨br,hbr⟩:∃br,br=W3.heap.size:=⟨_,rfl⟩;have zdM:W3.heap.size<=br:=(by omega);rw[<-hbr] at rn ZP;rw[<-hbr];clear hbr)
 all_goals
  obtain⟨hLv,hPL,hbl,t3,r3⟩:=HLV.out
  have K:=HK.out
  have ZQ:=BW.size
  have rv:RV W1.heap.size (zu ρ W3 .other) W P bl br (.slice aq ms.length cq) (.slice aA m.zm.length kA) L.cells L.zd.length h:=⟨(hLv.mono (Nat.le_succ _)).below BW,hbl,by omega,by rw[K.born,K.code];exact zeD rn,qj zdM,by omega,by rw[K.zm];exact sdW.mono zt3,fun g e=>⟨qj (sdW.lt g e).1,fun e2=>ZP (by rw[<-e2];exact e)⟩,by rw[hPL];exact K.sim,by rw[hPL];exact K.ord,by rw[hPL];exact K.now,by rw[hPL],by rw[hPL]⟩
  have E1:Yn W1.heap.size W (.slice aq ms.length cq) ms:=⟨W1,rfl,t3.trans (BW.mono zt3),HQ.out.1.below B1,HQ.out.2.below B1⟩
  have HST:=zau rv E1 K.good K.zd K.cells N (by rw[K.zm];have:=HSD.out;omega)
  have r4:=r3.below BW
  have HR4:Hid (Bx W (w.heap.size+2) 34 [zI 0,zQ,zQ,zI 0,zQ,zI 0,zQ,zI 0]/\zO w W):=⟨r4,B3.trans (BW.mono B3.size)⟩
  clear rv E1 rn sdW ZP r4 r3 v0 u5 u6 u7 hLv hPL hbl t3 K
  go_upto_region 6 with(go_at_call 47;refine HST.mono ?_;rintro e W5 ⟨rfl,ρ',P',YZ,k5,b5⟩)
  have gR:=Good.run N h HK.out.good
  obtain⟨hlR,_⟩:=gR.lens
  obtain⟨m4,c4,hvs4,_⟩:=k5.zm.slice
  obtain⟨n4,hn4⟩:∃n4,(zV ms N h).zm.length=n4:=⟨_,rfl⟩
  rw[hn4] at hvs4
  subst hvs4
  have xE:=HK.out.zd
  have hfw:=k5.sim.few (by omega) (by rw[k5.hnp];omega)
  have hwf:=k5.sim.wf
  have hfw2:P'.L.zd.length<=1000/\∀i,(hi:i<P'.L.zd.length)->P'.L.zd[i].zh.length<=1000:=⟨by rw[k5.hnp];omega,fun i hi=>by
   have:=hfw.1.f i
   rw[kF hi] at this
   omega⟩
  have HMA:=zd5 k5.lv hwf hfw2 (by omega) (zV ms N h).born (zV ms N h).code _ _ k5.zm.at
  obtain⟨m2,c2,zcJ,_⟩:=(k5.lv .order).1.slice
  obtain⟨n2,WG⟩:∃n2,P'.L.order.length=n2:=⟨_,rfl⟩
  rw[WG] at zcJ
  have HRAN:Hid (zbW L P'.L (zV ms N h)):=⟨k5.sim,k5.ord,k5.now,k5.hce,k5.hnp⟩
  obtain⟨M,hM⟩:∃M,JH P'.L (zV ms N h).born (zV ms N h).zm (zV ms N h).code=M:=⟨_,rfl⟩
  rw[hM,zcJ] at HMA
  have hbl5:=k5.hbl
  have hMb:(zV ms N h).born=M.born:=by rw[<-hM];rfl
  have hMc:(zV ms N h).code=M.code:=by rw[<-hM];rfl
  rw[hbl5] at HMA
  have r5:Bx W5 (w.heap.size+2) 34 [zI 0,zQ,zQ,zI 0,zQ,zI 0,zQ,zI 0]:=HR4.out.1.kept (b5.block _ hrl)
  have B5:zO w W5:=HR4.out.2.trans (b5.mono z1)
  have y5:=k5.run
  rw[hMb,hMc] at y5 HMA
  have j2:=y5.cell 2 rfl
  have j3:=y5.cell 3 rfl
  have j4:=y5.cell 4 rfl
  have HK5:Hid (yj W1.heap.size ρ' W5 P'/\P'.L.wf/\P'.L.zd.length<=1000/\zk W1.heap.size W5 (.slice m4 n4 c4) (zV ms N h).zm/\P'.vo=.slice m2 n2 c2/\JH P'.L (zV ms N h).born (zV ms N h).zm (zV ms N h).code=M):=⟨k5.lv,hwf,hfw2.1,k5.zm,zcJ,hM⟩
  unfold zE at HMA
  clear y5 k5 hwf hfw hfw2 zcJ hM gR HST HR4 hMb hMc
  have z5:=B5.size
  have hr5l:=r5.lt
  go_wp2_with fail
  refine HMA.mono ?_
  rintro e W6 ⟨v1,v3,rfl,hmo,b6⟩
  obtain⟨⟨m1,c1,e1⟩,m3,c3,e3⟩:=hmo.slices
  obtain⟨n1,Km⟩:∃n1,P'.L.zd.length=n1:=⟨_,rfl⟩
  obtain⟨n3,hn3⟩:∃n3,P'.L.ze.length=n3:=⟨_,rfl⟩
  rw[Km] at e1
  rw[hn3] at e3
  subst e1 e3
  have r6:=r5.below b6
  have B6:=B5.trans (b6.mono z5)
  obtain⟨⟨q0,q1,q2,q3,q4,q5,q6,q7⟩,⟨g0,g1,g2,g3,g4,g5,g6,g7⟩⟩:=uk r6
  have HE:Hid (zO w ((((((((W6.setCell (zH (w.heap.size+2) 0) (zI M.cells)).setCell (zH (w.heap.size+2) 1) (.slice m1 n1 c1)).setCell (zH (w.heap.size+2) 2) (.slice m2 n2 c2)).setCell (zH (w.heap.size+2) 3) (zI M.now)).setCell (zH (w.heap.size+2) 4) (.slice m3 n3 c3)).setCell (zH (w.heap.size+2) 5) (zI M.born)).setCell (zH (w.heap.size+2) 6) (.slice m4 n4 c4)).setCell (zH (w.heap.size+2) 7) (zI M.code))/\Bx ((((((((W6.setCell (zH (w.heap.size+2) 0) (zI M.cells)).setCell (zH (w.heap.size+2) 1) (.slice m1 n1 c1)).setCell (zH (w.heap.size+2) 2) (.slice m2 n2 c2)).setCell (zH (w.heap.size+2) 3) (zI M.now)).setCell (zH (w.heap.size+2) 4) (.slice m3 n3 c3)).setCell (zH (w.heap.size+2) 5) (zI M.born)).setCell (zH (w.heap.size+2) 6) (.slice m4 n4 c4)).setCell (zH (w.heap.size+2) 7) (zI M.code)) (w.heap.size+2) 34 [zI M.cells,.slice m1 n1 c1,.slice m2 n2 c2,zI M.now,.slice m3 n3 c3,zI M.born,.slice m4 n4 c4,zI M.code]/\W6.heap.size<=(((((((((W6.setCell (zH (w.heap.size+2) 0) (zI M.cells)).setCell (zH (w.heap.size+2) 1) (.slice m1 n1 c1)).setCell (zH (w.heap.size+2) 2) (.slice m2 n2 c2)).setCell (zH (w.heap.size+2) 3) (zI M.now)).setCell (zH (w.heap.size+2) 4) (.slice m3 n3 c3)).setCell (zH (w.heap.size+2) 5) (zI M.born)).setCell (zH (w.heap.size+2) 6) (.slice m4 n4 c4)).setCell (zH (w.heap.size+2) 7) (zI M.code))).heap.size/\∀g,g≠w.heap.size+2->(((((((((W6.setCell (zH (w.heap.size+2) 0) (zI M.cells)).setCell (zH (w.heap.size+2) 1) (.slice m1 n1 c1)).setCell (zH (w.heap.size+2) 2) (.slice m2 n2 c2)).setCell (zH (w.heap.size+2) 3) (zI M.now)).setCell (zH (w.heap.size+2) 4) (.slice m3 n3 c3)).setCell (zH (w.heap.size+2) 5) (zI M.born)).setCell (zH (w.heap.size+2) 6) (.slice m4 n4 c4)).setCell (zH (w.heap.size+2) 7) (zI M.code))).heap[g]?=W6.heap[g]?):=by
   have HW:=((((((((Wr.refl1 (w.heap.size+2) W6).set1 (o:=0) (zI M.cells)).set1 (o:=1) (.slice m1 n1 c1)).set1 (o:=2) (.slice m2 n2 c2)).set1 (o:=3) (zI M.now)).set1 (o:=4) (.slice m3 n3 c3)).set1 (o:=5) (zI M.born)).set1 (o:=6) (.slice m4 n4 c4)).set1 (o:=7) (zI M.code)
   exact⟨HW.below1 B6 zD (Nat.le_add_right _ _),(((((((r6.set 0 _).set 1 _).set 2 _).set 3 _).set 4 _).set 5 _).set 6 _).set 7 _,by simp only[World.size_setCell];exact Nat.le_refl _,fun g hg=>(Below.heap_setCell _ ⟨w.heap.size+2,7,none⟩ _ _ hg).trans ((Below.heap_setCell _ ⟨w.heap.size+2,6,none⟩ _ _ hg).trans ((Below.heap_setCell _ ⟨w.heap.size+2,5,none⟩ _ _ hg).trans ((Below.heap_setCell _ ⟨w.heap.size+2,4,none⟩ _ _ hg).trans ((Below.heap_setCell _ ⟨w.heap.size+2,3,none⟩ _ _ hg).trans ((Below.heap_setCell _ ⟨w.heap.size+2,2,none⟩ _ _ hg).trans ((Below.heap_setCell _ ⟨w.heap.size+2,1,none⟩ _ _ hg).trans (Below.heap_setCell _ ⟨w.heap.size+2,0,none⟩ _ _ hg)))))))⟩
  have HF:Hid (∀W9:World,W6.heap.size<=W9.heap.size->(∀g,g≠w.heap.size+2->W9.heap[g]?=W6.heap[g]?)->ql W9 (.slice m1 n1 c1) (.slice m2 n2 c2) (.slice m3 n3 c3) (.slice m4 n4 c4) (JH P'.L (zV ms N h).born (zV ms N h).zm (zV ms N h).code)):=fun W9 hs hk=>by
   obtain⟨l5,hwf,hpn,s5,zcJ,_⟩:=HK5.out
   have l9:=(l5.below b6).from hs fun g h1 _=>hk g (by omega)
   have mo9:=hmo.kept hs fun g h1 _=>hk g (by omega)
   have s9:=(s5.below b6).kept hs fun g e=>hk g (by have:=(s5.lt g e).1;omega)
   have:=uC.at l9 hwf hpn mo9 s9.at (zV ms N h).born (zV ms N h).code
   rw[zcJ] at this
   exact this
  have HEQ:Hid (JH P'.L (zV ms N h).born (zV ms N h).zm (zV ms N h).code=M):=HK5.out.2.2.2.2.2
  clear r6 r5 hmo HMA j2 j3 j4 HK5
  go_wp2
  refine xU (fun W9=>zO w W9/\Bx W9 (w.heap.size+2) 34 [zI M.cells,.slice m1 n1 c1,.slice m2 n2 c2,zI M.now,.slice m3 n3 c3,zI M.born,.slice m4 n4 c4,zI M.code]/\W6.heap.size<=W9.heap.size/\∀g,g≠w.heap.size+2->W9.heap[g]?=W6.heap[g]?) HE.out ?_
  rintro W9 ⟨k1,k2,k3,k4⟩
  obtain⟨⟨q0,q1,q2,q3,q4,q5,q6,q7⟩,_⟩:=uk k2
  have hE:=HEQ.out
  exact bodyPost_ret (v:=.tuple #[.agg #[zI M.cells,.slice m1 n1 c1,.slice m2 n2 c2,zI M.now,.slice m3 n3 c3,zI M.born,.slice m4 n4 c4,zI M.code],.bool true]) (by simp[results,Tryz.results15,go_sem,q0,q1,q2,q3,q4,q5,q6,q7]) rfl ⟨P'.L,.slice m1 n1 c1,.slice m2 n2 c2,.slice m3 n3 c3,.slice m4 n4 c4,by rw[hE];rfl,HF.out W9 k3 k4,HRAN.out,k1⟩
theorem bx5 {w:World} {g:Nat} {t:TypeId} {x0 x1 x2 x3 x4:Value} (h:Bx w g t [x0,x1,x2,x3,x4]) :
 w.cell? (zH g 0)=some x0/\w.cell? (zH g 1)=some x1/\w.cell? (zH g 2)=some x2/\w.cell? (zH g 3)=some x3/\w.cell? (zH g 4)=some x4 :=
 ⟨h.cell 0 rfl,h.cell 1 rfl,h.cell 2 rfl,h.cell 3 rfl,h.cell 4 rfl⟩
structure Ul (m:Mc) (c:Int) (n t:Nat):Prop where
 eq:m=yR n t c
 small:m.small
 t4:t<=1000
theorem UO {ms:Ms} {n:Nat} {c:Int} (hp:yr ms=true) (_hn:1<=n) (hn4:n<=4):Ul (yR n (yx ms) c) c n (yx ms):=by
 obtain⟨_,_,_,_,h5⟩:=Zw hp
 have hf:=VV n (yx ms) c
 have hpl:(yR n (yx ms) c).zd.length=n:=qO n _
 have ho:(yR n (yx ms) c).order.length=n:=kU n n
 refine⟨rfl,⟨by rw[hpl];omega,fun i hi=>by have:=(hf i hi).1;omega,by show 0<=_;omega,by rw[ho];omega,by show 0<=_;omega,fun i hi j hj=>?_,fun i hi=>absurd hi yB⟩,by omega⟩
 have h1:=(hf i hi).2 j hj
 omega
theorem WU {ms:Ms} {n:Nat} {c:Int} {M:Mc} {vq:Value} {vp vo vt vs:Value} (_hp:yr ms=true) (hn:1<=n) (hn4:n<=4) (k:Xp ms M (xX c (n - 1) (yK n n) (YG (yx ms))) (kZ ms)) (hf:Ul M c n (yx ms)) (N:Nat) (w:World) (hq:yD w vq ms) (hT:TabAt w) (hm:ql w vp vo vt vs M) (hN:N<=400) :
 Calls Tryz.prog 15 #[.agg #[vq],.agg (zE vp vo vt vs M).toArray,zI (N:Int)] w fun e w'=>∃(L':yF) (v1 v2 v3 v4:Value),e=.returned (.tuple #[.agg (zE v1 v2 v3 v4 (JH L' (zV ms N (kZ ms)).born (zV ms N (kZ ms)).zm (zV ms N (kZ ms)).code)).toArray,.bool true])/\ql w' v1 v2 v3 v4 (JH L' (zV ms N (kZ ms)).born (zV ms N (kZ ms)).zm (zV ms N (kZ ms)).code)/\zbW (xX c (n - 1) (yK n n) (YG (yx ms))) L' (zV ms N (kZ ms))/\zO w w':=by
 obtain⟨rfl,hsm,JU⟩:=hf
 have hpl:(yR n (yx ms) c).zd.length=n:=qO n _
 have ho:(yR n (yx ms) c).order.length=n:=kU n n
 have hfw:=VV n (yx ms) c
 refine Kt vq ms vp vo vt vs _ _ _ N w hq hT hm hsm (by show 0<=_;omega) (by show 0<=_;omega) k (fun W hW=>?_) hN
 refine(JD vp vo vt vs _ W (hm.below hW) (by rw[ho];omega) (by rw[hpl];omega) rfl (fun i hi=>(hfw i hi).1) (fun i hi j hj=>by have:=(hfw i hi).2 j hj;omega)).mono ?_
 rintro e w' ⟨P,ρ,h1,h2,h3,h4⟩
 exact⟨P,ρ,h1,h2,h3.trans (zeN hn hn4),h4⟩
end Go.Proofs.YtbjgjjkgfnfejaaGreatDoor
