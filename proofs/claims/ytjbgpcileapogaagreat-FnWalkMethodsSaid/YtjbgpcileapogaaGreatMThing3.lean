/-
  Calls of a machine as things of their own: renumbered with ofCaller, thingOfTwin. (Written by mkmt3.py.)
-/
import Derived.Test.YtjbgpcileapogaaGreatPiece
import Derived.Deep.RegionHeld3
import Derived.Test.YtjbgpcileapogaaGreatCRow
namespace Go.Proofs.YtjbgpcileapogaaGreat
open Go.RowKit
def leftC (m:Mc) (c:Cl):Cl:=⟨c.m,c.pc,c.temps.map (renW (plCa m)),c.stack.map (renW (plCa m)),plCa m c.sender,c.dead⟩
set_option maxRecDepth 100000 in
set_option maxHeartbeats 4000000 in
theorem renumberedC_any (vp vo vt vs vl:Value) (m:Mc) (c:Cl) (w1 w2:Value) (w:World) (h:Pl w vp vo vt vs vl m) (ht:OpsAt w w1 c.temps) (hs:OpsAt w w2 c.stack) (hl:c.temps.length≤1000∧c.stack.length≤1000) (hsd:(c.sender == -1 || tellB m c.sender)=true)
    (ho1:∀i,(hi:i<c.temps.length)→c.temps[i].1=2→(c.temps[i].2 == -1 || tellB m c.temps[i].2)=true) (ho2:∀i,(hi:i<c.stack.length)→c.stack[i].1=2→(c.stack[i].2 == -1 || tellB m c.stack[i].2)=true) :
    Calls Tryz.prog 85 #[.agg #[.int .i64 c.m,.int .i64 c.pc,w1,w2,.int .i64 c.sender,.bool c.dead],.func (.func 164) #[.agg (mcCells vp vo vt vs m ++ [vl,.int .i64 (framesN m.pages:Int)]).toArray] #[]] w fun e w'=>∃u1 u2,e=.returned (.agg #[.int .i64 c.m,.int .i64 c.pc,u1,u2,.int .i64 (plCa m c.sender),.bool c.dead]) ∧
      PairRow w.heap.size w' u1 (c.temps.map (renW (plCa m)))∧PairRow w.heap.size w' u2 (c.stack.map (renW (plCa m)))∧(∀g,u1.ownBlock=some g→u2.ownBlock≠some g)∧Below w.heap.size w w':=by
  have hPl:=h
  have HOS:Hid ((∀i,(hi:i<c.temps.length)→c.temps[i].1=2→(c.temps[i].2 == -1 || tellB m c.temps[i].2)=true)∧(∀i,(hi:i<c.stack.length)→c.stack[i].1=2→(c.stack[i].2 == -1 || tellB m c.stack[i].2)=true)):=⟨ho1,ho2⟩
  have HSD:Hid ((c.sender == -1 || tellB m c.sender)=true):=hsd
  clear ho1 ho2 hsd
  obtain⟨hM,hL,hN,hTn⟩:=h
  obtain⟨ap,cp,hvp,hlp,hcp⟩:=id hM.p
  obtain⟨ao,co,hvo⟩:=hM.o.shape
  obtain⟨at',ct,hvt,hlt',hct⟩:=id hM.t
  obtain⟨as',cs,hvs⟩:=hM.s.shape
  obtain⟨al,cl,hvl,hll,hcl⟩:=id hL
  subst hvp hvo hvt hvs hvl
  unfold mcCells
  simp only[List.cons_append,List.nil_append]
  obtain⟨a1,k1,e1⟩:=ht.shape
  obtain⟨a2,k2,e2⟩:=hs.shape
  subst e1 e2
  clear hcl hct hcp
  have HCA:Hid (∀(W:World),Below w.heap.size w W→Calls Tryz.prog 164 #[.agg #[.int .i64 m.cells,.slice ap m.pages.length cp,.slice ao m.order.length co,.int .i64 m.now,.slice at' m.twins.length ct,.int .i64 m.born,.slice as' m.said.length cs,.int .i64 m.code,.slice al (lows m.pages).length cl,.int .i64 (framesN m.pages:Int)],.int .i64 c.sender] W fun e w'=>e=.returned (.int .i64 (plCa m c.sender))∧Below W.heap.size W w'):=fun W hW=>by
    have:=ofCaller_any _ _ _ _ _ m c.sender W (hPl.below hW) HSD.out
    unfold mcCells at this
    simpa only [List.cons_append,List.nil_append] using this
  have HRV:Hid (∀(W:World) (v:Value) (l:List (Int × Int)),Below w.heap.size w W→OpsAt W v l→l.length≤1000→(∀i,(hi:i<l.length)→l[i].1=2→(l[i].2 == -1 || tellB m l[i].2)=true)→Calls Tryz.prog 144 #[v,.func (.func 164) #[.agg #[.int .i64 m.cells,.slice ap m.pages.length cp,.slice ao m.order.length co,.int .i64 m.now,.slice at' m.twins.length ct,.int .i64 m.born,.slice as' m.said.length cs,.int .i64 m.code,.slice al (lows m.pages).length cl,.int .i64 (framesN m.pages:Int)]] #[]] W fun e w'=>∃v',e=.returned v'∧PairRow W.heap.size w' v' (l.map (renW (plCa m)))∧Below W.heap.size W w'):=fun W v l hW hv hl ho=>by
    have:=renumValsC_any _ _ _ _ _ m v l W (hPl.below hW) hv hl ho
    unfold mcCells at this
    simpa only [List.cons_append,List.nil_append] using this
  go_enter Tryz.func85,Tryz.ntmps85
  go_upto_region 1 with fail
  refine wp_gen (fun W=>Below w.heap.size w W∧Bx W w.heap.size 37 [.int .i64 c.m,.int .i64 c.pc,.slice a1 c.temps.length k1,.slice a2 c.stack.length k2,.int .i64 c.sender,.bool c.dead]∧Bx W (w.heap.size+1) 37 [.int .i64 0,.int .i64 0,.slice none 0 0,.slice none 0 0,.int .i64 0,.bool false]) ⟨((Below.refl _ _).alloc (Nat.le_refl _) _).alloc (by simp) _,(Bx.new w _ _).alloc _,Bx.newAt _ _ _ (by simp)⟩ ?_
  rintro W0 ⟨B0,x0,y0⟩
  have z0:=B0.size
  have p4:=x0.cell 4 rfl
  go_wp2_with fail
  refine(HCA.out _ B0).mono ?_
  rintro e V1 ⟨rfl,t1⟩
  have bx1:=x0.below t1
  have by1:=y0.below t1
  have BB1:=B0.trans (t1.mono z0)
  clear t1 x0 y0 B0 z0 p4
  have p4:=bx1.cell 4 rfl
  have f4:=bx1.frozen 4
  go_upto_region 2 with fail
  refine wp_gen (fun W=>Below w.heap.size w W∧Bx W w.heap.size 37 [.int .i64 c.m,.int .i64 c.pc,.slice a1 c.temps.length k1,.slice a2 c.stack.length k2,.int .i64 (plCa m c.sender),.bool c.dead]∧Bx W (w.heap.size+1) 37 [.int .i64 0,.int .i64 0,.slice none 0 0,.slice none 0 0,.int .i64 0,.bool false]) ?_ ?_
  · have HW:=(Wr.refl1 w.heap.size V1).set1 (o:=4) (.int .i64 (plCa m c.sender))
    exact⟨HW.below1 BB1 (Nat.le_refl _) (Nat.le_refl _),bx1.set 4 _,HW.bx by1 (by omega)⟩
  clear bx1 by1 BB1 p4 f4
  rintro W1 ⟨B1,x1,y1⟩
  have z1:=B1.size
  have p2:=x1.cell 2 rfl
  go_wp2_with fail
  refine(HRV.out _ _ c.temps B1 (ht.below B1) hl.1 HOS.out.1).mono ?_
  rintro e V2 ⟨u1,rfl,r1,t2⟩
  obtain⟨a3,k3,e3,_⟩:=r1.slice
  rw[List.length_map] at e3
  subst e3
  have bx2:=x1.below t2
  have by2:=y1.below t2
  have BB2:=B1.trans (t2.mono z1)
  have hl1:w.heap.size+1<W1.heap.size:=y1.lt
  clear t2 x1 y1 B1 p2
  have p2:=bx2.cell 2 rfl
  have f2:=bx2.frozen 2
  go_upto_region 3 with fail
  refine wp_gen (fun W=>Below w.heap.size w W∧Bx W w.heap.size 37 [.int .i64 c.m,.int .i64 c.pc,.slice a3 c.temps.length k3,.slice a2 c.stack.length k2,.int .i64 (plCa m c.sender),.bool c.dead]∧Bx W (w.heap.size+1) 37 [.int .i64 0,.int .i64 0,.slice none 0 0,.slice none 0 0,.int .i64 0,.bool false]∧PairRow W1.heap.size W (.slice a3 c.temps.length k3) (c.temps.map (renW (plCa m)))) ?_ ?_
  · have HW:=(Wr.refl1 w.heap.size V2).set1 (o:=2) (.slice a3 c.temps.length k3)
    exact⟨HW.below1 BB2 (Nat.le_refl _) (Nat.le_refl _),bx2.set 2 _,HW.bx by2 (by omega),HW.pair r1 (fun g e e2=>by have:=(r1.lt g e).1;omega)⟩
  clear bx2 by2 BB2 p2 f2 r1
  rintro W2 ⟨B2,x2,y2,r2⟩
  have z2:=B2.size
  have p3:=x2.cell 3 rfl
  go_wp2_with fail
  refine(HRV.out _ _ c.stack B2 (hs.below B2) hl.2 HOS.out.2).mono ?_
  rintro e V3 ⟨u2,rfl,r3,t3⟩
  obtain⟨a4,k4,e4,_⟩:=r3.slice
  rw[List.length_map] at e4
  subst e4
  have bx3:=x2.below t3
  have by3:=y2.below t3
  have br3:=r2.below t3
  have BB3:=B2.trans (t3.mono z2)
  have hl2:w.heap.size+1<W2.heap.size:=y2.lt
  have HAP:Hid (∀g,(Value.slice a3 c.temps.length k3).ownBlock=some g→(Value.slice a4 c.stack.length k4).ownBlock≠some g):=fun g e e2=>by have h1:=(r2.lt g e).2;have h2:=(r3.lt g e2).1;omega
  clear t3 x2 y2 B2 p3 r2
  have p3:=bx3.cell 3 rfl
  have f3:=bx3.frozen 3
  go_upto_region 4 with fail
  refine wp_gen (fun W=>Below w.heap.size w W∧Bx W w.heap.size 37 [.int .i64 c.m,.int .i64 c.pc,.slice a3 c.temps.length k3,.slice a4 c.stack.length k4,.int .i64 (plCa m c.sender),.bool c.dead]∧Bx W (w.heap.size+1) 37 [.int .i64 0,.int .i64 0,.slice none 0 0,.slice none 0 0,.int .i64 0,.bool false]∧PairRow W1.heap.size W (.slice a3 c.temps.length k3) (c.temps.map (renW (plCa m)))∧PairRow W2.heap.size W (.slice a4 c.stack.length k4) (c.stack.map (renW (plCa m)))) ?_ ?_
  · have HW:=(Wr.refl1 w.heap.size V3).set1 (o:=3) (.slice a4 c.stack.length k4)
    exact⟨HW.below1 BB3 (Nat.le_refl _) (Nat.le_refl _),bx3.set 3 _,HW.bx by3 (by omega),HW.pair br3 (fun g e e2=>by have:=(br3.lt g e).1;omega),HW.pair r3 (fun g e e2=>by have:=(r3.lt g e).1;omega)⟩
  clear bx3 by3 BB3 p3 f3 br3 r3
  rintro W3 ⟨B3,x3,y3,r3,s3⟩
  have p0:=x3.cell 0 rfl
  have pf0:=x3.frozen 0
  have p1:=x3.cell 1 rfl
  have pf1:=x3.frozen 1
  have p2:=x3.cell 2 rfl
  have pf2:=x3.frozen 2
  have p3:=x3.cell 3 rfl
  have pf3:=x3.frozen 3
  have p4:=x3.cell 4 rfl
  have pf4:=x3.frozen 4
  have p5:=x3.cell 5 rfl
  have pf5:=x3.frozen 5
  have q0:=y3.cell 0 rfl
  have qf0:=y3.frozen 0
  have q1:=y3.cell 1 rfl
  have qf1:=y3.frozen 1
  have q2:=y3.cell 2 rfl
  have qf2:=y3.frozen 2
  have q3:=y3.cell 3 rfl
  have qf3:=y3.frozen 3
  have q4:=y3.cell 4 rfl
  have qf4:=y3.frozen 4
  have q5:=y3.cell 5 rfl
  have qf5:=y3.frozen 5
  go_wp2
  refine bp_gen (fun W=>Below w.heap.size w W∧Bx W (w.heap.size+1) 37 [.int .i64 c.m,.int .i64 c.pc,.slice a3 c.temps.length k3,.slice a4 c.stack.length k4,.int .i64 (plCa m c.sender),.bool c.dead]∧PairRow w.heap.size W (.slice a3 c.temps.length k3) (c.temps.map (renW (plCa m)))∧PairRow w.heap.size W (.slice a4 c.stack.length k4) (c.stack.map (renW (plCa m)))) ?_ ?_
  · have HW:=((((((Wr.refl1 (w.heap.size+1) W3).set1 (o:=0) (.int .i64 c.m)).set1 (o:=1) (.int .i64 c.pc)).set1 (o:=2) (.slice a3 c.temps.length k3)).set1 (o:=3) (.slice a4 c.stack.length k4)).set1 (o:=4) (.int .i64 (plCa m c.sender))).set1 (o:=5) (.bool c.dead)
    exact⟨HW.below1 B3 (Nat.le_refl _) (Nat.le_succ _),(((((y3.set 0 _).set 1 _).set 2 _).set 3 _).set 4 _).set 5 _,(HW.pair r3 (fun g e e2=>by have:=(r3.lt g e).1;omega)).mono (by omega),(HW.pair s3 (fun g e e2=>by have:=(s3.lt g e).1;omega)).mono (by omega)⟩
  rintro W9 ⟨B9,x9,r9,s9⟩
  have i0:=x9.cell 0 rfl
  have i1:=x9.cell 1 rfl
  have i2:=x9.cell 2 rfl
  have i3:=x9.cell 3 rfl
  have i4:=x9.cell 4 rfl
  have i5:=x9.cell 5 rfl
  exact bodyPost_ret (v:=.agg #[.int .i64 c.m,.int .i64 c.pc,.slice a3 c.temps.length k3,.slice a4 c.stack.length k4,.int .i64 (plCa m c.sender),.bool c.dead]) (by simp[results,Tryz.results85,go_sem,i0,i1,i2,i3,i4,i5]) rfl ⟨_,_,rfl,r9,s9,HAP.out,B9⟩
def thingTw (m:Mc) (t:Tw):Cl:=if t.page=-1 then leftC m t.left else⟨0,0,[],[],-1,true⟩
set_option maxRecDepth 100000 in
set_option maxHeartbeats 4000000 in
theorem thingOfTwin_any (vp vo vt vs vl:Value) (m:Mc) (T:Tw) (w1 w2:Value) (w:World) (h:Pl w vp vo vt vs vl m) (ht:OpsAt w w1 T.left.temps) (hs:OpsAt w w2 T.left.stack) (hl:T.left.temps.length≤1000∧T.left.stack.length≤1000)
    (hok:T.page=-1→(T.left.sender == -1 || tellB m T.left.sender)=true∧(∀i,(hi:i<T.left.temps.length)→T.left.temps[i].1=2→(T.left.temps[i].2 == -1 || tellB m T.left.temps[i].2)=true)∧(∀i,(hi:i<T.left.stack.length)→T.left.stack[i].1=2→(T.left.stack[i].2 == -1 || tellB m T.left.stack[i].2)=true)) :
    Calls Tryz.prog 126 #[.agg (mcCells vp vo vt vs m ++ [vl,.int .i64 (framesN m.pages:Int)]).toArray,.agg #[.int .i64 T.page,.int .i64 T.place,.int .i64 T.left.m,.int .i64 T.left.pc,w1,w2,.int .i64 T.left.sender,.bool T.left.dead]] w fun e w'=>∃u1 u2,e=.returned (.agg #[.int .i64 (thingTw m T).m,.int .i64 (thingTw m T).pc,u1,u2,.int .i64 (thingTw m T).sender,.bool (thingTw m T).dead]) ∧
      PairRow w.heap.size w' u1 (thingTw m T).temps∧PairRow w.heap.size w' u2 (thingTw m T).stack∧(∀g,u1.ownBlock=some g→u2.ownBlock≠some g)∧Below w.heap.size w w':=by
  have hPl:=h
  have HOK:Hid (T.page=-1→(T.left.sender == -1 || tellB m T.left.sender)=true∧(∀i,(hi:i<T.left.temps.length)→T.left.temps[i].1=2→(T.left.temps[i].2 == -1 || tellB m T.left.temps[i].2)=true)∧(∀i,(hi:i<T.left.stack.length)→T.left.stack[i].1=2→(T.left.stack[i].2 == -1 || tellB m T.left.stack[i].2)=true)):=hok
  clear hok
  obtain⟨Th,hTh⟩:∃Th,thingTw m T=Th:=⟨_,rfl⟩
  have HTH:Hid (thingTw m T=Th):=hTh
  rw[hTh]
  clear hTh
  obtain⟨hM,hL,hN,hTn⟩:=h
  obtain⟨ap,cp,hvp,hlp,hcp⟩:=id hM.p
  obtain⟨ao,co,hvo⟩:=hM.o.shape
  obtain⟨at',ct,hvt,hlt',hct⟩:=id hM.t
  obtain⟨as',cs,hvs⟩:=hM.s.shape
  obtain⟨al,cl,hvl,hll,hcl⟩:=id hL
  subst hvp hvo hvt hvs hvl
  unfold mcCells
  simp only[List.cons_append,List.nil_append]
  obtain⟨a1,k1,e1⟩:=ht.shape
  obtain⟨a2,k2,e2⟩:=hs.shape
  subst e1 e2
  clear hcl hct hcp
  go_enter Tryz.func126,Tryz.ntmps126
  go_upto_region 1 with fail
  refine wp_gen (fun W=>Below w.heap.size w W∧Bx W w.heap.size 128 [.int .i64 m.cells,.slice ap m.pages.length cp,.slice ao m.order.length co,.int .i64 m.now,.slice at' m.twins.length ct,.int .i64 m.born,.slice as' m.said.length cs,.int .i64 m.code,.slice al (lows m.pages).length cl,.int .i64 (framesN m.pages:Int)]∧Bx W (w.heap.size+1) 90 [.int .i64 T.page,.int .i64 T.place,.int .i64 T.left.m,.int .i64 T.left.pc,.slice a1 T.left.temps.length k1,.slice a2 T.left.stack.length k2,.int .i64 T.left.sender,.bool T.left.dead]∧Bx W (w.heap.size+1+1) 37 [.int .i64 0,.int .i64 0,.slice none 0 0,.slice none 0 0,.int .i64 0,.bool false]) ⟨(((Below.refl _ _).alloc (Nat.le_refl _) _).alloc (by simp) _).alloc (by simp;omega) _,((Bx.new w _ _).alloc _).alloc _,(Bx.newAt _ _ _ (by simp)).alloc _,Bx.newAt _ _ _ (by simp)⟩ ?_
  rintro W0 ⟨B0,x0,t0,y0⟩
  have z0:=B0.size
  have hy0:w.heap.size+1+1<W0.heap.size:=y0.lt
  obtain⟨⟨c0,c1,c2,c3,c4,c5,c6,c7⟩,_⟩:=bx8 t0
  by_cases hp:T.page=-1
  case neg =>
    have hpe:¬(T.page=-1):=hp
    have e:Th=⟨0,0,[],[],-1,true⟩:=by rw[←HTH.out];unfold thingTw;rw[if_neg hp]
    subst e
    have q0:=y0.cell 0 rfl
    have qf0:=y0.frozen 0
    have q1:=y0.cell 1 rfl
    have qf1:=y0.frozen 1
    have q2:=y0.cell 2 rfl
    have qf2:=y0.frozen 2
    have q3:=y0.cell 3 rfl
    have qf3:=y0.frozen 3
    have q4:=y0.cell 4 rfl
    have qf4:=y0.frozen 4
    have q5:=y0.cell 5 rfl
    have qf5:=y0.frozen 5
    go_wp2
    refine bp_gen (fun W=>Below w.heap.size w W∧Bx W (w.heap.size+1+1) 37 [.int .i64 0,.int .i64 0,.slice none 0 0,.slice none 0 0,.int .i64 (-1),.bool true]) ?_ ?_
    · have HW:=((((((Wr.refl1 (w.heap.size+1+1) W0).set1 (o:=0) (.int .i64 0)).set1 (o:=1) (.int .i64 0)).set1 (o:=2) (.slice none 0 0)).set1 (o:=3) (.slice none 0 0)).set1 (o:=4) (.int .i64 (-1))).set1 (o:=5) (.bool true)
      exact⟨HW.below1 B0 (Nat.le_refl _) (Nat.le_trans (Nat.le_succ _) (Nat.le_succ _)),(((((y0.set 0 _).set 1 _).set 2 _).set 3 _).set 4 _).set 5 _⟩
    rintro W9 ⟨B9,x9⟩
    have i0:=x9.cell 0 rfl
    have i1:=x9.cell 1 rfl
    have i2:=x9.cell 2 rfl
    have i3:=x9.cell 3 rfl
    have i4:=x9.cell 4 rfl
    have i5:=x9.cell 5 rfl
    exact bodyPost_ret (v:=.agg #[.int .i64 0,.int .i64 0,.slice none 0 0,.slice none 0 0,.int .i64 (-1),.bool true]) (by simp[results,Tryz.results126,go_sem,i0,i1,i2,i3,i4,i5]) rfl ⟨_,_,rfl,PairRow.nil _ _,PairRow.nil _ _,fun g e=>by simp[Value.ownBlock] at e,B9⟩
  have e:Th=leftC m T.left:=by rw[←HTH.out];unfold thingTw;rw[if_pos hp]
  subst e
  rw[hp] at c0
  obtain⟨ok1,ok2,ok3⟩:=HOK.out hp
  have HC:=renumberedC_any _ _ _ _ _ m T.left _ _ W0 (hPl.below B0) (ht.below B0) (hs.below B0) hl ok1 ok2 ok3
  unfold mcCells at HC
  simp only[List.cons_append,List.nil_append] at HC
  obtain⟨⟨p0,p1,p2,p3,p4,p5,p6,p7,p8,p9⟩,_⟩:=bx10 x0
  clear ok1 ok2 ok3 HOK
  go_wp2_with fail
  refine HC.mono ?_
  rintro e W1 ⟨u1,u2,rfl,r1,s1,hap,t1⟩
  obtain⟨a3,k3,e3,_⟩:=r1.slice
  obtain⟨a4,k4,e4,_⟩:=s1.slice
  subst e3 e4
  have B1:=B0.trans (t1.mono z0)
  have y1:=y0.below t1
  have HAP:Hid _:=hap
  clear HC t1 B0 x0 t0 y0 hap c0 c1 c2 c3 c4 c5 c6 c7 p0 p1 p2 p3 p4 p5 p6 p7 p8 p9
  have q0:=y1.cell 0 rfl
  have qf0:=y1.frozen 0
  have q1:=y1.cell 1 rfl
  have qf1:=y1.frozen 1
  have q2:=y1.cell 2 rfl
  have qf2:=y1.frozen 2
  have q3:=y1.cell 3 rfl
  have qf3:=y1.frozen 3
  have q4:=y1.cell 4 rfl
  have qf4:=y1.frozen 4
  have q5:=y1.cell 5 rfl
  have qf5:=y1.frozen 5
  obtain⟨pl,hpl⟩:∃pl,plCa m T.left.sender=pl:=⟨_,rfl⟩
  rw[hpl]
  obtain⟨n3,hn3⟩:∃n,(T.left.temps.map (renW (plCa m))).length=n:=⟨_,rfl⟩
  obtain⟨n4,hn4⟩:∃n,(T.left.stack.map (renW (plCa m))).length=n:=⟨_,rfl⟩
  rw[hn3] at r1 HAP ⊢
  rw[hn4] at s1 HAP ⊢
  clear hn3 hn4
  have HPL:Hid (plCa m T.left.sender=pl):=hpl
  clear hpl
  go_wp2
  refine bp_gen (fun W=>Below w.heap.size w W∧Bx W (w.heap.size+1+1) 37 [.int .i64 T.left.m,.int .i64 T.left.pc,.slice a3 n3 k3,.slice a4 n4 k4,.int .i64 pl,.bool T.left.dead]∧PairRow w.heap.size W (.slice a3 n3 k3) (T.left.temps.map (renW (plCa m)))∧PairRow w.heap.size W (.slice a4 n4 k4) (T.left.stack.map (renW (plCa m)))) ?_ ?_
  · have HW:=((((((Wr.refl1 (w.heap.size+1+1) W1).set1 (o:=0) (.int .i64 T.left.m)).set1 (o:=1) (.int .i64 T.left.pc)).set1 (o:=2) (.slice a3 n3 k3)).set1 (o:=3) (.slice a4 n4 k4)).set1 (o:=4) (.int .i64 pl)).set1 (o:=5) (.bool T.left.dead)
    exact⟨HW.below1 B1 (Nat.le_refl _) (Nat.le_trans (Nat.le_succ _) (Nat.le_succ _)),(((((y1.set 0 _).set 1 _).set 2 _).set 3 _).set 4 _).set 5 _,(HW.pair r1 (fun g e e2=>by have:=(r1.lt g e).1;omega)).mono z0,(HW.pair s1 (fun g e e2=>by have:=(s1.lt g e).1;omega)).mono z0⟩
  rintro W9 ⟨B9,x9,r9,s9⟩
  have i0:=x9.cell 0 rfl
  have i1:=x9.cell 1 rfl
  have i2:=x9.cell 2 rfl
  have i3:=x9.cell 3 rfl
  have i4:=x9.cell 4 rfl
  have i5:=x9.cell 5 rfl
  exact bodyPost_ret (v:=.agg #[.int .i64 T.left.m,.int .i64 T.left.pc,.slice a3 n3 k3,.slice a4 n4 k4,.int .i64 pl,.bool T.left.dead]) (by simp[results,Tryz.results126,go_sem,i0,i1,i2,i3,i4,i5]) rfl ⟨_,_,by rw[←HPL.out];rfl,r9,s9,HAP.out,B9⟩
def LvBody (B:Nat) (w:World) (d:Nat) (vt vs:Value) (c:Cl):Prop :=
  w.rowIs d 218 5 (five (.int .i64 c.m) (.int .i64 c.pc) vt vs (.bool c.dead))∧PairRow B w vt c.temps∧PairRow B w vs c.stack∧B≤d ∧
  (∀g,vt.ownBlock=some g→g≠d∧vs.ownBlock≠some g)∧(∀g,vs.ownBlock=some g→g≠d)
set_option maxRecDepth 100000 in
set_option maxHeartbeats 4000000 in
theorem lvBodyOf_any (c:Cl) (vt vs:Value) (w:World) (ht:OpsAt w vt c.temps) (hs:OpsAt w vs c.stack) (hl:c.temps.length≤1000∧c.stack.length≤1000) :
    Calls Tryz.prog 116 #[.agg #[.int .i64 c.m,.int .i64 c.pc,vt,vs,.int .i64 c.sender,.bool c.dead]] w fun e w'=>∃(d:Nat) (vt' vs':Value),e=.returned (.pointer (some ⟨d,0,none⟩))∧LvBody w.heap.size w' d vt' vs' c∧Below w.heap.size w w':=by
  obtain⟨at_,ct,hvt⟩:=ht.shape
  obtain⟨as_,cs,hvs⟩:=hs.shape
  subst hvt hvs
  have hA:Below w.heap.size w (w.alloc (.cells #[.int .i64 c.m,.int .i64 c.pc,.slice at_ c.temps.length ct,.slice as_ c.stack.length cs,.int .i64 c.sender,.bool c.dead] 37)):=(Below.refl _ _).alloc (Nat.le_refl _) _
  have r1:=six_new w 37 (.int .i64 c.m) (.int .i64 c.pc) (.slice at_ c.temps.length ct) (.slice as_ c.stack.length cs) (.int .i64 c.sender) (.bool c.dead)
  have HT:Hid (OpsAt w (.slice at_ c.temps.length ct) c.temps∧OpsAt w (.slice as_ c.stack.length cs) c.stack):=⟨ht,hs⟩
  have hzA:w.heap.size<(w.alloc (.cells #[.int .i64 c.m,.int .i64 c.pc,.slice at_ c.temps.length ct,.slice as_ c.stack.length cs,.int .i64 c.sender,.bool c.dead] 37)).heap.size:=by simp
  clear ht hs
  go_enter Tryz.func116,Tryz.ntmps116
  go_upto_region 1 with fail
  generalize w.alloc (.cells #[.int .i64 c.m,.int .i64 c.pc,.slice at_ c.temps.length ct,.slice as_ c.stack.length cs,.int .i64 c.sender,.bool c.dead] 37)=W at *
  obtain⟨⟨x0,x1,x2,x3,x4,x5⟩,_⟩:=six_cells r1
  have HS:∀w':World,Below W.heap.size W w'→((w'.cell? ⟨w.heap.size,0,none⟩=some (.int .i64 c.m)∧w'.cell? ⟨w.heap.size,1,none⟩=some (.int .i64 c.pc)∧w'.cell? ⟨w.heap.size,2,none⟩=some (.slice at_ c.temps.length ct)∧w'.cell? ⟨w.heap.size,3,none⟩=some (.slice as_ c.stack.length cs)∧w'.cell? ⟨w.heap.size,5,none⟩=some (.bool c.dead))∧Below W.heap.size W w'):=fun w' hb=>⟨⟨cell_below hb x0,cell_below hb x1,cell_below hb x2,cell_below hb x3,cell_below hb x5⟩,hb⟩
  have HCT:Hid (∀W',Below W.heap.size W W'→Calls Tryz.prog 53 #[.slice at_ c.temps.length ct] W' fun e w'=>∃v',e=.returned v'∧PairRow W'.heap.size w' v' c.temps∧Below W'.heap.size W' w'):=fun W' hb=>clone_any _ _ _ (HT.out.1.below (hA.trans (hb.mono hA.size))) hl.1
  have HCS:Hid (∀W',Below W.heap.size W W'→Calls Tryz.prog 53 #[.slice as_ c.stack.length cs] W' fun e w'=>∃v',e=.returned v'∧PairRow W'.heap.size w' v' c.stack∧Below W'.heap.size W' w'):=fun W' hb=>clone_any _ _ _ (HT.out.2.below (hA.trans (hb.mono hA.size))) hl.2
  clear x0 x1 x2 x3 x4 x5 r1
  go_region_held3 (fun w'=>(w'.cell? ⟨w.heap.size,0,none⟩=some (.int .i64 c.m)∧w'.cell? ⟨w.heap.size,1,none⟩=some (.int .i64 c.pc)∧w'.cell? ⟨w.heap.size,2,none⟩=some (.slice at_ c.temps.length ct)∧w'.cell? ⟨w.heap.size,3,none⟩=some (.slice as_ c.stack.length cs)∧w'.cell? ⟨w.heap.size,5,none⟩=some (.bool c.dead))∧Below W.heap.size W w')
    ((refine HS _ ?_;first
      | (with_reducible exact(‹(_∧_∧_∧_∧_)∧Below W.heap.size W _›).2)
      | (with_reducible exact(Below.refl _ _).drew)
      | (with_reducible exact hBT)
      | (with_reducible exact hBS)
      | (with_reducible exact hBT.alloc hBT.size _)
      | (with_reducible exact hBS.alloc hBS.size _)))
    (first
      | (go_at_call 53;refine(HCT.out _ (‹(_∧_∧_∧_∧_)∧Below W.heap.size W _›).2).mono ?_;rintro e wT ⟨vT,rfl,hrT,hbT⟩;have hBT:=Below.trans (‹(_∧_∧_∧_∧_)∧Below W.heap.size W _›).2 (hbT.mono ((‹(_∧_∧_∧_∧_)∧Below W.heap.size W _›).2).size);obtain⟨aT,kT,hvT,_⟩:=hrT.slice;subst hvT)
      | (go_at_call 53;refine(HCS.out _ (‹(_∧_∧_∧_∧_)∧Below W.heap.size W _›).2).mono ?_;rintro e wS ⟨vS,rfl,hrS,hbS⟩;have hBS:=Below.trans (‹(_∧_∧_∧_∧_)∧Below W.heap.size W _›).2 (hbS.mono ((‹(_∧_∧_∧_∧_)∧Below W.heap.size W _›).2).size);obtain⟨aS,kS,hvS,_⟩:=hrS.slice;subst hvS))
  all_goals first
    | (have hbXY:Below wT.heap.size wT wS:=hbS;
       have hzX:w.heap.size≤W.heap.size:=hA.size;
       have hzW:W.heap.size≤wT.heap.size:=hBT.size;
       have hzY:=hbS.size;
       have N9:=(Below.refl wS.heap.size wS).alloc (Nat.le_refl _) (.cells #[.int .i64 c.m,.int .i64 c.pc,.slice aT c.temps.length kT,.slice aS c.stack.length kS,.bool c.dead] 218);
       have r9:=five_new wS 218 (.int .i64 c.m) (.int .i64 c.pc) (.slice aT c.temps.length kT) (.slice aS c.stack.length kS) (.bool c.dead);
       have pX:=(hrT.below hbXY).below N9;
       have pY:=hrS.below N9;
       have B9:=(hA.trans (hBS.mono hA.size)).trans (N9.mono (Nat.le_trans hzX (Nat.le_trans hzW hzY)));
       have HFIN:Hid (LvBody w.heap.size (wS.alloc (.cells #[.int .i64 c.m,.int .i64 c.pc,.slice aT c.temps.length kT,.slice aS c.stack.length kS,.bool c.dead] 218)) wS.heap.size (.slice aT c.temps.length kT) (.slice aS c.stack.length kS) c):=⟨r9,pX.mono (by first | exact hzX | exact Nat.le_trans hzX hzW),pY.mono (by first | exact hzX | exact Nat.le_trans hzX hzW),by omega,fun g e=>⟨by have:=(hrT.lt g e).2;omega,fun e2=>by have q1:=hrT.lt g e;have q2:=hrS.lt g e2;omega⟩,fun g e=>by have:=(hrS.lt g e).2;omega⟩;
       clear HS HCT HCS;
       go_wp2;
       go_ret;
       exact⟨_,_,_,rfl,HFIN.out,B9⟩)
    | (have hbXY:Below wS.heap.size wS wT:=hbT;
       have hzX:w.heap.size≤W.heap.size:=hA.size;
       have hzW:W.heap.size≤wS.heap.size:=hBS.size;
       have hzY:=hbT.size;
       have N9:=(Below.refl wT.heap.size wT).alloc (Nat.le_refl _) (.cells #[.int .i64 c.m,.int .i64 c.pc,.slice aT c.temps.length kT,.slice aS c.stack.length kS,.bool c.dead] 218);
       have r9:=five_new wT 218 (.int .i64 c.m) (.int .i64 c.pc) (.slice aT c.temps.length kT) (.slice aS c.stack.length kS) (.bool c.dead);
       have pX:=(hrS.below hbXY).below N9;
       have pY:=hrT.below N9;
       have B9:=(hA.trans (hBT.mono hA.size)).trans (N9.mono (Nat.le_trans hzX (Nat.le_trans hzW hzY)));
       have HFIN:Hid (LvBody w.heap.size (wT.alloc (.cells #[.int .i64 c.m,.int .i64 c.pc,.slice aT c.temps.length kT,.slice aS c.stack.length kS,.bool c.dead] 218)) wT.heap.size (.slice aT c.temps.length kT) (.slice aS c.stack.length kS) c):=⟨r9,pY.mono (by first | exact hzX | exact Nat.le_trans hzX hzW),pX.mono (by first | exact hzX | exact Nat.le_trans hzX hzW),by omega,fun g e=>⟨by have:=(hrT.lt g e).2;omega,fun e2=>by have q1:=hrT.lt g e;have q2:=hrS.lt g e2;omega⟩,fun g e=>by have:=(hrS.lt g e).2;omega⟩;
       clear HS HCT HCS;
       go_wp2;
       go_ret;
       exact⟨_,_,_,rfl,HFIN.out,B9⟩)
theorem LvAt.addPage {B:Nat} {P:Lay} {ρ:Nat→Rl} {w W:World} (h:LvAt B ρ w P) (_hB:B≤w.heap.size) {v':Value} (base:Int)
    (hrow:CRow B 2 W v' (P.L.pages.length+1) (cells2 (pgPairs P.F P.L.pages) ++ [.int .i64 base,.slice none 0 0])) (hg:w.grownBy W P.vp.ownBlock) (hor:v'.ownBlock=P.vp.ownBlock∨v'.ownBlock=some w.heap.size) :
    LvAt B (newRole ρ w .pages) (W.setCell ⟨P.bl,1,none⟩ v') {P with vp:=v',F:=fun k=>if k=P.L.pages.length then .slice none 0 0 else P.F k,L:={P.L with pages:=P.L.pages ++ [⟨base,[]⟩]}}:=by
  have c:Ch (fun r=>r=.pages) ρ (newRole ρ w .pages) w W:=Ch.grown hg ρ .pages fun g e=>(h .pages).2 g e
  have h1:=Lay.it_keep (P:=P) (h .live) c (by simp)
  have c2:Ch (fun r=>r=.live) (newRole ρ w .pages) (newRole ρ w .pages) W (W.setCell ⟨P.bl,1,none⟩ v'):=Ch.set W _ _ _ _ h1.2.1
  have c3:Ch (fun r=>r=.live∨r=.pages) ρ (newRole ρ w .pages) w (W.setCell ⟨P.bl,1,none⟩ v'):=(c.mono fun _ e=>.inr e).trans (c2.mono fun _ e=>.inl e)
  have hl:(P.L.pages ++ [(⟨base,[]⟩:LvP)]).length=P.L.pages.length+1:=by simp
  have hown:∀g,v'.ownBlock=some g→newRole ρ w .pages g=.pages:=fun g e=>by
    rcases hor with e2 | e2
    · rw[e2] at e
      exact(c.role g ((h .pages).1.lt g e).2).trans ((h .pages).2 g e)
    · rw[e2] at e
      injection e with e
      subst e
      exact newRole_new (Nat.le_refl _)
  have hpp:pgPairs (fun k=>if k=P.L.pages.length then .slice none 0 0 else P.F k) (P.L.pages ++ [⟨base,[]⟩])=pgPairs P.F P.L.pages ++ [(.int .i64 base,.slice none 0 0)]:=by
    unfold pgPairs
    rw[hl,List.range_succ,List.map_append]
    congr 1
    · refine List.map_congr_left fun i hi=>?_
      have hi':i<P.L.pages.length:=by simpa using hi
      have hin:i≠P.L.pages.length:=by omega
      simp[List.getElem?_append_left hi',hin]
    · simp
  intro r
  cases r with
  | other=>trivial
  | live=>exact⟨h1.1.set 1 _,h1.2.1,h1.2.2⟩
  | pages =>
    refine⟨?_,hown⟩
    show CRow B 2 _ v' (P.L.pages ++ [(⟨base,[]⟩:LvP)]).length _
    rw[hl,hpp,cells2_snoc]
    exact hrow.kept c2.size fun g e=>c2.blk g (hrow.lt g e).2 (by rw[hown g e];simp)
  | frames i =>
    intro hi
    by_cases e:i=P.L.pages.length
    · subst e
      show CRow B 2 _ (if P.L.pages.length=P.L.pages.length then Value.slice none 0 0 else P.F P.L.pages.length) (P.L.pages ++ [(⟨base,[]⟩:LvP)])[P.L.pages.length].frames.length (cells2 (frPairs P.D (P.L.pages ++ [(⟨base,[]⟩:LvP)])[P.L.pages.length].frames))∧∀g,(if P.L.pages.length=P.L.pages.length then Value.slice none 0 0 else P.F P.L.pages.length).ownBlock=some g→_
      rw[if_pos rfl,List.getElem_append_right (Nat.le_refl _)]
      simp only[Nat.sub_self,List.getElem_cons_zero]
      exact⟨CRow.nil _ _ _,fun g e=>by cases e⟩
    · have hi2:i<P.L.pages.length:=by
        have:i<(P.L.pages ++ [(⟨base,[]⟩:LvP)]).length:=hi
        omega
      have:=(Lay.it_keep (P:=P) (h (.frames i)) c3 (by simp)) hi2
      show CRow B 2 _ (if i=P.L.pages.length then Value.slice none 0 0 else P.F i) (P.L.pages ++ [(⟨base,[]⟩:LvP)])[i].frames.length (cells2 (frPairs P.D (P.L.pages ++ [(⟨base,[]⟩:LvP)])[i].frames))∧∀g,(if i=P.L.pages.length then Value.slice none 0 0 else P.F i).ownBlock=some g→_
      rw[if_neg e,List.getElem_append_left hi2]
      exact this
  | order=>exact Lay.it_keep (P:=P) (r:=.order) (h .order) c3 (by simp)
  | twins=>exact Lay.it_keep (P:=P) (r:=.twins) (h .twins) c3 (by simp)
  | body k=>exact Lay.it_keep (P:=P) (r:=(.body k)) (h (.body k)) c3 (by simp)
  | temps k=>exact Lay.it_keep (P:=P) (r:=(.temps k)) (h (.temps k)) c3 (by simp)
  | stack k=>exact Lay.it_keep (P:=P) (r:=(.stack k)) (h (.stack k)) c3 (by simp)
theorem LvM.wf.addPage {L:LvM} (h:L.wf) (base:Int):LvM.wf {L with pages:=L.pages ++ [⟨base,[]⟩]}:=⟨fun i hi k hk=>by
  have hi':i<(L.pages ++ [(⟨base,[]⟩:LvP)]).length:=hi
  have hk':k<(L.pages ++ [(⟨base,[]⟩:LvP)])[i].frames.length:=hk
  by_cases e:i<L.pages.length
  · have e2:(L.pages ++ [(⟨base,[]⟩:LvP)])[i]=L.pages[i]:=List.getElem_append_left e
    show(L.pages ++ [(⟨base,[]⟩:LvP)])[i].frames[k].body<_
    simp only[e2] at hk' ⊢
    exact h.fr i e k hk'
  · have hl:(L.pages ++ [(⟨base,[]⟩:LvP)]).length=L.pages.length+1:=by simp
    obtain rfl:i=L.pages.length:=by omega
    rw[List.getElem_append_right (Nat.le_refl _)] at hk'
    simp at hk',h.tw⟩
theorem LvBody.kept {B:Nat} {w w1:World} {d:Nat} {vt vs:Value} {c:Cl} (h:LvBody B w d vt vs c) (hs:w.heap.size≤w1.heap.size) (hr:∀r,B≤r→r<w.heap.size→w1.heap[r]?=w.heap[r]?):LvBody B w1 d vt vs c:=by
  obtain⟨r,ht,hs',hd,hn1,hn2⟩:=h
  exact⟨World.rowIs.of_block r (hr d hd (World.rowIs.lt r)),ht.kept hs fun g e=>hr g (ht.lt g e).1 (ht.lt g e).2,hs'.kept hs fun g e=>hr g (hs'.lt g e).1 (hs'.lt g e).2,hd,hn1,hn2⟩
theorem LvBody.mono {B B':Nat} {w:World} {d:Nat} {vt vs:Value} {c:Cl} (h:LvBody B w d vt vs c) (hB:B'≤B):LvBody B' w d vt vs c:=by
  obtain⟨r,ht,hs',hd,hn1,hn2⟩:=h
  exact⟨r,ht.mono hB,hs'.mono hB,Nat.le_trans hB hd,hn1,hn2⟩
def bdOf (c:Cl):LvB:=⟨c.m,c.pc,c.temps,c.stack,c.dead⟩
theorem LvAt.addTwin {B:Nat} {P:Lay} {ρ:Nat→Rl} {w w':World} (h:LvAt B ρ w P) (hwf:P.L.wf) (hB:B≤w.heap.size) (hb:Below w.heap.size w w') {d:Nat} {vt vs:Value} {c:Cl} (hx:LvBody w.heap.size w' d vt vs c) (s:Int) {n:Nat} (hn:P.L.twins.length=n) :
    ∃(W:World) (ρ':Nat→Rl) (D:Nat→Nat) (T:Nat→Value × Value),(Instr.mapUpdate 157 (.map (some P.bm)) (.int .i64 (n:Int)) (.agg #[.int .i64 (-1),.int .i64 0,.pointer (some ⟨d,0,none⟩),.int .i64 s])).run Tryz.prog w'=.ok () W ∧
      LvAt B ρ' W {P with D:=D,T:=T,L:={P.L with twins:=P.L.twins ++ [⟨-1,0,P.L.bodies.length,s⟩],bodies:=P.L.bodies ++ [bdOf c]}}∧LvM.wf {P.L with twins:=P.L.twins ++ [⟨-1,0,P.L.bodies.length,s⟩],bodies:=P.L.bodies ++ [bdOf c]}∧w'.grownBy W (some P.bm):=by
  obtain⟨r,ht,hs,hd,hn1,hn2⟩:=hx
  have hbx:Bx w' d 218 (bdCells (vt,vs) (bdOf c)):=by
    obtain⟨cc,e1,e2,e3⟩:=r
    refine⟨cc,e1,e2,fun i hi=>?_⟩
    have hi':i<5:=hi
    rw[e3 i hi']
    match i,hi' with
    | 0,_=>rfl
    | 1,_=>rfl
    | 2,_=>rfl
    | 3,_=>rfl
    | 4,_=>rfl
  have h2:=h.addBody hwf hB hb (b:=bdOf c) hbx hd ht hs (fun e=>(hn1 d e).1 rfl) (fun e=>hn2 d e rfl) (fun g e=>(hn1 g e).2)
  have hm:TMap w' P.bm (P.L.twins.map (twVal (addB P d vt vs (bdOf c)).D)):=(h2 .twins).1
  have hl:(P.L.twins.map (twVal (addB P d vt vs (bdOf c)).D)).length=P.L.twins.length:=List.length_map _
  obtain⟨W,hrun,hm2,hg⟩:=TMap.push (P:=Tryz.prog) (t:=157) (kt:=3) (et:=168) (by kernel_rfl) (by kernel_rfl) hm (twVal (addB P d vt vs (bdOf c)).D ⟨-1,0,P.L.bodies.length,s⟩)
  have hrun':(Instr.mapUpdate 157 (.map (some P.bm)) (.int .i64 (n:Int)) (.agg #[.int .i64 (-1),.int .i64 0,.pointer (some ⟨d,0,none⟩),.int .i64 s])).run Tryz.prog w'=.ok () W:=by
    have hd2:(addB P d vt vs (bdOf c)).D P.L.bodies.length=d:=if_pos rfl
    have e:twVal (addB P d vt vs (bdOf c)).D ⟨-1,0,P.L.bodies.length,s⟩=.agg #[.int .i64 (-1),.int .i64 0,.pointer (some ⟨d,0,none⟩),.int .i64 s]:=by
      unfold twVal
      rw[hd2]
    rw[hl,hn,e] at hrun
    exact hrun
  refine⟨W,_,_,_,hrun',h2.setTwins (ts:=P.L.twins ++ [⟨-1,0,P.L.bodies.length,s⟩]) hg ?_,⟨fun i hi k hk=>?_,fun j hj=>?_⟩,hg⟩
  · rw[List.map_append]
    exact hm2
  · have:=hwf.fr i hi k hk
    show _<(P.L.bodies ++ [bdOf c]).length
    rw[List.length_append]
    exact Nat.lt_of_lt_of_le this (Nat.le_add_right _ _)
  · have hj':j<(P.L.twins ++ [(⟨-1,0,P.L.bodies.length,s⟩:LvT)]).length:=hj
    have hl2:(P.L.twins ++ [(⟨-1,0,P.L.bodies.length,s⟩:LvT)]).length=P.L.twins.length+1:=by simp
    show(P.L.twins ++ [(⟨-1,0,P.L.bodies.length,s⟩:LvT)])[j].body<(P.L.bodies ++ [bdOf c]).length
    rw[List.length_append,List.length_singleton]
    by_cases e:j<P.L.twins.length
    · rw[List.getElem_append_left e]
      exact Nat.lt_of_lt_of_le (hwf.tw j e) (Nat.le_add_right _ _)
    · obtain rfl:j=P.L.twins.length:=by omega
      rw[List.getElem_append_right (Nat.le_refl _)]
      simp
end Go.Proofs.YtjbgpcileapogaaGreat
