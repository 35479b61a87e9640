/-
  Calls of a machine as things of their own: thingsOf. (Written by mkmt6.py.)
-/
import Derived.Test.YtjbgpcileapogaaGreatMThing5
namespace Go.Proofs.YtjbgpcileapogaaGreat
open Go.RowKit
theorem c6_inj {a b x1 x2 s d y1 y2:Value} (h:Value.agg #[a,b,x1,x2,s,d]=.agg #[a,b,y1,y2,s,d]):(x1,x2)=(y1,y2):=by
  injection h with h
  injection h with h
  injection h with _ h
  injection h with _ h
  injection h with h1 h
  injection h with h2 h
  rw[h1,h2]
structure ThS (wS V3:World) (g3 g4 B:Nat) (L1 L3:List Value) (now:Int) (w:World) (v:Value) (cs:List Cl):Prop where
  b:Below wS.heap.size wS w
  x1:Bx w wS.heap.size 42 L1
  x2:Bx w (wS.heap.size+1) 29 [.slice none 0 0,.int .i64 0,.int .i64 0,.slice none 0 0,.int .i64 0]
  x3:Bx w g3 128 L3
  x4:Bx w g4 29 [v,.int .i64 now,.int .i64 0,.slice none 0 0,.int .i64 0]
  t:Thg B w v cs
  z:B≤w.heap.size
  b3:Below g4 V3 w
  e3:V3.heap.size=g4
  q3:wS.heap.size+1<g3
  q4:g3<g4
  qB:g4<B
theorem ThS.below {wS V3:World} {g3 g4 B:Nat} {L1 L3:List Value} {now:Int} {w w':World} {v:Value} {cs:List Cl} (h:ThS wS V3 g3 g4 B L1 L3 now w v cs) (hb:Below w.heap.size w w'):ThS wS V3 g3 g4 B L1 L3 now w' v cs :=
  ⟨h.b.trans (hb.mono h.b.size),h.x1.below hb,h.x2.below hb,h.x3.below hb,h.x4.below hb,h.t.below hb,Nat.le_trans h.z hb.size,h.b3.trans (hb.mono (by have:=h.z;have:=h.qB;omega)),h.e3,h.q3,h.q4,h.qB⟩
theorem ThS.append {ty:TypeId} {wS V3:World} {g3 g4 B:Nat} {L1 L3:List Value} {now:Int} {w w3:World} {v:Value} {cs:List Cl} (h:ThS wS V3 g3 g4 B L1 L3 now w v cs) (hw:Below w.heap.size w w3) (c:Cl) (u1 u2:Value)
    (h1:PairRow w.heap.size w3 u1 c.temps) (h2:PairRow w.heap.size w3 u2 c.stack) (H k:Nat) (hx:∀j u,([.int .i64 c.m,.int .i64 c.pc,u1,u2,.int .i64 c.sender,.bool c.dead]:List Value)[j]?=some u→w3.cell? ⟨H,j,none⟩=some u) (hL:cs.length≤900000) :
    ∃a' c' w4,(Builtin.append_ #[26,26] ty #[v,.slice (some ⟨H,0,none⟩) 1 k]).run Tryz.prog w3=.ok (.slice a' (cs.length+1) c') w4∧w4.cell? ⟨g4,0,none⟩=some v∧w4.frozen? ⟨g4,0,none⟩=false ∧
      ThS wS V3 g3 g4 B L1 L3 now (w4.setCell ⟨g4,0,none⟩ (.slice a' (cs.length+1) c')) (.slice a' (cs.length+1) c') (cs ++ [c]):=by
  have hv:=h.t.lt
  have hz:=h.z
  have hbz:=h.b.size
  have q3:=h.q3
  have q4:=h.q4
  have qB:=h.qB
  obtain⟨a',c',w4,hrun,hT,hg⟩:=thg_append (ty:=ty) (h.t.below hw) c u1 u2 (h1.mono hz) (h2.mono hz) (fun g e e2=>by have l1:=(h1.lt g e).1;have l2:=(hv g e2).2;omega) (fun g e e2=>by have l1:=(h2.lt g e).1;have l2:=(hv g e2).2;omega) H k hx hL (Nat.le_trans hz hw.size)
  have nb:∀g,g<B→v.ownBlock≠some g:=fun g hgB e=>by have:=(hv g e).1;omega
  have y4:=(h.x4.below hw).grown hg (nb g4 (by omega))
  have HW:=(Wr.refl1 g4 w4).set1 (o:=0) (.slice a' (cs.length+1) c')
  refine⟨a',c',w4,hrun,y4.cell 0 rfl,y4.frozen 0,?_,?_,?_,?_,?_,hT.wr HW (by omega),?_,?_,h.e3,q3,q4,qB⟩
  · exact HW.below1 ((h.b.trans (hw.mono hbz)).grown hg (Nat.le_trans hbz hw.size) (fun q e=>by have:=(hv q e).1;omega)) (Nat.le_refl _) (by omega)
  · exact HW.bx ((h.x1.below hw).grown hg (nb _ (by omega))) (by omega)
  · exact HW.bx ((h.x2.below hw).grown hg (nb _ (by omega))) (by omega)
  · exact HW.bx ((h.x3.below hw).grown hg (nb _ (by omega))) (by omega)
  · exact y4.set 0 _
  · rw[World.size_setCell]
    exact Nat.le_trans (Nat.le_trans hz hw.size) hg.size
  · exact HW.below1 ((h.b3.trans (hw.mono (by omega))).grown hg (by have:=hw.size;omega) (fun q e=>by have:=(hv q e).1;omega)) (by rw[h.e3];exact Nat.le_refl _) (Nat.le_refl _)
set_option maxRecDepth 100000 in
set_option maxHeartbeats 4000000 in
theorem thingsOf_any (vp vo vt vs:Value) (m:Mc) (wS:World) (h:MachAt wS vp vo vt vs m) (hT:Told m) (hn:m.pages.length≤1048576) (hN:framesN m.pages+m.twins.length≤900000) :
    Calls Tryz.prog 62 #[.agg (mcCells vp vo vt vs m).toArray] wS fun e w'=>∃vc,e=.returned (.agg #[vc,.int .i64 (plNow m),.int .i64 0,.slice none 0 0,.int .i64 0])∧CallsAt w' vc (thingsM m).calls∧Below wS.heap.size wS w':=by
  have HT:Hid (Told m):=hT
  have hM:=h
  clear hT
  have HTP:Hid (∀(W:World),Below wS.heap.size wS W→Calls Tryz.prog 83 #[.agg (mcCells vp vo vt vs m).toArray] W fun e w'=>∃vl,e=.returned (.agg (mcCells vp vo vt vs m ++ [vl,.int .i64 (framesN m.pages:Int)]).toArray)∧IntRow W.heap.size w' vl (lows m.pages)∧Below W.heap.size W w'):=fun W hW=>thingPlacesOf_any _ _ _ _ m W (hM.below hW) hn (by omega)
  have HRU:Hid (∀(W:World) (vl:Value),Pl W vp vo vt vs vl m→Calls Tryz.prog 124 #[.agg (mcCells vp vo vt vs m ++ [vl,.int .i64 (framesN m.pages:Int)]).toArray] W fun e w'=>e=.returned (.int .i64 (plNow m))∧Below W.heap.size W w'):=fun W vl hp=>ofRunning_any _ _ _ _ _ m W hp
  have HFR:Hid (∀(W:World) (vl:Value) (i k:Nat) (hi:i<m.pages.length) (hk:k<m.pages[i].frames.length),Pl W vp vo vt vs vl m→Calls Tryz.prog 125 #[.agg (mcCells vp vo vt vs m ++ [vl,.int .i64 (framesN m.pages:Int)]).toArray,.int .i64 (i:Int),.int .i64 (k:Int)] W fun e w'=>∃u1 u2,e=.returned (.agg #[.int .i64 (thingFr m i k m.pages[i].frames[k]).m,.int .i64 (thingFr m i k m.pages[i].frames[k]).pc,u1,u2,.int .i64 (thingFr m i k m.pages[i].frames[k]).sender,.bool (thingFr m i k m.pages[i].frames[k]).dead])∧PairRow W.heap.size w' u1 (thingFr m i k m.pages[i].frames[k]).temps∧PairRow W.heap.size w' u2 (thingFr m i k m.pages[i].frames[k]).stack∧Below W.heap.size W w'):=fun W vl i k hi hk hp =>
    (thingOfFrame_any _ _ _ _ _ m i k _ W hp hi hk rfl (HT.out.bs i hi) (HT.out.fr i k hi hk).1 (HT.out.fr i k hi hk).2).mono fun e w' ⟨u1,u2,e1,r1,r2,_,b⟩=>⟨u1,u2,e1,r1,r2,b⟩
  have HTW:Hid (∀(W:World) (vl w1 w2:Value) (j:Nat) (hj:j<m.twins.length),Pl W vp vo vt vs vl m→OpsAt W w1 m.twins[j].left.temps→OpsAt W w2 m.twins[j].left.stack→Calls Tryz.prog 126 #[.agg (mcCells vp vo vt vs m ++ [vl,.int .i64 (framesN m.pages:Int)]).toArray,.agg #[.int .i64 m.twins[j].page,.int .i64 m.twins[j].place,.int .i64 m.twins[j].left.m,.int .i64 m.twins[j].left.pc,w1,w2,.int .i64 m.twins[j].left.sender,.bool m.twins[j].left.dead]] W fun e w'=>∃u1 u2,e=.returned (.agg #[.int .i64 (thingTw m m.twins[j]).m,.int .i64 (thingTw m m.twins[j]).pc,u1,u2,.int .i64 (thingTw m m.twins[j]).sender,.bool (thingTw m m.twins[j]).dead])∧PairRow W.heap.size w' u1 (thingTw m m.twins[j]).temps∧PairRow W.heap.size w' u2 (thingTw m m.twins[j]).stack∧Below W.heap.size W w'):=fun W vl w1 w2 j hj hp h1 h2 =>
    (thingOfTwin_any _ _ _ _ _ m m.twins[j] w1 w2 W hp h1 h2 (HT.out.tw j hj).1 (HT.out.tw j hj).2).mono fun e w' ⟨u1,u2,e1,r1,r2,_,b⟩=>⟨u1,u2,e1,r1,r2,b⟩
  clear HT
  obtain⟨ap,cp,hvp,hlp,hcp⟩:=id hM.p
  obtain⟨ao,co,hvo⟩:=hM.o.shape
  obtain⟨at',ct,hvt,hlt',hct⟩:=id hM.t
  obtain⟨as',cs,hvs⟩:=hM.s.shape
  subst hvp hvo hvt hvs
  unfold mcCells at HTP HRU HFR HTW
  simp only[List.cons_append,List.nil_append] at HTP HRU HFR HTW
  unfold mcCells
  go_enter Tryz.func62,Tryz.ntmps62
  go_upto_region 1 with fail
  refine wp_gen (fun W=>Below wS.heap.size wS W∧Bx W wS.heap.size 42 [.int .i64 m.cells,.slice ap m.pages.length cp,.slice ao m.order.length co,.int .i64 m.now,.slice at' m.twins.length ct,.int .i64 m.born,.slice as' m.said.length cs,.int .i64 m.code]∧Bx W (wS.heap.size+1) 29 [.slice none 0 0,.int .i64 0,.int .i64 0,.slice none 0 0,.int .i64 0]) ⟨((Below.refl _ _).alloc (Nat.le_refl _) _).alloc (by simp) _,(Bx.new wS _ _).alloc _,Bx.newAt _ _ _ (by simp)⟩ ?_
  rintro W1 ⟨B1,x1',y1'⟩
  obtain⟨⟨x0,x1,x2,x3,x4,x5,x6,x7⟩,_⟩:=bx8 x1'
  have z1:=B1.size
  go_wp2_with fail
  refine(HTP.out W1 B1).mono ?_
  rintro e V1 ⟨vl,rfl,rl,t1⟩
  obtain⟨al,cl,hvl,_⟩:=rl.slice
  subst hvl
  have BV1:=B1.trans (t1.mono z1)
  have xV1:=x1'.below t1
  have yV1:=y1'.below t1
  have hy1:wS.heap.size+1<V1.heap.size:=yV1.lt
  have hP:Pl V1 (.slice ap m.pages.length cp) (.slice ao m.order.length co) (.slice at' m.twins.length ct) (.slice as' m.said.length cs) (.slice al (lows m.pages).length cl) m:=⟨hM.below BV1,rl.at,by omega,by omega⟩
  clear t1 x1' y1' B1 z1 x0 x1 x2 x3 x4 x5 x6 x7 rl HTP
  go_upto_region 2 with fail
  obtain⟨g3,hg3⟩:∃g,V1.heap.size=g:=⟨_,rfl⟩
  rw[hg3]
  refine wp_gen (fun W=>Below V1.heap.size V1 W∧Bx W g3 128 [.int .i64 m.cells,.slice ap m.pages.length cp,.slice ao m.order.length co,.int .i64 m.now,.slice at' m.twins.length ct,.int .i64 m.born,.slice as' m.said.length cs,.int .i64 m.code,.slice al (lows m.pages).length cl,.int .i64 (framesN m.pages:Int)]) ⟨(Below.refl _ _).alloc (Nat.le_refl _) _,Bx.newAt _ _ _ hg3⟩ ?_
  rintro W2 ⟨t2,z3⟩
  have B2:=BV1.trans (t2.mono BV1.size)
  have xV2:=xV1.below t2
  have yV2:=yV1.below t2
  have hP2:=hP.below t2
  have zB2:=B2.size
  clear t2 xV1 yV1 BV1 hP
  obtain⟨⟨x0,x1,x2,x3,x4,x5,x6,x7,x8,x9⟩,_⟩:=bx10 z3
  have hg3l:g3<W2.heap.size:=z3.lt
  go_wp2_with fail
  refine(HRU.out W2 _ hP2).mono ?_
  rintro e V3 ⟨rfl,t3⟩
  have B3:=B2.trans (t3.mono zB2)
  have xV3:=xV2.below t3
  have yV3:=yV2.below t3
  have zV3:=z3.below t3
  have hP3:=hP2.below t3
  have hs3:=t3.size
  clear t3 B2 xV2 yV2 z3 hP2 x0 x1 x2 x3 x4 x5 x6 x7 x8 x9 HRU
  go_upto_region 3 with fail
  obtain⟨g4,hg4⟩:∃g,V3.heap.size=g:=⟨_,rfl⟩
  rw[hg4]
  obtain⟨now,hnow⟩:∃now,plNow m=now:=⟨_,rfl⟩
  rw[hnow]
  obtain⟨B,hBe⟩:∃B,g4+1=B:=⟨_,rfl⟩
  refine wp_gen (fun W=>Below V3.heap.size V3 W∧ThS wS V3 g3 g4 B [.int .i64 m.cells,.slice ap m.pages.length cp,.slice ao m.order.length co,.int .i64 m.now,.slice at' m.twins.length ct,.int .i64 m.born,.slice as' m.said.length cs,.int .i64 m.code] [.int .i64 m.cells,.slice ap m.pages.length cp,.slice ao m.order.length co,.int .i64 m.now,.slice at' m.twins.length ct,.int .i64 m.born,.slice as' m.said.length cs,.int .i64 m.code,.slice al (lows m.pages).length cl,.int .i64 (framesN m.pages:Int)] now W (.slice none 0 0) (frThings m 0)) ⟨(Below.refl _ _).alloc (Nat.le_refl _) _,B3.alloc B3.size _,xV3.alloc _,yV3.alloc _,zV3.alloc _,Bx.newAt _ _ _ hg4,Thg.nil _ _,by simp;omega,hg4 ▸ (Below.refl _ _).alloc (Nat.le_refl _) _,hg4,by omega,by omega,by omega⟩ ?_
  rintro W4 ⟨t4,hth⟩
  clear t4 B3 xV3 yV3 zV3 hs3 hBe hg4 hg3
  obtain⟨⟨x0,x1,x2,x3,x4,x5,x6,x7⟩,_⟩:=bx8 hth.x1
  go_wp2
  go_loopg [5,6,17,18,19,20,21,22,23,24,25,26,27,28,29,30,31,32,33,34,35,36,37,38,39,40] m.pages.length (fun g _ _ i _ _ _ _ _ _ _ _ _ _ _ _ _ _ _ _ _ _ _ _ _ _ _ wr=>∃(k:Nat) (v:Value),k≤m.pages.length∧g=m.pages.length - k∧i=.int .i64 k∧ThS wS V3 g3 g4 B [.int .i64 m.cells,.slice ap m.pages.length cp,.slice ao m.order.length co,.int .i64 m.now,.slice at' m.twins.length ct,.int .i64 m.born,.slice as' m.said.length cs,.int .i64 m.code] [.int .i64 m.cells,.slice ap m.pages.length cp,.slice ao m.order.length co,.int .i64 m.now,.slice at' m.twins.length ct,.int .i64 m.born,.slice as' m.said.length cs,.int .i64 m.code,.slice al (lows m.pages).length cl,.int .i64 (framesN m.pages:Int)] now wr v (frThings m k))
  case atStart=>exact⟨0,_,Nat.zero_le _,rfl,rfl,hth⟩
  case round =>
    obtain⟨k,v,hk,rfl,rfl,hth⟩:=hrel
    by_cases hlt:k<m.pages.length
    · obtain⟨a5,k5,hv5⟩:=hth.t.slice
      subst hv5
      have hkz:(k:Int)<(m.pages.length:Int):=by omega
      obtain⟨bp,op,vf,hap,hpg⟩:=hcp k hlt
      subst hap
      obtain⟨af,cf,hvf⟩:=hpg.f.shape
      have c1:=cell_below hth.b hpg.c1
      rw[hvf] at c1
      have HFA:Hid ((frThings m k).length=framesTo m.pages k):=frThings_length hk
      have hsu:=framesTo_succ hlt
      have hsl:=framesTo_leN m.pages (k:=k+1) hlt
      have HPA:Hid (frThings m (k+1)=frThings m k ++ pgThings m k m.pages[k].frames.length):=by show _=_;rw[frThings_succ,pgAt_at hlt]
      obtain⟨nf,hnf⟩:∃nf,m.pages[k].frames.length=nf:=⟨_,rfl⟩
      rw[hnf] at c1 hsu HPA
      have HNF:Hid (m.pages[k].frames.length=nf):=hnf
      clear hnf hvf hpg hcp hct
      have hnb:nf≤900000:=by omega
      obtain⟨⟨x0,x1,x2,x3,x4,x5,x6,x7⟩,_⟩:=bx8 hth.x1
      go_wp2
      clear x0 x1 x2 x3 x4 x5 x6 x7 c1
      go_loopg [6,27,28,29,30,31,32,33,34,35,36,37,38,39] nf (fun g _ i _ _ _ _ _ _ _ _ _ _ _ _ wr=>∃(q:Nat) (v:Value),q≤nf∧g=nf - q∧i=.int .i64 q∧ThS wS V3 g3 g4 B [.int .i64 m.cells,.slice (some ⟨bp,op,none⟩) m.pages.length cp,.slice ao m.order.length co,.int .i64 m.now,.slice at' m.twins.length ct,.int .i64 m.born,.slice as' m.said.length cs,.int .i64 m.code] [.int .i64 m.cells,.slice (some ⟨bp,op,none⟩) m.pages.length cp,.slice ao m.order.length co,.int .i64 m.now,.slice at' m.twins.length ct,.int .i64 m.born,.slice as' m.said.length cs,.int .i64 m.code,.slice al (lows m.pages).length cl,.int .i64 (framesN m.pages:Int)] now wr v (frThings m k ++ pgThings m k q))
      case atStart=>exact⟨0,_,Nat.zero_le _,rfl,rfl,by simpa [pgThings] using hth⟩
      case round =>
        clear hth
        obtain⟨q,v,hq,rfl,rfl,hth⟩:=hrel
        by_cases hqt:q<nf
        · have hqz:(q:Int)<(nf:Int):=by omega
          have hql:q<m.pages[k].frames.length:=by rw[HNF.out];exact hqt
          have HCS:Hid (frThings m k ++ pgThings m k (q+1)=(frThings m k ++ pgThings m k q) ++ [thingFr m k q m.pages[k].frames[q]]):=by show _=_;rw[pgThings_succ,frAt_at hlt hql,List.append_assoc]
          have HLN:Hid ((frThings m k ++ pgThings m k q).length≤900000):=by show _≤_;rw[List.length_append,HFA.out,pgThings_length];omega
          obtain⟨cc,hcc⟩:∃cc,frThings m k ++ pgThings m k q=cc:=⟨_,rfl⟩
          rw[hcc] at hth HCS HLN
          have HC0:=fun(W:World) (hW:Below wr.heap.size wr W)=>HFR.out W _ k q hlt hql ((hP3.below (hth.e3.symm ▸ hth.b3)).below hW)
          obtain⟨c,hc⟩:∃c,thingFr m k q m.pages[k].frames[q]=c:=⟨_,rfl⟩
          rw[hc] at HC0 HCS
          have HC:Hid (∀(W:World),Below wr.heap.size wr W→_):=HC0
          clear HC0 hc hcc
          obtain⟨a2,k2,hv2⟩:=hth.t.slice
          subst hv2
          have h0:=hth.x4.cell 0 rfl
          obtain⟨⟨x0,x1,x2,x3,x4,x5,x6,x7,x8,x9⟩,_⟩:=bx10 hth.x3
          go_upto_region 9 with fail
          refine wp_region_ft [[],[0],[],[],[],[2,3,4],[2,3,4,5],[0,1,2,3,4,5,6],[0,1,2,3,4,5,6,7],[0,1,2,3,4,5,6,7,8]] [[0],[1],[2],[3],[4],[5],[5,6],[],[],[]] [[],[],[],[],[],[],[],[],[],[]] [fIs (.pointer (some ⟨g4,0,none⟩)),fIs (.slice a2 cc.length k2),fIs (.agg #[.int .i64 m.cells,.slice (some ⟨bp,op,none⟩) m.pages.length cp,.slice ao m.order.length co,.int .i64 m.now,.slice at' m.twins.length ct,.int .i64 m.born,.slice as' m.said.length cs,.int .i64 m.code,.slice al (lows m.pages).length cl,.int .i64 (framesN m.pages:Int)]),fIs (.int .i64 (k:Int)),fIs (.int .i64 (q:Int)),fGh 5 (fun(x:Value × Value) l=>l=[.agg #[.int .i64 c.m,.int .i64 c.pc,x.1,x.2,.int .i64 c.sender,.bool c.dead]]) (fun x w1=>(∃a0 c0 a1 c1,x.1=.slice a0 c.temps.length c0∧x.2=.slice a1 c.stack.length c1)∧PairRow wr.heap.size w1 x.1 c.temps∧PairRow wr.heap.size w1 x.2 c.stack),fGh 6 (fun(x:(Value × Value) × Nat) l=>l=[.agg #[.int .i64 c.m,.int .i64 c.pc,x.1.1,x.1.2,.int .i64 c.sender,.bool c.dead],.slice (some ⟨x.2,0,none⟩) 1 1]) (fun x w1=>∀j u,([.int .i64 c.m,.int .i64 c.pc,x.1.1,x.1.2,.int .i64 c.sender,.bool c.dead]:List Value)[j]?=some u→w1.cell? ⟨x.2,j,none⟩=some u),fOf fun _=>True,fOf fun _=>True,fOf fun _=>True] 7 2 rfl (by kernel_rfl) (by kernel_rfl) (by kernel_rfl) (by kernel_rfl) ?_ ?_
          · refine all_lt_succ (all_lt_succ (all_lt_succ (all_lt_succ (all_lt_succ (all_lt_succ (all_lt_succ (all_lt_zero) ?_) ?_) ?_) ?_) ?_) ?_) ?_
            · intro a w val own hB hf hown hk
              have s4:=hf.at (d:=4) (v:=.pointer (some ⟨g4,0,none⟩)) (by kernel_rfl) rfl
              exact rf_pure (v:=.pointer (some ⟨g4,0,none⟩)) hB rfl rfl (by unfold execOp;go_simp) rfl
            · intro a w val own hB hf hown hk
              obtain⟨k0,f0⟩:=hk 0 (show 0∈[0] by decide)
              have s30:=k0 30 rfl
              rw[fIs_out f0] at s30
              clear k0 f0
              have ch:=cell_below hB h0
              exact rf_pure (v:=.slice a2 cc.length k2) hB rfl rfl (by unfold execOp;go_simp) rfl
            · intro a w val own hB hf hown hk
              have s3:=hf.at (d:=3) (v:=.pointer (some ⟨g3,0,none⟩)) (by kernel_rfl) rfl
              have cx0:=cell_below hB x0
              have cx1:=cell_below hB x1
              have cx2:=cell_below hB x2
              have cx3:=cell_below hB x3
              have cx4:=cell_below hB x4
              have cx5:=cell_below hB x5
              have cx6:=cell_below hB x6
              have cx7:=cell_below hB x7
              have cx8:=cell_below hB x8
              have cx9:=cell_below hB x9
              exact rf_pure (v:=.agg #[.int .i64 m.cells,.slice (some ⟨bp,op,none⟩) m.pages.length cp,.slice ao m.order.length co,.int .i64 m.now,.slice at' m.twins.length ct,.int .i64 m.born,.slice as' m.said.length cs,.int .i64 m.code,.slice al (lows m.pages).length cl,.int .i64 (framesN m.pages:Int)]) hB rfl rfl (by unfold execOp;go_simp) rfl
            · intro a w val own hB hf hown hk
              have s5:=hf.at (d:=5) (v:=.int .i64 (k:Int)) (by kernel_rfl) rfl
              exact rf_pure (v:=.int .i64 (k:Int)) hB rfl rfl (by unfold execOp;go_simp) rfl
            · intro a w val own hB hf hown hk
              have s6:=hf.at (d:=6) (v:=.int .i64 (q:Int)) (by kernel_rfl) rfl
              exact rf_pure (v:=.int .i64 (q:Int)) hB rfl rfl (by unfold execOp;go_simp) rfl
            · intro a w val own hB hf hown hk
              obtain⟨k2,f2⟩:=hk 2 (show 2∈[2,3,4] by decide)
              have s32:=k2 32 rfl
              rw[fIs_out f2] at s32
              clear k2 f2
              obtain⟨k3,f3⟩:=hk 3 (show 3∈[2,3,4] by decide)
              have s33:=k3 33 rfl
              rw[fIs_out f3] at s33
              clear k3 f3
              obtain⟨k4,f4⟩:=hk 4 (show 4∈[2,3,4] by decide)
              have s34:=k4 34 rfl
              rw[fIs_out f4] at s34
              clear k4 f4
              have hzB:=hB.size
              refine rf_call hB rfl rfl (by unfold execOp;go_simp) ((HC.out w hB).mono ?_)
              rintro e w' ⟨v1,v2,rfl,r1,r2,hb'⟩
              refine⟨_,rfl,hb',(v1,v2),rfl,Made.new fun w1 hs _ hr=>⟨?_,?_,?_⟩⟩
              · obtain⟨a0,c0,e0,_⟩:=r1.slice
                obtain⟨a1,c1,e1,_⟩:=r2.slice
                exact⟨a0,c0,a1,c1,e0,e1⟩
              · exact(r1.kept hs fun g e=>hr g (r1.lt g e).1 (r1.lt g e).2).mono hzB
              · exact(r2.kept hs fun g e=>hr g (r2.lt g e).1 (r2.lt g e).2).mono hzB
            · intro a w val own hB hf hown hk
              obtain⟨kc,xc,ec,mc⟩:=hk 5 (show 5∈[2,3,4,5] by decide)
              have vc:=one_eq ec
              have s35:=kc 35 rfl
              rw[vc] at s35
              obtain⟨⟨a0,c0,a1,c1,q1,q2⟩,rc1,rc2⟩:=mc.here hB
              clear kc ec
              obtain⟨xa,xb⟩:=xc
              dsimp only at q1 q2
              subst q1 q2
              refine rf_new (v:=.slice (some ⟨w.heap.size,0,none⟩) 1 1) (w':=w.alloc (.cells #[.int .i64 c.m,.int .i64 c.pc,.slice a0 c.temps.length c0,.slice a1 c.stack.length c1,.int .i64 c.sender,.bool c.dead] 37)) hB rfl rfl (by unfold execOp;go_simp) ((Below.refl _ _).alloc (Nat.le_refl _) _) ⟨((.slice a0 c.temps.length c0,.slice a1 c.stack.length c1),w.heap.size),?_,Made.new fun w1 _ _ hr=>?_⟩
              · show [val 5,_]=_
                rw[vc]
                rfl
              · exact fun j u hu=>((Bx.new w 37 [.int .i64 c.m,.int .i64 c.pc,.slice a0 c.temps.length c0,.slice a1 c.stack.length c1,.int .i64 c.sender,.bool c.dead]).kept (hr _ (Nat.le_refl _) (by simp))).cell j hu
          intro aE w10 val own hB hf hown hk
          obtain⟨kc,xc,ec,mc⟩:=hk 5 (by decide)
          have vc:=one_eq ec
          have s35:=kc 35 rfl
          rw[vc] at s35
          obtain⟨⟨a0,c0,a1,c1,q1,q2⟩,rc1,rc2⟩:=mc.here hB
          clear kc ec
          obtain⟨kb,xb,eb,mb⟩:=hk 6 (by decide)
          have eb':[val 5,val 6]=_:=eb
          injection eb' with eba ebb
          have vb:=one_eq ebb
          have s36:=kb 36 rfl
          rw[vb] at s36
          obtain⟨⟨ya,yb⟩,H⟩:=xb
          have hxx:xc=(ya,yb):=by rw[vc] at eba;exact c6_inj eba
          subst hxx
          have mh:=mb.here hB
          dsimp only at mh q1 q2 rc1 rc2
          obtain⟨kl,fl⟩:=hk 1 (by decide)
          have s31:=kl 31 rfl
          rw[fIs_out fl] at s31
          obtain⟨a',c',w4,hrun,g4c,g4f,hS⟩:=ThS.append (ty:=26) hth hB c _ _ rc1 rc2 H 1 mh HLN.out
          clear kl fl kb eb ebb vb vc eba mb mc mh q1 q2 rc1 rc2
          have hu:=frame_sets hf [30,31,32,33,34,35,36,37,38] (by kernel_rfl)
          dsimp only at hu
          simp only[List.foldl_cons,List.foldl_nil,List.setIfInBounds_toArray,List.set_cons_succ,List.set_cons_zero] at hu
          rw[s31,s36] at hu
          generalize aE.tmps[30]?.getD undef=u30 at hu
          generalize aE.tmps[32]?.getD undef=u32 at hu
          generalize aE.tmps[33]?.getD undef=u33 at hu
          generalize aE.tmps[34]?.getD undef=u34 at hu
          generalize aE.tmps[35]?.getD undef=u35 at hu
          generalize aE.tmps[37]?.getD undef=u37 at hu
          generalize aE.tmps[38]?.getD undef=u38 at hu
          obtain rfl:=act_eq hu (show aE.defers=[] from hf.defers)
          clear hu hk hown hf s31 s36 s35
          refine wpOp_val (v:=.slice a' (cc.length+1) c') (w':=w4) rfl rfl (append_runN rfl (by go_simp) (by go_simp) hrun) ?_
          simp only[Act.put]
          refine wpOp_val (v:=.pointer (some ⟨g4,0,none⟩)) (w':=w4) rfl rfl (by unfold execOp;go_simp) ?_
          simp only[Act.put]
          refine wpOp_skip (w':=w4.setCell ⟨g4,0,none⟩ (.slice a' (cc.length+1) c')) rfl rfl (by unfold execOp;go_simp) ?_
          simp only[Act.put]
          clear hrun g4c g4f
          refine ex_gen (fun W=>ThS wS V3 g3 g4 B [.int .i64 m.cells,.slice (some ⟨bp,op,none⟩) m.pages.length cp,.slice ao m.order.length co,.int .i64 m.now,.slice at' m.twins.length ct,.int .i64 m.born,.slice as' m.said.length cs,.int .i64 m.code] [.int .i64 m.cells,.slice (some ⟨bp,op,none⟩) m.pages.length cp,.slice ao m.order.length co,.int .i64 m.now,.slice at' m.twins.length ct,.int .i64 m.born,.slice as' m.said.length cs,.int .i64 m.code,.slice al (lows m.pages).length cl,.int .i64 (framesN m.pages:Int)] now W (.slice a' (cc.length+1) c') (cc ++ [c])) hS ?_
          rintro W5 h5
          clear hS hB
          go_wp2
          go_roundg (nf - (q+1))
          case measure=>omega
          case rel=>exact⟨q+1,_,by omega,rfl,by go_num,by rw[HCS.out];exact h5⟩
        · obtain rfl:q=nf:=by omega
          have hqz:¬((q:Int)<(q:Int)):=by omega
          go_wp2
          go_roundg (m.pages.length - (k+1))
          case measure=>omega
          case rel=>exact⟨k+1,_,by omega,rfl,by go_num,by rw[HPA.out];exact hth⟩
    · obtain rfl:k=m.pages.length:=by omega
      have hkz:¬((m.pages.length:Int)<(m.pages.length:Int)):=by omega
      have HFA:Hid ((frThings m m.pages.length).length=framesN m.pages):=frThings_length hk
      obtain⟨⟨x0,x1,x2,x3,x4,x5,x6,x7⟩,_⟩:=bx8 hth.x1
      clear hcp HFR
      go_wp2
      clear x0 x1 x2 x3 x4 x5 x6 x7
      go_loopg [8,44,45,46,47,48,49,50,51,52,53,54,55,56] m.twins.length (fun g _ i _ _ _ _ _ _ _ _ _ _ _ _ wr=>∃(q:Nat) (v:Value),q≤m.twins.length∧g=m.twins.length - q∧i=.int .i64 q∧ThS wS V3 g3 g4 B [.int .i64 m.cells,.slice ap m.pages.length cp,.slice ao m.order.length co,.int .i64 m.now,.slice at' m.twins.length ct,.int .i64 m.born,.slice as' m.said.length cs,.int .i64 m.code] [.int .i64 m.cells,.slice ap m.pages.length cp,.slice ao m.order.length co,.int .i64 m.now,.slice at' m.twins.length ct,.int .i64 m.born,.slice as' m.said.length cs,.int .i64 m.code,.slice al (lows m.pages).length cl,.int .i64 (framesN m.pages:Int)] now wr v (frThings m m.pages.length ++ twThings m q))
      case atStart=>exact⟨0,_,Nat.zero_le _,rfl,rfl,by simpa [twThings] using hth⟩
      case round =>
        clear hth
        obtain⟨q,v,hq,rfl,rfl,hth⟩:=hrel
        by_cases hqt:q<m.twins.length
        · have hqz:(q:Int)<(m.twins.length:Int):=by omega
          have HCS:Hid (frThings m m.pages.length ++ twThings m (q+1)=(frThings m m.pages.length ++ twThings m q) ++ [thingTw m m.twins[q]]):=by show _=_;rw[twThings_succ,twAt_at hqt,List.append_assoc]
          have HLN:Hid ((frThings m m.pages.length ++ twThings m q).length≤900000):=by show _≤_;rw[List.length_append,HFA.out,twThings_length];omega
          obtain⟨cc,hcc⟩:∃cc,frThings m m.pages.length ++ twThings m q=cc:=⟨_,rfl⟩
          rw[hcc] at hth HCS HLN
          obtain⟨bt,ot,vt',vs',hat,htw⟩:=hct q hqt
          subst hat
          have htr:=htw.below hth.b
          have HC0:=fun(W:World) (hp:Pl W _ _ _ _ _ m)=>HTW.out W (.slice al (lows m.pages).length cl) vt' vs' q hqt hp
          obtain⟨T,hTe⟩:∃T,m.twins[q]=T:=⟨_,rfl⟩
          rw[hTe] at htr HC0 HCS
          obtain⟨c,hc⟩:∃c,thingTw m T=c:=⟨_,rfl⟩
          rw[hc] at HC0 HCS
          obtain⟨d0,d1,d2,d3,d4,d5,d6,d7,dt,ds⟩:=htr
          obtain⟨b1,k3,e1⟩:=dt.shape
          obtain⟨b2,k4,e2⟩:=ds.shape
          subst e1 e2
          clear hc hcc hTe htw HTW hct
          go_upto_region 15 with fail
          refine wp_gen (fun W=>Below wr.heap.size wr W∧Bx W wr.heap.size 90 [.int .i64 T.page,.int .i64 T.place,.int .i64 T.left.m,.int .i64 T.left.pc,.slice b1 T.left.temps.length k3,.slice b2 T.left.stack.length k4,.int .i64 T.left.sender,.bool T.left.dead]) ⟨(Below.refl _ _).alloc (Nat.le_refl _) _,Bx.new _ _ _⟩ ?_
          rintro W7 ⟨t7,y7'⟩
          replace hth:=hth.below t7
          replace dt:=dt.below t7
          replace ds:=ds.below t7
          clear t7 d0 d1 d2 d3 d4 d5 d6 d7
          have HC:Hid (∀(W:World),Below W7.heap.size W7 W→_):=fun W hW=>HC0 W ((hP3.below (hth.e3.symm ▸ hth.b3)).below hW) (dt.below hW) (ds.below hW)
          clear HC0 dt ds
          obtain⟨a2,k2,hv2⟩:=hth.t.slice
          subst hv2
          have h0:=hth.x4.cell 0 rfl
          obtain⟨⟨x0,x1,x2,x3,x4,x5,x6,x7,x8,x9⟩,_⟩:=bx10 hth.x3
          obtain⟨⟨y0,y1,y2,y3,y4,y5,y6,y7⟩,_⟩:=bx8 y7'
          refine wp_region_ft [[],[0],[],[],[2,3],[2,3,4],[0,1,2,3,4,5],[0,1,2,3,4,5,6],[0,1,2,3,4,5,6,7]] [[0],[1],[2],[3],[4],[4,5],[],[],[]] [[],[],[],[],[],[],[],[],[]] [fIs (.pointer (some ⟨g4,0,none⟩)),fIs (.slice a2 cc.length k2),fIs (.agg #[.int .i64 m.cells,.slice ap m.pages.length cp,.slice ao m.order.length co,.int .i64 m.now,.slice (some ⟨bt,ot,none⟩) m.twins.length ct,.int .i64 m.born,.slice as' m.said.length cs,.int .i64 m.code,.slice al (lows m.pages).length cl,.int .i64 (framesN m.pages:Int)]),fIs (.agg #[.int .i64 T.page,.int .i64 T.place,.int .i64 T.left.m,.int .i64 T.left.pc,.slice b1 T.left.temps.length k3,.slice b2 T.left.stack.length k4,.int .i64 T.left.sender,.bool T.left.dead]),fGh 4 (fun(x:Value × Value) l=>l=[.agg #[.int .i64 c.m,.int .i64 c.pc,x.1,x.2,.int .i64 c.sender,.bool c.dead]]) (fun x w1=>(∃a0 c0 a1 c1,x.1=.slice a0 c.temps.length c0∧x.2=.slice a1 c.stack.length c1)∧PairRow W7.heap.size w1 x.1 c.temps∧PairRow W7.heap.size w1 x.2 c.stack),fGh 5 (fun(x:(Value × Value) × Nat) l=>l=[.agg #[.int .i64 c.m,.int .i64 c.pc,x.1.1,x.1.2,.int .i64 c.sender,.bool c.dead],.slice (some ⟨x.2,0,none⟩) 1 1]) (fun x w1=>∀j u,([.int .i64 c.m,.int .i64 c.pc,x.1.1,x.1.2,.int .i64 c.sender,.bool c.dead]:List Value)[j]?=some u→w1.cell? ⟨x.2,j,none⟩=some u),fOf fun _=>True,fOf fun _=>True,fOf fun _=>True] 6 2 rfl (by kernel_rfl) (by kernel_rfl) (by kernel_rfl) (by kernel_rfl) ?_ ?_
          · refine all_lt_succ (all_lt_succ (all_lt_succ (all_lt_succ (all_lt_succ (all_lt_succ (all_lt_zero) ?_) ?_) ?_) ?_) ?_) ?_
            · intro a w val own hB hf hown hk
              have s4:=hf.at (d:=4) (v:=.pointer (some ⟨g4,0,none⟩)) (by kernel_rfl) rfl
              exact rf_pure (v:=.pointer (some ⟨g4,0,none⟩)) hB rfl rfl (by unfold execOp;go_simp) rfl
            · intro a w val own hB hf hown hk
              obtain⟨k0,f0⟩:=hk 0 (show 0∈[0] by decide)
              have s48:=k0 48 rfl
              rw[fIs_out f0] at s48
              clear k0 f0
              have ch:=cell_below hB h0
              exact rf_pure (v:=.slice a2 cc.length k2) hB rfl rfl (by unfold execOp;go_simp) rfl
            · intro a w val own hB hf hown hk
              have s3:=hf.at (d:=3) (v:=.pointer (some ⟨g3,0,none⟩)) (by kernel_rfl) rfl
              have cx0:=cell_below hB x0
              have cx1:=cell_below hB x1
              have cx2:=cell_below hB x2
              have cx3:=cell_below hB x3
              have cx4:=cell_below hB x4
              have cx5:=cell_below hB x5
              have cx6:=cell_below hB x6
              have cx7:=cell_below hB x7
              have cx8:=cell_below hB x8
              have cx9:=cell_below hB x9
              exact rf_pure (v:=.agg #[.int .i64 m.cells,.slice ap m.pages.length cp,.slice ao m.order.length co,.int .i64 m.now,.slice (some ⟨bt,ot,none⟩) m.twins.length ct,.int .i64 m.born,.slice as' m.said.length cs,.int .i64 m.code,.slice al (lows m.pages).length cl,.int .i64 (framesN m.pages:Int)]) hB rfl rfl (by unfold execOp;go_simp) rfl
            · intro a w val own hB hf hown hk
              have s8:=hf.at (d:=8) (v:=.pointer (some ⟨wr.heap.size,0,none⟩)) (by kernel_rfl) rfl
              have cy0:=cell_below hB y0
              have cy1:=cell_below hB y1
              have cy2:=cell_below hB y2
              have cy3:=cell_below hB y3
              have cy4:=cell_below hB y4
              have cy5:=cell_below hB y5
              have cy6:=cell_below hB y6
              have cy7:=cell_below hB y7
              exact rf_pure (v:=.agg #[.int .i64 T.page,.int .i64 T.place,.int .i64 T.left.m,.int .i64 T.left.pc,.slice b1 T.left.temps.length k3,.slice b2 T.left.stack.length k4,.int .i64 T.left.sender,.bool T.left.dead]) hB rfl rfl (by unfold execOp;go_simp) rfl
            · intro a w val own hB hf hown hk
              obtain⟨k2,f2⟩:=hk 2 (show 2∈[2,3] by decide)
              have s50:=k2 50 rfl
              rw[fIs_out f2] at s50
              clear k2 f2
              obtain⟨k3,f3⟩:=hk 3 (show 3∈[2,3] by decide)
              have s51:=k3 51 rfl
              rw[fIs_out f3] at s51
              clear k3 f3
              have hzB:=hB.size
              refine rf_call hB rfl rfl (by unfold execOp;go_simp) ((HC.out w hB).mono ?_)
              rintro e w' ⟨v1,v2,rfl,r1,r2,hb'⟩
              refine⟨_,rfl,hb',(v1,v2),rfl,Made.new fun w1 hs _ hr=>⟨?_,?_,?_⟩⟩
              · obtain⟨a0,c0,e0,_⟩:=r1.slice
                obtain⟨a1,c1,e1,_⟩:=r2.slice
                exact⟨a0,c0,a1,c1,e0,e1⟩
              · exact(r1.kept hs fun g e=>hr g (r1.lt g e).1 (r1.lt g e).2).mono hzB
              · exact(r2.kept hs fun g e=>hr g (r2.lt g e).1 (r2.lt g e).2).mono hzB
            · intro a w val own hB hf hown hk
              obtain⟨kc,xc,ec,mc⟩:=hk 4 (show 4∈[2,3,4] by decide)
              have vc:=one_eq ec
              have s52:=kc 52 rfl
              rw[vc] at s52
              obtain⟨⟨a0,c0,a1,c1,q1,q2⟩,rc1,rc2⟩:=mc.here hB
              clear kc ec
              obtain⟨xa,xb⟩:=xc
              dsimp only at q1 q2
              subst q1 q2
              refine rf_new (v:=.slice (some ⟨w.heap.size,0,none⟩) 1 1) (w':=w.alloc (.cells #[.int .i64 c.m,.int .i64 c.pc,.slice a0 c.temps.length c0,.slice a1 c.stack.length c1,.int .i64 c.sender,.bool c.dead] 37)) hB rfl rfl (by unfold execOp;go_simp) ((Below.refl _ _).alloc (Nat.le_refl _) _) ⟨((.slice a0 c.temps.length c0,.slice a1 c.stack.length c1),w.heap.size),?_,Made.new fun w1 _ _ hr=>?_⟩
              · show [val 4,_]=_
                rw[vc]
                rfl
              · exact fun j u hu=>((Bx.new w 37 [.int .i64 c.m,.int .i64 c.pc,.slice a0 c.temps.length c0,.slice a1 c.stack.length c1,.int .i64 c.sender,.bool c.dead]).kept (hr _ (Nat.le_refl _) (by simp))).cell j hu
          intro aE w10 val own hB hf hown hk
          obtain⟨kc,xc,ec,mc⟩:=hk 4 (by decide)
          have vc:=one_eq ec
          have s52:=kc 52 rfl
          rw[vc] at s52
          obtain⟨⟨a0,c0,a1,c1,q1,q2⟩,rc1,rc2⟩:=mc.here hB
          clear kc ec
          obtain⟨kb,xb,eb,mb⟩:=hk 5 (by decide)
          have eb':[val 4,val 5]=_:=eb
          injection eb' with eba ebb
          have vb:=one_eq ebb
          have s53:=kb 53 rfl
          rw[vb] at s53
          obtain⟨⟨ya,yb⟩,H⟩:=xb
          have hxx:xc=(ya,yb):=by rw[vc] at eba;exact c6_inj eba
          subst hxx
          have mh:=mb.here hB
          dsimp only at mh q1 q2 rc1 rc2
          obtain⟨kl,fl⟩:=hk 1 (by decide)
          have s49:=kl 49 rfl
          rw[fIs_out fl] at s49
          obtain⟨a',c',w4,hrun,g4c,g4f,hS⟩:=ThS.append (ty:=26) hth hB c _ _ rc1 rc2 H 1 mh HLN.out
          clear kl fl kb eb ebb vb vc eba mb mc mh q1 q2 rc1 rc2
          have hu:=frame_sets hf [48,49,50,51,52,53,54,55] (by kernel_rfl)
          dsimp only at hu
          simp only[List.foldl_cons,List.foldl_nil,List.setIfInBounds_toArray,List.set_cons_succ,List.set_cons_zero] at hu
          rw[s49,s53] at hu
          generalize aE.tmps[48]?.getD undef=u48 at hu
          generalize aE.tmps[50]?.getD undef=u50 at hu
          generalize aE.tmps[51]?.getD undef=u51 at hu
          generalize aE.tmps[52]?.getD undef=u52 at hu
          generalize aE.tmps[54]?.getD undef=u54 at hu
          generalize aE.tmps[55]?.getD undef=u55 at hu
          obtain rfl:=act_eq hu (show aE.defers=[] from hf.defers)
          clear hu hk hown hf s49 s53 s52
          refine wpOp_val (v:=.slice a' (cc.length+1) c') (w':=w4) rfl rfl (append_runN rfl (by go_simp) (by go_simp) hrun) ?_
          simp only[Act.put]
          refine wpOp_val (v:=.pointer (some ⟨g4,0,none⟩)) (w':=w4) rfl rfl (by unfold execOp;go_simp) ?_
          simp only[Act.put]
          refine wpOp_skip (w':=w4.setCell ⟨g4,0,none⟩ (.slice a' (cc.length+1) c')) rfl rfl (by unfold execOp;go_simp) ?_
          simp only[Act.put]
          clear hrun g4c g4f
          refine ex_gen (fun W=>ThS wS V3 g3 g4 B [.int .i64 m.cells,.slice ap m.pages.length cp,.slice ao m.order.length co,.int .i64 m.now,.slice (some ⟨bt,ot,none⟩) m.twins.length ct,.int .i64 m.born,.slice as' m.said.length cs,.int .i64 m.code] [.int .i64 m.cells,.slice ap m.pages.length cp,.slice ao m.order.length co,.int .i64 m.now,.slice (some ⟨bt,ot,none⟩) m.twins.length ct,.int .i64 m.born,.slice as' m.said.length cs,.int .i64 m.code,.slice al (lows m.pages).length cl,.int .i64 (framesN m.pages:Int)] now W (.slice a' (cc.length+1) c') (cc ++ [c])) hS ?_
          rintro W5 h5
          clear hS hB
          go_wp2
          go_roundg (m.twins.length - (q+1))
          case measure=>omega
          case rel=>exact⟨q+1,_,by omega,rfl,by go_num,by rw[HCS.out];exact h5⟩
        · obtain rfl:q=m.twins.length:=by omega
          have hqz:¬((m.twins.length:Int)<(m.twins.length:Int)):=by omega
          obtain⟨a2,k2,hv2⟩:=hth.t.slice
          subst hv2
          have hx4:=hth.x4
          have hx2:=hth.x2
          have hb9:=hth.b
          have ht9:=hth.t
          have q3:=hth.q3
          have q4:=hth.q4
          have qB:=hth.qB
          clear hth
          have HCS:Hid (frThings m m.pages.length ++ twThings m m.twins.length=(thingsM m).calls):=rfl
          obtain⟨cs9,hcs9⟩:∃cs9,frThings m m.pages.length ++ twThings m m.twins.length=cs9:=⟨_,rfl⟩
          rw[hcs9] at hx4 ht9 HCS
          obtain⟨n9,hn9⟩:∃n9,cs9.length=n9:=⟨_,rfl⟩
          rw[hn9] at hx4 ht9
          have HNW:Hid (plNow m=now):=hnow
          clear hn9 hcs9 hnow HFA HTW hct hP3
          have p0:=hx4.cell 0 rfl
          have r0:=hx2.cell 0 rfl
          have f0:=hx2.frozen 0
          have p1:=hx4.cell 1 rfl
          have r1:=hx2.cell 1 rfl
          have f1:=hx2.frozen 1
          have p2:=hx4.cell 2 rfl
          have r2:=hx2.cell 2 rfl
          have f2:=hx2.frozen 2
          have p3:=hx4.cell 3 rfl
          have r3:=hx2.cell 3 rfl
          have f3:=hx2.frozen 3
          have p4:=hx4.cell 4 rfl
          have r4:=hx2.cell 4 rfl
          have f4:=hx2.frozen 4
          go_wp2
          refine bp_gen (fun W=>Below wS.heap.size wS W∧Bx W (wS.heap.size+1) 29 [.slice a2 n9 k2,.int .i64 now,.int .i64 0,.slice none 0 0,.int .i64 0]∧Thg B W (.slice a2 n9 k2) cs9) ?_ ?_
          · have HW:=(((((Wr.refl1 (wS.heap.size+1) wr).set1 (o:=0) (.slice a2 n9 k2)).set1 (o:=1) (.int .i64 now)).set1 (o:=2) (.int .i64 0)).set1 (o:=3) (.slice none 0 0)).set1 (o:=4) (.int .i64 0)
            exact⟨HW.below1 hb9 (Nat.le_refl _) (Nat.le_succ _),((((hx2.set 0 _).set 1 _).set 2 _).set 3 _).set 4 _,ht9.wr HW (by omega)⟩
          rintro W9 ⟨B9,x9,r9⟩
          have i0:=x9.cell 0 rfl
          have i1:=x9.cell 1 rfl
          have i2:=x9.cell 2 rfl
          have i3:=x9.cell 3 rfl
          have i4:=x9.cell 4 rfl
          exact bodyPost_ret (v:=.agg #[.slice a2 n9 k2,.int .i64 now,.int .i64 0,.slice none 0 0,.int .i64 0]) (by simp[results,Tryz.results62,go_sem,i0,i1,i2,i3,i4]) rfl ⟨_,by rw[HNW.out],HCS.out ▸ r9.at,B9⟩
end Go.Proofs.YtjbgpcileapogaaGreat
