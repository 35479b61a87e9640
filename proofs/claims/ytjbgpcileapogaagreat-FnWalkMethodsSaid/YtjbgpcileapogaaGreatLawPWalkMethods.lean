/-
  The law FnWalkMethods, walked: whatever bytes come in, it answers true and writes to nothing that was there.
-/
import Derived.Test.YtjbgpcileapogaaGreatDrawHeap
import Derived.Test.YtjbgpcileapogaaGreatMMeth
import Derived.Test.YtjbgpcileapogaaGreatHHeapOk
import Derived.Test.YtjbgpcileapogaaGreatIntsM
import Derived.Test.YtjbgpcileapogaaGreatRFT
namespace Go.Proofs.YtjbgpcileapogaaGreat
open Go.RowKit
set_option maxRecDepth 100000 in
set_option maxHeartbeats 4000000 in
theorem lawWalkMethods_any (w:World) (a:Option Addr) (len cap:Nat) (h:BytesAt w a len cap) :
    Calls Tryz.prog 4 #[.slice a len cap] w fun e w'=>e=.returned (.bool true)∧Below w.heap.size w w':=by
  have hc:=h.1
  have hm:=h.2.1
  unfold maxLen at hm
  have HB:Hid (BytesAt w a len cap):=h
  clear h
  by_cases hl:1048576<len
  · have hlz:(1048576:Int)<(len:Int):=by omega
    go_enter Tryz.func4,Tryz.ntmps4
    go_wp2
    go_ret
    exact⟨rfl,Below.refl _ _⟩
  have hlz:(len:Int)≤1048576:=by omega
  go_enter Tryz.func4,Tryz.ntmps4
  go_wp2_with fail
  refine(drawHeapMethods_any _ a len cap HB.out).mono ?_
  rintro e w1 ⟨v,vc,vs,ms,H,rfl,hD,hB1⟩
  obtain⟨hM1,hH1⟩:=hD.st.here
  have l30:=hD.fine.l30
  have sd100:=hD.fine.sd
  clear hD
  obtain⟨aV,cV,hvV,_⟩:=id hM1
  obtain⟨ac,kc,hvc⟩:=hH1.c.shape
  obtain⟨aD,kD,hvs⟩:=hH1.s.shape
  subst hvV hvc hvs
  have z1:=hB1.size
  clear HB
  unfold hpCells
  go_upto_region 4 with fail
  refine wp_gen (fun W=>Below w1.heap.size w1 W∧Bx W w1.heap.size 25 [.slice aV ms.length cV]∧Bx W (w1.heap.size+1) 29 [.slice ac H.calls.length kc,.int .i64 H.now,.int .i64 H.born,.slice aD H.said.length kD,.int .i64 H.code]) ⟨((Below.refl _ _).alloc (Nat.le_refl _) _).alloc (by simp) _,(Bx.new _ _ _).alloc _,Bx.newAt _ _ _ (by simp)⟩ ?_
  rintro W2 ⟨t2,x2,y2⟩
  have hB2:=hB1.trans (t2.mono z1)
  have z2:=hB2.size
  have HMH:Hid (MethsAt W2 (.slice aV ms.length cV) ms∧HeapAt W2 (.slice ac H.calls.length kc) (.slice aD H.said.length kD) H):=⟨hM1.below t2,hH1.below t2⟩
  clear hM1 hH1 hB1
  have HSM:Hid (∀W,Below W2.heap.size W2 W→Calls Tryz.prog 16 #[.agg #[.slice aV ms.length cV],.agg #[.slice ac H.calls.length kc,.int .i64 H.now,.int .i64 H.born,.slice aD H.said.length kD,.int .i64 H.code]] W fun e w'=>∃v,e=.returned v∧IntRow W.heap.size w' v (methodsL ms H)∧Below W.heap.size W w'):=fun W hb=>specHeapMethods_any _ _ _ ms H W (HMH.out.1.below hb) (HMH.out.2.below hb) (by omega)
  have HIM:Hid (∀W,Below W2.heap.size W2 W→Calls Tryz.prog 14 #[.agg #[.slice aV ms.length cV],.agg #[.slice ac H.calls.length kc,.int .i64 H.now,.int .i64 H.born,.slice aD H.said.length kD,.int .i64 H.code]] W fun e w'=>∃v,e=.returned v∧IntRow W.heap.size w' v (methodsL ms H)∧Below W.heap.size W w'):=fun W hb=>implHeapMethods_any _ _ _ ms H W (HMH.out.1.below hb) (HMH.out.2.below hb) (by omega)
  obtain⟨ok,hok⟩:∃q,heapOk ms H=q:=⟨_,rfl⟩
  have HOK:Hid (heapOk ms H=ok):=hok
  have HSO:Hid (∀W,Below W2.heap.size W2 W→Calls Tryz.prog 17 #[.agg #[.slice aV ms.length cV],.agg #[.slice ac H.calls.length kc,.int .i64 H.now,.int .i64 H.born,.slice aD H.said.length kD,.int .i64 H.code]] W fun e w'=>e=.returned (.bool ok)∧Below W.heap.size W w'):=fun W hb=>by
    have q:=specHeapOk_any _ _ _ ms H W (HMH.out.1.below hb) (HMH.out.2.below hb) (by omega)
    rw[hok] at q
    exact q
  clear hok
  have p0:=x2.cell 0 rfl
  obtain⟨d0,d1,d2,d3,d4⟩:W2.cell? ⟨w1.heap.size+1,0,none⟩=some (.slice ac H.calls.length kc)∧W2.cell? ⟨w1.heap.size+1,1,none⟩=some (.int .i64 H.now)∧W2.cell? ⟨w1.heap.size+1,2,none⟩=some (.int .i64 H.born)∧W2.cell? ⟨w1.heap.size+1,3,none⟩=some (.slice aD H.said.length kD)∧W2.cell? ⟨w1.heap.size+1,4,none⟩=some (.int .i64 H.code):=⟨y2.cell 0 rfl,y2.cell 1 rfl,y2.cell 2 rfl,y2.cell 3 rfl,y2.cell 4 rfl⟩
  go_wp2_with fail
  refine(HIM.out _ (Below.refl _ _)).mono ?_
  rintro e W3 ⟨vL,rfl,hL3,t3⟩
  obtain⟨Ls,hLs⟩:∃q,methodsL ms H=q:=⟨_,rfl⟩
  have HLE:Hid (methodsL ms H=Ls):=hLs
  rw[hLs] at hL3
  obtain⟨aL,cL,hvL,_⟩:=hL3.slice
  subst hvL
  have x3:=x2.below t3
  have y3:=y2.below t3
  clear p0 d0 d1 d2 d3 d4 HIM hLs
  have z3:=t3.size
  have HLS:Hid (∀X,Below W3.heap.size W3 X→IntRow W2.heap.size X (.slice aL Ls.length cL) Ls):=fun X hX=>hL3.below hX
  have p0:=x3.cell 0 rfl
  obtain⟨d0,d1,d2,d3,d4⟩:W3.cell? ⟨w1.heap.size+1,0,none⟩=some (.slice ac H.calls.length kc)∧W3.cell? ⟨w1.heap.size+1,1,none⟩=some (.int .i64 H.now)∧W3.cell? ⟨w1.heap.size+1,2,none⟩=some (.int .i64 H.born)∧W3.cell? ⟨w1.heap.size+1,3,none⟩=some (.slice aD H.said.length kD)∧W3.cell? ⟨w1.heap.size+1,4,none⟩=some (.int .i64 H.code):=⟨y3.cell 0 rfl,y3.cell 1 rfl,y3.cell 2 rfl,y3.cell 3 rfl,y3.cell 4 rfl⟩
  have HLM:Hid (∀X v,Below W3.heap.size W3 X→IntRow W3.heap.size X v Ls→Calls Tryz.prog 15 #[.slice aL Ls.length cL,v] X fun e w'=>e=.returned (.bool true)∧Below X.heap.size X w'):=fun X v hX hv=>lmInts_same _ _ _ _ _ X (HLS.out X hX) hv
  go_wp2_with fail
  refine(HSM.out _ t3).mono ?_
  rintro e W4 ⟨v4,rfl,hL4,t4⟩
  rw[HLE.out] at hL4
  have z4:=t4.size
  clear p0 d0 d1 d2 d3 d4
  go_wp2_with fail
  refine(HLM.out _ _ t4 hL4).mono ?_
  rintro e W5 ⟨rfl,t5⟩
  have b5:=t4.trans (t5.mono z4)
  have x5:=x3.below b5
  have y5:=y3.below b5
  have b25:=t3.trans (b5.mono z3)
  have p0:=x5.cell 0 rfl
  obtain⟨d0,d1,d2,d3,d4⟩:W5.cell? ⟨w1.heap.size+1,0,none⟩=some (.slice ac H.calls.length kc)∧W5.cell? ⟨w1.heap.size+1,1,none⟩=some (.int .i64 H.now)∧W5.cell? ⟨w1.heap.size+1,2,none⟩=some (.int .i64 H.born)∧W5.cell? ⟨w1.heap.size+1,3,none⟩=some (.slice aD H.said.length kD)∧W5.cell? ⟨w1.heap.size+1,4,none⟩=some (.int .i64 H.code):=⟨y5.cell 0 rfl,y5.cell 1 rfl,y5.cell 2 rfl,y5.cell 3 rfl,y5.cell 4 rfl⟩
  clear hL4
  go_wp2_with fail
  refine(HSO.out _ b25).mono ?_
  rintro e W6 ⟨rfl,t6⟩
  have b6:=b5.trans (t6.mono b5.size)
  have x6:=x3.below b6
  have y6:=y3.below b6
  have b26:=t3.trans (b6.mono z3)
  have z6:=b26.size
  clear p0 d0 d1 d2 d3 d4 x5 y5
  have p0:=x6.cell 0 rfl
  obtain⟨d0,d1,d2,d3,d4⟩:W6.cell? ⟨w1.heap.size+1,0,none⟩=some (.slice ac H.calls.length kc)∧W6.cell? ⟨w1.heap.size+1,1,none⟩=some (.int .i64 H.now)∧W6.cell? ⟨w1.heap.size+1,2,none⟩=some (.int .i64 H.born)∧W6.cell? ⟨w1.heap.size+1,3,none⟩=some (.slice aD H.said.length kD)∧W6.cell? ⟨w1.heap.size+1,4,none⟩=some (.int .i64 H.code):=⟨y6.cell 0 rfl,y6.cell 1 rfl,y6.cell 2 rfl,y6.cell 3 rfl,y6.cell 4 rfl⟩
  cases ok
  · go_wp2_with fail
    refine(HSM.out _ b26).mono ?_
    rintro e W7 ⟨v7,rfl,hL7,t7⟩
    rw[HLE.out] at hL7
    have z7:=t7.size
    have b7:=b6.trans (t7.mono b6.size)
    clear p0 d0 d1 d2 d3 d4
    go_wp2_with fail
    refine(HLM.out _ _ b7 (hL7.mono b6.size)).mono ?_
    rintro e W9 ⟨rfl,t9⟩
    have HEND:Hid (Below w.heap.size w W9):=hB2.trans ((t3.trans ((b7.trans (t9.mono b7.size)).mono z3)).mono z2)
    go_wp2
    go_ret
    exact⟨rfl,HEND.out⟩
  have HGD:Hid (Good ms H):=good_iff.1 HOK.out
  have hLm:methL H=Ls:=by
    have e:=HLE.out
    unfold methodsL at e
    rw[if_pos HOK.out] at e
    exact e
  have HLMt:Hid (methL H=Ls):=hLm
  clear hLm HLM HSM HSO
  have HMI:=implMoveIn_any _ _ _ ms H 3 20 W6 (HMH.out.1.below b26) (HMH.out.2.below b26) (by omega) (by omega)
  have hyes:(heapOk ms H && roomsB 3 20)=true:=by rw[HOK.out];rfl
  rw[hyes] at HMI
  unfold hpCells at HMI
  have HMI':Hid _:=HMI
  clear HMI hyes
  go_wp2_with fail
  refine Calls.mono HMI'.out ?_
  rintro e W8 ⟨t8,hdis⟩
  obtain⟨v1,v2,v3,v4',he,hMA⟩:∃v1 v2 v3 v4,e=.returned (.tuple #[.agg (mcCells v1 v2 v3 v4 (mvIn H 3 20)).toArray,.bool true])∧MachAt W8 v1 v2 v3 v4 (mvIn H 3 20):=by
    rcases hdis with⟨hno,_⟩ | ⟨_,h⟩
    · cases hno
    · exact h
  subst he
  have HMA:Hid (MachAt W8 v1 v2 v3 v4' (mvIn H 3 20)):=hMA
  obtain⟨q1,l1,hs1⟩:=hMA.p.shape
  obtain⟨q2,l2,hs2⟩:=hMA.o.shape
  obtain⟨q3,l3,hs3⟩:=hMA.t.shape
  obtain⟨q4,l4,hs4⟩:=hMA.s.shape
  subst hs1 hs2 hs3 hs4
  clear hMA hdis HMI' p0 d0 d1 d2 d3 d4
  have b28:=b26.trans (t8.mono z6)
  have z8:=b28.size
  have x8:=x6.below t8
  have y8:=y6.below t8
  have HMM0:Hid (∀W,Below W8.heap.size W8 W→Calls Tryz.prog 19 #[.agg #[.slice aV ms.length cV],.agg (mcCells (.slice q1 (mvIn H 3 20).pages.length l1) (.slice q2 (mvIn H 3 20).order.length l2) (.slice q3 (mvIn H 3 20).twins.length l3) (.slice q4 (mvIn H 3 20).said.length l4) (mvIn H 3 20)).toArray] W fun e w'=>∃v,e=.returned v∧IntRow W.heap.size w' v Ls∧Below W.heap.size W w'):=fun W hb=>by
    have q:=mvMethods 3 20 _ _ _ _ _ W (HMH.out.1.below (b28.trans (hb.mono z8))) (HMA.out.below hb) HGD.out rfl (by omega)
    rw[HLMt.out] at q
    exact q
  generalize mvIn H 3 20=M at *
  unfold mcCells at *
  go_upto_region 8 with fail
  refine wp_gen (fun W=>Below W8.heap.size W8 W∧Bx W W8.heap.size 42 [.int .i64 M.cells,.slice q1 M.pages.length l1,.slice q2 M.order.length l2,.int .i64 M.now,.slice q3 M.twins.length l3,.int .i64 M.born,.slice q4 M.said.length l4,.int .i64 M.code]) ⟨(Below.refl _ _).alloc (Nat.le_refl _) _,Bx.new _ _ _⟩ ?_
  rintro W9 ⟨t9,mm9⟩
  have x9:=x8.below t9
  have b29:=b28.trans (t9.mono z8)
  have b39:=b6.trans ((t8.trans (t9.mono t8.size)).mono b6.size)
  have hB9:=hB2.trans (b29.mono z2)
  have z9:=hB9.size
  have z8':=t9.size
  have HMM:Hid (∀W,Below W9.heap.size W9 W→Calls Tryz.prog 19 #[.agg #[.slice aV ms.length cV],.agg #[.int .i64 M.cells,.slice q1 M.pages.length l1,.slice q2 M.order.length l2,.int .i64 M.now,.slice q3 M.twins.length l3,.int .i64 M.born,.slice q4 M.said.length l4,.int .i64 M.code]] W fun e w'=>∃v,e=.returned v∧IntRow W.heap.size w' v Ls∧Below W.heap.size W w'):=fun W hb=>HMM0.out W (t9.trans (hb.mono z8'))
  have HLS9:Hid (∀X,Below W9.heap.size W9 X→IntRow W2.heap.size X (.slice aL Ls.length cL) Ls):=fun X hX=>HLS.out X (b39.trans (hX.mono b39.size))
  have HDP:Hid (∀X,Below W9.heap.size W9 X→Calls Tryz.prog 18 #[.agg #[.slice ac H.calls.length kc,.int .i64 H.now,.int .i64 H.born,.slice aD H.said.length kD,.int .i64 H.code]] X fun e w'=>e=.returned (.int .i64 (Ls.length:Int))∧Below X.heap.size X w'):=fun X hX=>by
    have q:=implHeapDeep_any (.slice ac H.calls.length kc) (.slice aD H.said.length kD) H X (HMH.out.2.below (b29.trans (hX.mono b29.size))) (by omega)
    rw[good_deep HGD.out,show(chainOf H.calls H.now).length=Ls.length by rw[←HLMt.out];unfold methL;rw[List.length_map]] at q
    exact q
  have p0:=x9.cell 0 rfl
  obtain⟨⟨m0,m1,m2,m3,m4,m5,m6,m7⟩,_⟩:=bx8 mm9
  have y9:=y8.below t9
  have hcase:=good_now HGD.out
  clear HLS HMM0 HMA mm9 x9 x8 x6 y6 y8 x3 y3 x2 y2
  rcases hcase with hn | ⟨j,hj,hjl,_⟩
  · have hE:Ls=[]:=by
      have e:=HLMt.out
      obtain⟨⟨f,hf⟩,_⟩:=good_walk HGD.out
      unfold methL at e
      rw[walk_end hf (by rw[hn];omega)] at e
      exact e.symm
    subst hE
    rw[hn] at y9 HDP
    have e0:=y9.cell 0 rfl
    have e1:=y9.cell 1 rfl
    have e2:=y9.cell 2 rfl
    have e3:=y9.cell 3 rfl
    have e4:=y9.cell 4 rfl
    have HLS:Hid _:=HLS9.out
    clear HLMt HLE HLS9
    dsimp only [List.length_nil] at *
    refine wp_region_fs [[],[0],[],[2],[0,1,2,3],[0,1,2,3,4],[0,1,2,3,4,5],[0,1,2,3,4,5],[0,1,2,3,4,5,6,7],[0,1,2,3,4,5],[0,1,2,3,4,5,6,7,8,9],[0,1,2,3,4,5,6,7,8,9,10],[0,1,2,3,4,5,6,7,8,9,10,11],[0,1,2,3,4,5,6,7,8,9,10,11,12],[0,1,2,3,4,5,6,7,8,9,10,11,12,13],[0,1,2,3,4,5,6,7,8,9,10,11,12,13,14],[0,1,2,3,4,5,6,7,8,9,10,11,12,13,14,15],[0,1,2,3,4,5,6,7,8,9,10,11,12,13,14,15,16],[0,1,2,3,4,5,6,7,8,9,10,11,12,13,14,15,16,17],[0,1,2,3,4,5,6,7,8,9,10,11,12,13,14,15,16,17,18],[0,1,2,3,4,5,6,7,8,9,10,11,12,13,14,15,16],[0,1,2,3,4,5,6,7,8,9,10,11,12,13,14,15,16,20],[0,1,2,3,4,5,6,7,8,9,10,11,12,13,14,15,16],[0,1,2,3,4,5,6,7,8,9,10,11,12,13,14,15,16,22],[0,1,2,3,4,5,6,7,8,9,10,11,12,13,14,15,16,20,21,22,23],[0,1,2,3,4,5,6,7,8,9,10,11,12,13,14,15,16,20,21,22,23,24],[0,1,2,3,4,5,6,7,8,9,10,11,12,13,14,15,16,20,21,22,23,24,25],[0,1,2,3,4,5,6,7,8,9,10,11,12,13,14,15,16,17,18,19,20,21,22,23,24,25,26],[0,1,2,3,4,5,6,7,8,9,10,11,12,13,14,15,16,17,18,19,20,21,22,23,24,25,26,27],[0,1,2,3,4,5,6,7,8,9,10,11,12,13,14,15,16,17,18,19,20,21,22,23,24,25,26,27,28],[0,1,2,3,4,5,6,7,8,9,10,11,12,13,14,15,16,17,18,19,20,21,22,23,24,25,26,27,28,29]] [[0],[1],[2],[3],[4],[5],[6],[7],[8],[9],[10],[11],[12],[13],[14],[15],[16],[17],[18],[19],[20],[21],[22],[23],[24],[25],[26],[27],[28],[29],[30]] [[],[],[],[],[],[],[],[],[],[],[],[],[],[],[],[],[],[],[],[],[],[],[],[],[],[],[],[],[],[],[]] [fIs (.slice aL 0 cL),fIs (.int .i64 (0)),fIs (.agg #[.slice ac H.calls.length kc,.int .i64 (-1),.int .i64 H.born,.slice aD H.said.length kD,.int .i64 H.code]),fIs (.int .i64 (0)),fIs (.bool true),fIs (.bool true),fIs (.agg #[.slice aV ms.length cV]),fIs (.agg #[.int .i64 M.cells,.slice q1 M.pages.length l1,.slice q2 M.order.length l2,.int .i64 M.now,.slice q3 M.twins.length l3,.int .i64 M.born,.slice q4 M.said.length l4,.int .i64 M.code]),fGh 8 (fun(x:Option Addr × Nat) l=>l=[.slice x.1 0 x.2]) (fun x w1=>IntRow W9.heap.size w1 (.slice x.1 0 x.2) []),fIs (.slice aL 0 cL),fIs (.bool true),fIs (.bool true),fIs (.bool true),fIs (.slice aL 0 cL),fIs (.int .i64 (0)),fIs (.bool true),fIs (.bool true),fIs undef,fIs undef,fIs undef,fIs undef,fIs undef,fIs undef,fIs undef,fIs undef,fIs undef,fIs undef,fIs undef,fIs (.bool true),fIs (.bool true),fIs (.bool true)] 31 rfl (by kernel_rfl) (by kernel_rfl) ?_ ?_
    · refine all_lt_succ (all_lt_succ (all_lt_succ (all_lt_succ (all_lt_succ (all_lt_succ (all_lt_succ (all_lt_succ (all_lt_succ (all_lt_succ (all_lt_succ (all_lt_succ (all_lt_succ (all_lt_succ (all_lt_succ (all_lt_succ (all_lt_succ (all_lt_succ (all_lt_succ (all_lt_succ (all_lt_succ (all_lt_succ (all_lt_succ (all_lt_succ (all_lt_succ (all_lt_succ (all_lt_succ (all_lt_succ (all_lt_succ (all_lt_succ (all_lt_succ (all_lt_zero) ?_) ?_) ?_) ?_) ?_) ?_) ?_) ?_) ?_) ?_) ?_) ?_) ?_) ?_) ?_) ?_) ?_) ?_) ?_) ?_) ?_) ?_) ?_) ?_) ?_) ?_) ?_) ?_) ?_) ?_) ?_
      · intro a w val own hB hf hown hk
        have s5:=hf.at (d:=5) (v:=.slice aL 0 cL) (by kernel_rfl) rfl
        exact rf_pure (v:=.slice aL 0 cL) hB rfl rfl (by unfold execOp;go_simp) rfl
      · intro a w val own hB hf hown hk
        obtain⟨k0,f0⟩:=hk 0 (show 0∈[0] by decide)
        have s42:=k0 42 rfl
        rw[fIs_out f0] at s42
        clear k0 f0
        exact rf_pure (v:=.int .i64 (0)) hB rfl rfl (by unfold execOp;go_simp) rfl
      · intro a w val own hB hf hown hk
        have s4:=hf.at (d:=4) (v:=.pointer (some ⟨(w1.heap.size+1),0,none⟩)) (by kernel_rfl) rfl
        have ce0:=cell_below hB e0
        have ce1:=cell_below hB e1
        have ce2:=cell_below hB e2
        have ce3:=cell_below hB e3
        have ce4:=cell_below hB e4
        exact rf_pure (v:=.agg #[.slice ac H.calls.length kc,.int .i64 (-1),.int .i64 H.born,.slice aD H.said.length kD,.int .i64 H.code]) hB rfl rfl (by unfold execOp;go_simp) rfl
      · intro a w val own hB hf hown hk
        obtain⟨k2,f2⟩:=hk 2 (show 2∈[2] by decide)
        have s44:=k2 44 rfl
        rw[fIs_out f2] at s44
        clear k2 f2
        exact rf_call hB rfl rfl (by unfold execOp;go_simp) ((HDP.out w hB).mono fun e w' ⟨he,hb⟩=>⟨_,he,hb,rfl⟩)
      · intro a w val own hB hf hown hk
        obtain⟨k1,f1⟩:=hk 1 (show 1∈[0,1,2,3] by decide)
        have s43:=k1 43 rfl
        rw[fIs_out f1] at s43
        clear k1 f1
        obtain⟨k3,f3⟩:=hk 3 (show 3∈[0,1,2,3] by decide)
        have s45:=k3 45 rfl
        rw[fIs_out f3] at s45
        clear k3 f3
        exact rf_pure (v:=.bool true) hB rfl rfl (by unfold execOp;go_simp) rfl
      · intro a w val own hB hf hown hk
        obtain⟨k4,f4⟩:=hk 4 (show 4∈[0,1,2,3,4] by decide)
        have s46:=k4 46 rfl
        rw[fIs_out f4] at s46
        clear k4 f4
        exact rf_pure (v:=.bool true) hB rfl rfl (by unfold execOp;go_simp) rfl
      · intro a w val own hB hf hown hk
        have s3:=hf.at (d:=3) (v:=.pointer (some ⟨w1.heap.size,0,none⟩)) (by kernel_rfl) rfl
        obtain⟨k5,f5⟩:=hk 5 (show 5∈[0,1,2,3,4,5] by decide)
        have s47:=k5 47 rfl
        rw[fIs_out f5] at s47
        clear k5 f5
        have cp0:=cell_below hB p0
        exact rf_pure (v:=.agg #[.slice aV ms.length cV]) hB rfl (wanted_of rfl rfl s47) (by unfold execOp;go_simp) rfl
      · intro a w val own hB hf hown hk
        have s6:=hf.at (d:=6) (v:=.pointer (some ⟨W8.heap.size,0,none⟩)) (by kernel_rfl) rfl
        obtain⟨k5,f5⟩:=hk 5 (show 5∈[0,1,2,3,4,5] by decide)
        have s47:=k5 47 rfl
        rw[fIs_out f5] at s47
        clear k5 f5
        have cm0:=cell_below hB m0
        have cm1:=cell_below hB m1
        have cm2:=cell_below hB m2
        have cm3:=cell_below hB m3
        have cm4:=cell_below hB m4
        have cm5:=cell_below hB m5
        have cm6:=cell_below hB m6
        have cm7:=cell_below hB m7
        exact rf_pure (v:=.agg #[.int .i64 M.cells,.slice q1 M.pages.length l1,.slice q2 M.order.length l2,.int .i64 M.now,.slice q3 M.twins.length l3,.int .i64 M.born,.slice q4 M.said.length l4,.int .i64 M.code]) hB rfl (wanted_of rfl rfl s47) (by unfold execOp;go_simp) rfl
      · intro a w val own hB hf hown hk
        obtain⟨k6,f6⟩:=hk 6 (show 6∈[0,1,2,3,4,5,6,7] by decide)
        have s48:=k6 48 rfl
        rw[fIs_out f6] at s48
        clear k6 f6
        obtain⟨k7,f7⟩:=hk 7 (show 7∈[0,1,2,3,4,5,6,7] by decide)
        have s49:=k7 49 rfl
        rw[fIs_out f7] at s49
        clear k7 f7
        obtain⟨k5,f5⟩:=hk 5 (show 5∈[0,1,2,3,4,5,6,7] by decide)
        have s47:=k5 47 rfl
        rw[fIs_out f5] at s47
        clear k5 f5
        have hzB:=hB.size
        refine rf_call hB rfl (wanted_of rfl rfl s47) (by unfold execOp;go_simp) ((HMM.out w hB).mono ?_)
        rintro e w' ⟨v1,rfl,q1',hb'⟩
        obtain⟨a0,c0,e0',_⟩:=q1'.slice
        subst e0'
        refine⟨_,rfl,hb',(a0,c0),rfl,Made.new fun w1 hs hbw hr=>?_⟩
        exact(q1'.kept hs fun g e=>hr g (q1'.lt g e).1 (q1'.lt g e).2).mono hzB
      · intro a w val own hB hf hown hk
        have s5:=hf.at (d:=5) (v:=.slice aL 0 cL) (by kernel_rfl) rfl
        obtain⟨k5,f5⟩:=hk 5 (show 5∈[0,1,2,3,4,5] by decide)
        have s47:=k5 47 rfl
        rw[fIs_out f5] at s47
        clear k5 f5
        exact rf_pure (v:=.slice aL 0 cL) hB rfl (wanted_of rfl rfl s47) (by unfold execOp;go_simp) rfl
      · intro a w val own hB hf hown hk
        obtain⟨kc',xc,ec,mc⟩:=hk 8 (show 8∈[0,1,2,3,4,5,6,7,8,9] by decide)
        have vc:=one_eq ec
        have s50:=kc' 50 rfl
        rw[vc] at s50
        have rc:=mc.here hB
        clear kc' ec mc
        obtain⟨k9,f9⟩:=hk 9 (show 9∈[0,1,2,3,4,5,6,7,8,9] by decide)
        have s51:=k9 51 rfl
        rw[fIs_out f9] at s51
        clear k9 f9
        obtain⟨k5,f5⟩:=hk 5 (show 5∈[0,1,2,3,4,5,6,7,8,9] by decide)
        have s47:=k5 47 rfl
        rw[fIs_out f5] at s47
        clear k5 f5
        exact rf_call hB rfl (wanted_of rfl rfl s47) (by unfold execOp;go_simp) ((lmInts_same W9.heap.size W2.heap.size _ _ [] w rc (HLS.out w hB)).mono fun e w' ⟨he,hb⟩=>⟨_,he,hb,rfl⟩)
      · intro a w val own hB hf hown hk
        obtain⟨k5,f5⟩:=hk 5 (show 5∈[0,1,2,3,4,5,6,7,8,9,10] by decide)
        have s47:=k5 47 rfl
        rw[fIs_out f5] at s47
        clear k5 f5
        obtain⟨k10,f10⟩:=hk 10 (show 10∈[0,1,2,3,4,5,6,7,8,9,10] by decide)
        have s52:=k10 52 rfl
        rw[fIs_out f10] at s52
        clear k10 f10
        exact rf_pure (v:=.bool true) hB rfl rfl (by unfold execOp;go_simp) rfl
      · intro a w val own hB hf hown hk
        obtain⟨k11,f11⟩:=hk 11 (show 11∈[0,1,2,3,4,5,6,7,8,9,10,11] by decide)
        have s53:=k11 53 rfl
        rw[fIs_out f11] at s53
        clear k11 f11
        exact rf_pure (v:=.bool true) hB rfl rfl (by unfold execOp;go_simp) rfl
      · intro a w val own hB hf hown hk
        have s5:=hf.at (d:=5) (v:=.slice aL 0 cL) (by kernel_rfl) rfl
        obtain⟨k12,f12⟩:=hk 12 (show 12∈[0,1,2,3,4,5,6,7,8,9,10,11,12] by decide)
        have s54:=k12 54 rfl
        rw[fIs_out f12] at s54
        clear k12 f12
        exact rf_pure (v:=.slice aL 0 cL) hB rfl (wanted_of rfl rfl s54) (by unfold execOp;go_simp) rfl
      · intro a w val own hB hf hown hk
        obtain⟨k13,f13⟩:=hk 13 (show 13∈[0,1,2,3,4,5,6,7,8,9,10,11,12,13] by decide)
        have s55:=k13 55 rfl
        rw[fIs_out f13] at s55
        clear k13 f13
        obtain⟨k12,f12⟩:=hk 12 (show 12∈[0,1,2,3,4,5,6,7,8,9,10,11,12,13] by decide)
        have s54:=k12 54 rfl
        rw[fIs_out f12] at s54
        clear k12 f12
        exact rf_pure (v:=.int .i64 (0)) hB rfl (wanted_of rfl rfl s54) (by unfold execOp;go_simp) rfl
      · intro a w val own hB hf hown hk
        obtain⟨k14,f14⟩:=hk 14 (show 14∈[0,1,2,3,4,5,6,7,8,9,10,11,12,13,14] by decide)
        have s56:=k14 56 rfl
        rw[fIs_out f14] at s56
        clear k14 f14
        obtain⟨k12,f12⟩:=hk 12 (show 12∈[0,1,2,3,4,5,6,7,8,9,10,11,12,13,14] by decide)
        have s54:=k12 54 rfl
        rw[fIs_out f12] at s54
        clear k12 f12
        exact rf_pure (v:=.bool true) hB rfl (wanted_of rfl rfl s54) (by unfold execOp;go_simp) rfl
      · intro a w val own hB hf hown hk
        obtain⟨k15,f15⟩:=hk 15 (show 15∈[0,1,2,3,4,5,6,7,8,9,10,11,12,13,14,15] by decide)
        have s57:=k15 57 rfl
        rw[fIs_out f15] at s57
        clear k15 f15
        obtain⟨k12,f12⟩:=hk 12 (show 12∈[0,1,2,3,4,5,6,7,8,9,10,11,12,13,14,15] by decide)
        have s54:=k12 54 rfl
        rw[fIs_out f12] at s54
        clear k12 f12
        exact rf_pure (v:=.bool true) hB rfl (wanted_of rfl rfl s54) (by unfold execOp;go_simp) rfl
      · intro a w val own hB hf hown hk
        have s5:=hf.at (d:=5) (v:=.slice aL 0 cL) (by kernel_rfl) rfl
        obtain⟨k16,f16⟩:=hk 16 (show 16∈[0,1,2,3,4,5,6,7,8,9,10,11,12,13,14,15,16] by decide)
        have s58:=k16 58 rfl
        rw[fIs_out f16] at s58
        clear k16 f16
        exact rf_not hB rfl (unwanted_of rfl rfl s58) rfl
      · intro a w val own hB hf hown hk
        obtain⟨k17,f17⟩:=hk 17 (show 17∈[0,1,2,3,4,5,6,7,8,9,10,11,12,13,14,15,16,17] by decide)
        have s59:=k17 59 rfl
        rw[fIs_out f17] at s59
        clear k17 f17
        obtain⟨k16,f16⟩:=hk 16 (show 16∈[0,1,2,3,4,5,6,7,8,9,10,11,12,13,14,15,16,17] by decide)
        have s58:=k16 58 rfl
        rw[fIs_out f16] at s58
        clear k16 f16
        exact rf_not hB rfl (unwanted_of rfl rfl s58) rfl
      · intro a w val own hB hf hown hk
        obtain⟨k18,f18⟩:=hk 18 (show 18∈[0,1,2,3,4,5,6,7,8,9,10,11,12,13,14,15,16,17,18] by decide)
        have s60:=k18 60 rfl
        rw[fIs_out f18] at s60
        clear k18 f18
        obtain⟨k16,f16⟩:=hk 16 (show 16∈[0,1,2,3,4,5,6,7,8,9,10,11,12,13,14,15,16,17,18] by decide)
        have s58:=k16 58 rfl
        rw[fIs_out f16] at s58
        clear k16 f16
        exact rf_not hB rfl (unwanted_of rfl rfl s58) rfl
      · intro a w val own hB hf hown hk
        have s4:=hf.at (d:=4) (v:=.pointer (some ⟨(w1.heap.size+1),0,none⟩)) (by kernel_rfl) rfl
        obtain⟨k16,f16⟩:=hk 16 (show 16∈[0,1,2,3,4,5,6,7,8,9,10,11,12,13,14,15,16] by decide)
        have s58:=k16 58 rfl
        rw[fIs_out f16] at s58
        clear k16 f16
        exact rf_not hB rfl (unwanted_of rfl rfl s58) rfl
      · intro a w val own hB hf hown hk
        obtain⟨k20,f20⟩:=hk 20 (show 20∈[0,1,2,3,4,5,6,7,8,9,10,11,12,13,14,15,16,20] by decide)
        have s62:=k20 62 rfl
        rw[fIs_out f20] at s62
        clear k20 f20
        obtain⟨k16,f16⟩:=hk 16 (show 16∈[0,1,2,3,4,5,6,7,8,9,10,11,12,13,14,15,16,20] by decide)
        have s58:=k16 58 rfl
        rw[fIs_out f16] at s58
        clear k16 f16
        exact rf_not hB rfl (unwanted_of rfl rfl s58) rfl
      · intro a w val own hB hf hown hk
        have s4:=hf.at (d:=4) (v:=.pointer (some ⟨(w1.heap.size+1),0,none⟩)) (by kernel_rfl) rfl
        obtain⟨k16,f16⟩:=hk 16 (show 16∈[0,1,2,3,4,5,6,7,8,9,10,11,12,13,14,15,16] by decide)
        have s58:=k16 58 rfl
        rw[fIs_out f16] at s58
        clear k16 f16
        exact rf_not hB rfl (unwanted_of rfl rfl s58) rfl
      · intro a w val own hB hf hown hk
        obtain⟨k22,f22⟩:=hk 22 (show 22∈[0,1,2,3,4,5,6,7,8,9,10,11,12,13,14,15,16,22] by decide)
        have s64:=k22 64 rfl
        rw[fIs_out f22] at s64
        clear k22 f22
        obtain⟨k16,f16⟩:=hk 16 (show 16∈[0,1,2,3,4,5,6,7,8,9,10,11,12,13,14,15,16,22] by decide)
        have s58:=k16 58 rfl
        rw[fIs_out f16] at s58
        clear k16 f16
        exact rf_not hB rfl (unwanted_of rfl rfl s58) rfl
      · intro a w val own hB hf hown hk
        obtain⟨k21,f21⟩:=hk 21 (show 21∈[0,1,2,3,4,5,6,7,8,9,10,11,12,13,14,15,16,20,21,22,23] by decide)
        have s63:=k21 63 rfl
        rw[fIs_out f21] at s63
        clear k21 f21
        obtain⟨k23,f23⟩:=hk 23 (show 23∈[0,1,2,3,4,5,6,7,8,9,10,11,12,13,14,15,16,20,21,22,23] by decide)
        have s65:=k23 65 rfl
        rw[fIs_out f23] at s65
        clear k23 f23
        obtain⟨k16,f16⟩:=hk 16 (show 16∈[0,1,2,3,4,5,6,7,8,9,10,11,12,13,14,15,16,20,21,22,23] by decide)
        have s58:=k16 58 rfl
        rw[fIs_out f16] at s58
        clear k16 f16
        exact rf_not hB rfl (unwanted_of rfl rfl s58) rfl
      · intro a w val own hB hf hown hk
        obtain⟨k24,f24⟩:=hk 24 (show 24∈[0,1,2,3,4,5,6,7,8,9,10,11,12,13,14,15,16,20,21,22,23,24] by decide)
        have s66:=k24 66 rfl
        rw[fIs_out f24] at s66
        clear k24 f24
        obtain⟨k16,f16⟩:=hk 16 (show 16∈[0,1,2,3,4,5,6,7,8,9,10,11,12,13,14,15,16,20,21,22,23,24] by decide)
        have s58:=k16 58 rfl
        rw[fIs_out f16] at s58
        clear k16 f16
        exact rf_not hB rfl (unwanted_of rfl rfl s58) rfl
      · intro a w val own hB hf hown hk
        obtain⟨k25,f25⟩:=hk 25 (show 25∈[0,1,2,3,4,5,6,7,8,9,10,11,12,13,14,15,16,20,21,22,23,24,25] by decide)
        have s67:=k25 67 rfl
        rw[fIs_out f25] at s67
        clear k25 f25
        obtain⟨k16,f16⟩:=hk 16 (show 16∈[0,1,2,3,4,5,6,7,8,9,10,11,12,13,14,15,16,20,21,22,23,24,25] by decide)
        have s58:=k16 58 rfl
        rw[fIs_out f16] at s58
        clear k16 f16
        exact rf_not hB rfl (unwanted_of rfl rfl s58) rfl
      · intro a w val own hB hf hown hk
        obtain⟨k19,f19⟩:=hk 19 (show 19∈[0,1,2,3,4,5,6,7,8,9,10,11,12,13,14,15,16,17,18,19,20,21,22,23,24,25,26] by decide)
        have s61:=k19 61 rfl
        rw[fIs_out f19] at s61
        clear k19 f19
        obtain⟨k26,f26⟩:=hk 26 (show 26∈[0,1,2,3,4,5,6,7,8,9,10,11,12,13,14,15,16,17,18,19,20,21,22,23,24,25,26] by decide)
        have s68:=k26 68 rfl
        rw[fIs_out f26] at s68
        clear k26 f26
        obtain⟨k16,f16⟩:=hk 16 (show 16∈[0,1,2,3,4,5,6,7,8,9,10,11,12,13,14,15,16,17,18,19,20,21,22,23,24,25,26] by decide)
        have s58:=k16 58 rfl
        rw[fIs_out f16] at s58
        clear k16 f16
        exact rf_not hB rfl (unwanted_of rfl rfl s58) rfl
      · intro a w val own hB hf hown hk
        obtain⟨k16,f16⟩:=hk 16 (show 16∈[0,1,2,3,4,5,6,7,8,9,10,11,12,13,14,15,16,17,18,19,20,21,22,23,24,25,26,27] by decide)
        have s58:=k16 58 rfl
        rw[fIs_out f16] at s58
        clear k16 f16
        obtain⟨k27,f27⟩:=hk 27 (show 27∈[0,1,2,3,4,5,6,7,8,9,10,11,12,13,14,15,16,17,18,19,20,21,22,23,24,25,26,27] by decide)
        have s69:=k27 69 rfl
        rw[fIs_out f27] at s69
        clear k27 f27
        obtain⟨k12,f12⟩:=hk 12 (show 12∈[0,1,2,3,4,5,6,7,8,9,10,11,12,13,14,15,16,17,18,19,20,21,22,23,24,25,26,27] by decide)
        have s54:=k12 54 rfl
        rw[fIs_out f12] at s54
        clear k12 f12
        exact rf_pure (v:=.bool true) hB rfl (wanted_of rfl rfl s54) (by unfold execOp;go_simp) rfl
      · intro a w val own hB hf hown hk
        obtain⟨k12,f12⟩:=hk 12 (show 12∈[0,1,2,3,4,5,6,7,8,9,10,11,12,13,14,15,16,17,18,19,20,21,22,23,24,25,26,27,28] by decide)
        have s54:=k12 54 rfl
        rw[fIs_out f12] at s54
        clear k12 f12
        obtain⟨k28,f28⟩:=hk 28 (show 28∈[0,1,2,3,4,5,6,7,8,9,10,11,12,13,14,15,16,17,18,19,20,21,22,23,24,25,26,27,28] by decide)
        have s70:=k28 70 rfl
        rw[fIs_out f28] at s70
        clear k28 f28
        exact rf_pure (v:=.bool true) hB rfl rfl (by unfold execOp;go_simp) rfl
      · intro a w val own hB hf hown hk
        obtain⟨k29,f29⟩:=hk 29 (show 29∈[0,1,2,3,4,5,6,7,8,9,10,11,12,13,14,15,16,17,18,19,20,21,22,23,24,25,26,27,28,29] by decide)
        have s71:=k29 71 rfl
        rw[fIs_out f29] at s71
        clear k29 f29
        exact rf_pure (v:=.bool true) hB rfl rfl (by unfold execOp;go_simp) rfl
    intro aE wE val own hB hf hown hk
    obtain⟨kz,fz⟩:=hk 30 (by decide)
    have s2:=kz 2 rfl
    rw[fIs_out fz] at s2
    clear kz fz
    have HEND:Hid (Below w.heap.size w wE):=hB9.trans (hB.mono z9)
    have hu:=frame_sets hf [42,43,44,45,46,47,48,49,50,51,52,53,54,55,56,57,58,59,60,61,62,63,64,65,66,67,68,69,70,71,2] (by kernel_rfl)
    dsimp only at hu
    simp only[List.foldl_cons,List.foldl_nil,List.setIfInBounds_toArray,List.set_cons_succ,List.set_cons_zero] at hu
    rw[s2] at hu
    generalize aE.tmps[42]?.getD undef=u42 at hu
    generalize aE.tmps[43]?.getD undef=u43 at hu
    generalize aE.tmps[44]?.getD undef=u44 at hu
    generalize aE.tmps[45]?.getD undef=u45 at hu
    generalize aE.tmps[46]?.getD undef=u46 at hu
    generalize aE.tmps[47]?.getD undef=u47 at hu
    generalize aE.tmps[48]?.getD undef=u48 at hu
    generalize aE.tmps[49]?.getD undef=u49 at hu
    generalize aE.tmps[50]?.getD undef=u50 at hu
    generalize aE.tmps[51]?.getD undef=u51 at hu
    generalize aE.tmps[52]?.getD undef=u52 at hu
    generalize aE.tmps[53]?.getD undef=u53 at hu
    generalize aE.tmps[54]?.getD undef=u54 at hu
    generalize aE.tmps[55]?.getD undef=u55 at hu
    generalize aE.tmps[56]?.getD undef=u56 at hu
    generalize aE.tmps[57]?.getD undef=u57 at hu
    generalize aE.tmps[58]?.getD undef=u58 at hu
    generalize aE.tmps[59]?.getD undef=u59 at hu
    generalize aE.tmps[60]?.getD undef=u60 at hu
    generalize aE.tmps[61]?.getD undef=u61 at hu
    generalize aE.tmps[62]?.getD undef=u62 at hu
    generalize aE.tmps[63]?.getD undef=u63 at hu
    generalize aE.tmps[64]?.getD undef=u64 at hu
    generalize aE.tmps[65]?.getD undef=u65 at hu
    generalize aE.tmps[66]?.getD undef=u66 at hu
    generalize aE.tmps[67]?.getD undef=u67 at hu
    generalize aE.tmps[68]?.getD undef=u68 at hu
    generalize aE.tmps[69]?.getD undef=u69 at hu
    generalize aE.tmps[70]?.getD undef=u70 at hu
    generalize aE.tmps[71]?.getD undef=u71 at hu
    obtain rfl:=act_eq hu (show aE.defers=[] from hf.defers)
    clear hu hk hown hf s2
    go_wp2
    go_ret
    exact⟨rfl,HEND.out⟩
  · obtain⟨mj,tl,hLc,hmj⟩:∃mj tl,Ls=mj :: tl∧H.calls[j].m=mj:=by
      have e:=HLMt.out
      obtain⟨⟨f,hf⟩,_⟩:=good_walk HGD.out
      obtain⟨k,hk,t,_,hk2,hl,_⟩:=walk_next hf (by rw[hj];omega)
      have hkj:k=j:=by rw[hj] at hk2;omega
      subst hkj
      unfold methL at e
      rw[hl,List.map_cons,mOf_at hk] at e
      exact⟨_,_,e.symm,rfl⟩
    obtain⟨gL,oL,haL,hx0⟩:∃gL oL,aL=some ⟨gL,oL,none⟩∧W9.cell? ⟨gL,oL,none⟩=some (.int .i64 mj):=by
      obtain⟨a9,c9,e,_,hc⟩:=(HLS9.out W9 (Below.refl _ _)).at
      injection e with e1 e2 e3
      obtain⟨g,q,h1,h2⟩:=hc 0 (by rw[hLc];simp)
      refine⟨g,q,e1.trans h1,?_⟩
      rw[Nat.add_zero] at h2
      simpa [hLc] using h2
    obtain⟨b,o,vt,vs',hac,hcl⟩:∃b o vt vs',ac=some ⟨b,o,none⟩∧ClAt W2 b (o+j * 6) vt vs' H.calls[j]:=by
      obtain⟨a9,c9,e,_,hcs⟩:=HMH.out.2.c
      cases e
      exact hcs j hjl
    subst haL hac
    have k0:=cell_below b29 hcl.c0
    rw[hmj] at k0
    rw[hj] at y9 HDP
    have e0:=y9.cell 0 rfl
    have e1:=y9.cell 1 rfl
    have e2:=y9.cell 2 rfl
    have e3:=y9.cell 3 rfl
    have e4:=y9.cell 4 rfl
    have x0:=hx0
    have hpos:0<Ls.length:=by rw[hLc];simp
    have hposz:(0:Int)<(Ls.length:Int):=by omega
    have hnil:¬Ls=[]:=by rw[hLc];simp
    have hjz:(j:Int)<(H.calls.length:Int):=by omega
    have HLS:Hid _:=HLS9.out
    clear HLMt HLE hLc hmj hcl hx0 HLS9
    refine wp_region_fs [[],[0],[],[2],[0,1,2,3],[0,1,2,3,4],[0,1,2,3,4,5],[0,1,2,3,4,5],[0,1,2,3,4,5,6,7],[0,1,2,3,4,5],[0,1,2,3,4,5,6,7,8,9],[0,1,2,3,4,5,6,7,8,9,10],[0,1,2,3,4,5,6,7,8,9,10,11],[0,1,2,3,4,5,6,7,8,9,10,11,12],[0,1,2,3,4,5,6,7,8,9,10,11,12,13],[0,1,2,3,4,5,6,7,8,9,10,11,12,13,14],[0,1,2,3,4,5,6,7,8,9,10,11,12,13,14,15],[0,1,2,3,4,5,6,7,8,9,10,11,12,13,14,15,16],[0,1,2,3,4,5,6,7,8,9,10,11,12,13,14,15,16,17],[0,1,2,3,4,5,6,7,8,9,10,11,12,13,14,15,16,17,18],[0,1,2,3,4,5,6,7,8,9,10,11,12,13,14,15,16],[0,1,2,3,4,5,6,7,8,9,10,11,12,13,14,15,16,20],[0,1,2,3,4,5,6,7,8,9,10,11,12,13,14,15,16],[0,1,2,3,4,5,6,7,8,9,10,11,12,13,14,15,16,22],[0,1,2,3,4,5,6,7,8,9,10,11,12,13,14,15,16,20,21,22,23],[0,1,2,3,4,5,6,7,8,9,10,11,12,13,14,15,16,20,21,22,23,24],[0,1,2,3,4,5,6,7,8,9,10,11,12,13,14,15,16,20,21,22,23,24,25],[0,1,2,3,4,5,6,7,8,9,10,11,12,13,14,15,16,17,18,19,20,21,22,23,24,25,26],[0,1,2,3,4,5,6,7,8,9,10,11,12,13,14,15,16,17,18,19,20,21,22,23,24,25,26,27],[0,1,2,3,4,5,6,7,8,9,10,11,12,13,14,15,16,17,18,19,20,21,22,23,24,25,26,27,28],[0,1,2,3,4,5,6,7,8,9,10,11,12,13,14,15,16,17,18,19,20,21,22,23,24,25,26,27,28,29]] [[0],[1],[2],[3],[4],[5],[6],[7],[8],[9],[10],[11],[12],[13],[14],[15],[16],[17],[18],[19],[20],[21],[22],[23],[24],[25],[26],[27],[28],[29],[30]] [[],[],[],[],[],[],[],[],[],[],[],[],[],[],[],[],[],[],[],[],[],[],[],[],[],[],[],[],[],[],[]] [fIs (.slice (some ⟨gL,oL,none⟩) Ls.length cL),fIs (.int .i64 ((Ls.length:Int))),fIs (.agg #[.slice (some ⟨b,o,none⟩) H.calls.length kc,.int .i64 (j:Int),.int .i64 H.born,.slice aD H.said.length kD,.int .i64 H.code]),fIs (.int .i64 ((Ls.length:Int))),fIs (.bool true),fIs (.bool true),fIs (.agg #[.slice aV ms.length cV]),fIs (.agg #[.int .i64 M.cells,.slice q1 M.pages.length l1,.slice q2 M.order.length l2,.int .i64 M.now,.slice q3 M.twins.length l3,.int .i64 M.born,.slice q4 M.said.length l4,.int .i64 M.code]),fGh 8 (fun(x:Option Addr × Nat) l=>l=[.slice x.1 Ls.length x.2]) (fun x w1=>IntRow W9.heap.size w1 (.slice x.1 Ls.length x.2) Ls),fIs (.slice (some ⟨gL,oL,none⟩) Ls.length cL),fIs (.bool true),fIs (.bool true),fIs (.bool true),fIs (.slice (some ⟨gL,oL,none⟩) Ls.length cL),fIs (.int .i64 ((Ls.length:Int))),fIs (.bool false),fIs (.bool false),fIs (.slice (some ⟨gL,oL,none⟩) Ls.length cL),fIs (.pointer (some ⟨gL,oL,none⟩)),fIs (.int .i64 mj),fIs (.pointer (some ⟨(w1.heap.size+1),0,none⟩)),fIs (.slice (some ⟨b,o,none⟩) H.calls.length kc),fIs (.pointer (some ⟨(w1.heap.size+1),1,none⟩)),fIs (.int .i64 (j:Int)),fIs (.pointer (some ⟨b,o+j * 6,none⟩)),fIs (.pointer (some ⟨b,o+j * 6,none⟩)),fIs (.int .i64 mj),fIs (.bool true),fIs (.bool true),fIs (.bool true),fIs (.bool true)] 31 rfl (by kernel_rfl) (by kernel_rfl) ?_ ?_
    · refine all_lt_succ (all_lt_succ (all_lt_succ (all_lt_succ (all_lt_succ (all_lt_succ (all_lt_succ (all_lt_succ (all_lt_succ (all_lt_succ (all_lt_succ (all_lt_succ (all_lt_succ (all_lt_succ (all_lt_succ (all_lt_succ (all_lt_succ (all_lt_succ (all_lt_succ (all_lt_succ (all_lt_succ (all_lt_succ (all_lt_succ (all_lt_succ (all_lt_succ (all_lt_succ (all_lt_succ (all_lt_succ (all_lt_succ (all_lt_succ (all_lt_succ (all_lt_zero) ?_) ?_) ?_) ?_) ?_) ?_) ?_) ?_) ?_) ?_) ?_) ?_) ?_) ?_) ?_) ?_) ?_) ?_) ?_) ?_) ?_) ?_) ?_) ?_) ?_) ?_) ?_) ?_) ?_) ?_) ?_
      · intro a w val own hB hf hown hk
        have s5:=hf.at (d:=5) (v:=.slice (some ⟨gL,oL,none⟩) Ls.length cL) (by kernel_rfl) rfl
        exact rf_pure (v:=.slice (some ⟨gL,oL,none⟩) Ls.length cL) hB rfl rfl (by unfold execOp;go_simp) rfl
      · intro a w val own hB hf hown hk
        obtain⟨k0,f0⟩:=hk 0 (show 0∈[0] by decide)
        have s42:=k0 42 rfl
        rw[fIs_out f0] at s42
        clear k0 f0
        exact rf_pure (v:=.int .i64 ((Ls.length:Int))) hB rfl rfl (by unfold execOp;go_simp) rfl
      · intro a w val own hB hf hown hk
        have s4:=hf.at (d:=4) (v:=.pointer (some ⟨(w1.heap.size+1),0,none⟩)) (by kernel_rfl) rfl
        have ce0:=cell_below hB e0
        have ce1:=cell_below hB e1
        have ce2:=cell_below hB e2
        have ce3:=cell_below hB e3
        have ce4:=cell_below hB e4
        exact rf_pure (v:=.agg #[.slice (some ⟨b,o,none⟩) H.calls.length kc,.int .i64 (j:Int),.int .i64 H.born,.slice aD H.said.length kD,.int .i64 H.code]) hB rfl rfl (by unfold execOp;go_simp) rfl
      · intro a w val own hB hf hown hk
        obtain⟨k2,f2⟩:=hk 2 (show 2∈[2] by decide)
        have s44:=k2 44 rfl
        rw[fIs_out f2] at s44
        clear k2 f2
        exact rf_call hB rfl rfl (by unfold execOp;go_simp) ((HDP.out w hB).mono fun e w' ⟨he,hb⟩=>⟨_,he,hb,rfl⟩)
      · intro a w val own hB hf hown hk
        obtain⟨k1,f1⟩:=hk 1 (show 1∈[0,1,2,3] by decide)
        have s43:=k1 43 rfl
        rw[fIs_out f1] at s43
        clear k1 f1
        obtain⟨k3,f3⟩:=hk 3 (show 3∈[0,1,2,3] by decide)
        have s45:=k3 45 rfl
        rw[fIs_out f3] at s45
        clear k3 f3
        exact rf_pure (v:=.bool true) hB rfl rfl (by unfold execOp;go_simp) rfl
      · intro a w val own hB hf hown hk
        obtain⟨k4,f4⟩:=hk 4 (show 4∈[0,1,2,3,4] by decide)
        have s46:=k4 46 rfl
        rw[fIs_out f4] at s46
        clear k4 f4
        exact rf_pure (v:=.bool true) hB rfl rfl (by unfold execOp;go_simp) rfl
      · intro a w val own hB hf hown hk
        have s3:=hf.at (d:=3) (v:=.pointer (some ⟨w1.heap.size,0,none⟩)) (by kernel_rfl) rfl
        obtain⟨k5,f5⟩:=hk 5 (show 5∈[0,1,2,3,4,5] by decide)
        have s47:=k5 47 rfl
        rw[fIs_out f5] at s47
        clear k5 f5
        have cp0:=cell_below hB p0
        exact rf_pure (v:=.agg #[.slice aV ms.length cV]) hB rfl (wanted_of rfl rfl s47) (by unfold execOp;go_simp) rfl
      · intro a w val own hB hf hown hk
        have s6:=hf.at (d:=6) (v:=.pointer (some ⟨W8.heap.size,0,none⟩)) (by kernel_rfl) rfl
        obtain⟨k5,f5⟩:=hk 5 (show 5∈[0,1,2,3,4,5] by decide)
        have s47:=k5 47 rfl
        rw[fIs_out f5] at s47
        clear k5 f5
        have cm0:=cell_below hB m0
        have cm1:=cell_below hB m1
        have cm2:=cell_below hB m2
        have cm3:=cell_below hB m3
        have cm4:=cell_below hB m4
        have cm5:=cell_below hB m5
        have cm6:=cell_below hB m6
        have cm7:=cell_below hB m7
        exact rf_pure (v:=.agg #[.int .i64 M.cells,.slice q1 M.pages.length l1,.slice q2 M.order.length l2,.int .i64 M.now,.slice q3 M.twins.length l3,.int .i64 M.born,.slice q4 M.said.length l4,.int .i64 M.code]) hB rfl (wanted_of rfl rfl s47) (by unfold execOp;go_simp) rfl
      · intro a w val own hB hf hown hk
        obtain⟨k6,f6⟩:=hk 6 (show 6∈[0,1,2,3,4,5,6,7] by decide)
        have s48:=k6 48 rfl
        rw[fIs_out f6] at s48
        clear k6 f6
        obtain⟨k7,f7⟩:=hk 7 (show 7∈[0,1,2,3,4,5,6,7] by decide)
        have s49:=k7 49 rfl
        rw[fIs_out f7] at s49
        clear k7 f7
        obtain⟨k5,f5⟩:=hk 5 (show 5∈[0,1,2,3,4,5,6,7] by decide)
        have s47:=k5 47 rfl
        rw[fIs_out f5] at s47
        clear k5 f5
        have hzB:=hB.size
        refine rf_call hB rfl (wanted_of rfl rfl s47) (by unfold execOp;go_simp) ((HMM.out w hB).mono ?_)
        rintro e w' ⟨v1,rfl,q1',hb'⟩
        obtain⟨a0,c0,e0',_⟩:=q1'.slice
        subst e0'
        refine⟨_,rfl,hb',(a0,c0),rfl,Made.new fun w1 hs hbw hr=>?_⟩
        exact(q1'.kept hs fun g e=>hr g (q1'.lt g e).1 (q1'.lt g e).2).mono hzB
      · intro a w val own hB hf hown hk
        have s5:=hf.at (d:=5) (v:=.slice (some ⟨gL,oL,none⟩) Ls.length cL) (by kernel_rfl) rfl
        obtain⟨k5,f5⟩:=hk 5 (show 5∈[0,1,2,3,4,5] by decide)
        have s47:=k5 47 rfl
        rw[fIs_out f5] at s47
        clear k5 f5
        exact rf_pure (v:=.slice (some ⟨gL,oL,none⟩) Ls.length cL) hB rfl (wanted_of rfl rfl s47) (by unfold execOp;go_simp) rfl
      · intro a w val own hB hf hown hk
        obtain⟨kc',xc,ec,mc⟩:=hk 8 (show 8∈[0,1,2,3,4,5,6,7,8,9] by decide)
        have vc:=one_eq ec
        have s50:=kc' 50 rfl
        rw[vc] at s50
        have rc:=mc.here hB
        clear kc' ec mc
        obtain⟨k9,f9⟩:=hk 9 (show 9∈[0,1,2,3,4,5,6,7,8,9] by decide)
        have s51:=k9 51 rfl
        rw[fIs_out f9] at s51
        clear k9 f9
        obtain⟨k5,f5⟩:=hk 5 (show 5∈[0,1,2,3,4,5,6,7,8,9] by decide)
        have s47:=k5 47 rfl
        rw[fIs_out f5] at s47
        clear k5 f5
        exact rf_call hB rfl (wanted_of rfl rfl s47) (by unfold execOp;go_simp) ((lmInts_same W9.heap.size W2.heap.size _ _ Ls w rc (HLS.out w hB)).mono fun e w' ⟨he,hb⟩=>⟨_,he,hb,rfl⟩)
      · intro a w val own hB hf hown hk
        obtain⟨k5,f5⟩:=hk 5 (show 5∈[0,1,2,3,4,5,6,7,8,9,10] by decide)
        have s47:=k5 47 rfl
        rw[fIs_out f5] at s47
        clear k5 f5
        obtain⟨k10,f10⟩:=hk 10 (show 10∈[0,1,2,3,4,5,6,7,8,9,10] by decide)
        have s52:=k10 52 rfl
        rw[fIs_out f10] at s52
        clear k10 f10
        exact rf_pure (v:=.bool true) hB rfl rfl (by unfold execOp;go_simp) rfl
      · intro a w val own hB hf hown hk
        obtain⟨k11,f11⟩:=hk 11 (show 11∈[0,1,2,3,4,5,6,7,8,9,10,11] by decide)
        have s53:=k11 53 rfl
        rw[fIs_out f11] at s53
        clear k11 f11
        exact rf_pure (v:=.bool true) hB rfl rfl (by unfold execOp;go_simp) rfl
      · intro a w val own hB hf hown hk
        have s5:=hf.at (d:=5) (v:=.slice (some ⟨gL,oL,none⟩) Ls.length cL) (by kernel_rfl) rfl
        obtain⟨k12,f12⟩:=hk 12 (show 12∈[0,1,2,3,4,5,6,7,8,9,10,11,12] by decide)
        have s54:=k12 54 rfl
        rw[fIs_out f12] at s54
        clear k12 f12
        exact rf_pure (v:=.slice (some ⟨gL,oL,none⟩) Ls.length cL) hB rfl (wanted_of rfl rfl s54) (by unfold execOp;go_simp) rfl
      · intro a w val own hB hf hown hk
        obtain⟨k13,f13⟩:=hk 13 (show 13∈[0,1,2,3,4,5,6,7,8,9,10,11,12,13] by decide)
        have s55:=k13 55 rfl
        rw[fIs_out f13] at s55
        clear k13 f13
        obtain⟨k12,f12⟩:=hk 12 (show 12∈[0,1,2,3,4,5,6,7,8,9,10,11,12,13] by decide)
        have s54:=k12 54 rfl
        rw[fIs_out f12] at s54
        clear k12 f12
        exact rf_pure (v:=.int .i64 ((Ls.length:Int))) hB rfl (wanted_of rfl rfl s54) (by unfold execOp;go_simp) rfl
      · intro a w val own hB hf hown hk
        obtain⟨k14,f14⟩:=hk 14 (show 14∈[0,1,2,3,4,5,6,7,8,9,10,11,12,13,14] by decide)
        have s56:=k14 56 rfl
        rw[fIs_out f14] at s56
        clear k14 f14
        obtain⟨k12,f12⟩:=hk 12 (show 12∈[0,1,2,3,4,5,6,7,8,9,10,11,12,13,14] by decide)
        have s54:=k12 54 rfl
        rw[fIs_out f12] at s54
        clear k12 f12
        exact rf_pure (v:=.bool false) hB rfl (wanted_of rfl rfl s54) (by unfold execOp;go_simp) rfl
      · intro a w val own hB hf hown hk
        obtain⟨k15,f15⟩:=hk 15 (show 15∈[0,1,2,3,4,5,6,7,8,9,10,11,12,13,14,15] by decide)
        have s57:=k15 57 rfl
        rw[fIs_out f15] at s57
        clear k15 f15
        obtain⟨k12,f12⟩:=hk 12 (show 12∈[0,1,2,3,4,5,6,7,8,9,10,11,12,13,14,15] by decide)
        have s54:=k12 54 rfl
        rw[fIs_out f12] at s54
        clear k12 f12
        exact rf_pure (v:=.bool false) hB rfl (wanted_of rfl rfl s54) (by unfold execOp;go_simp) rfl
      · intro a w val own hB hf hown hk
        have s5:=hf.at (d:=5) (v:=.slice (some ⟨gL,oL,none⟩) Ls.length cL) (by kernel_rfl) rfl
        obtain⟨k16,f16⟩:=hk 16 (show 16∈[0,1,2,3,4,5,6,7,8,9,10,11,12,13,14,15,16] by decide)
        have s58:=k16 58 rfl
        rw[fIs_out f16] at s58
        clear k16 f16
        exact rf_pure (v:=.slice (some ⟨gL,oL,none⟩) Ls.length cL) hB rfl (wanted_of rfl rfl s58) (by unfold execOp;go_simp) rfl
      · intro a w val own hB hf hown hk
        obtain⟨k17,f17⟩:=hk 17 (show 17∈[0,1,2,3,4,5,6,7,8,9,10,11,12,13,14,15,16,17] by decide)
        have s59:=k17 59 rfl
        rw[fIs_out f17] at s59
        clear k17 f17
        obtain⟨k16,f16⟩:=hk 16 (show 16∈[0,1,2,3,4,5,6,7,8,9,10,11,12,13,14,15,16,17] by decide)
        have s58:=k16 58 rfl
        rw[fIs_out f16] at s58
        clear k16 f16
        exact rf_pure (v:=.pointer (some ⟨gL,oL,none⟩)) hB rfl (wanted_of rfl rfl s58) (by unfold execOp;go_simp) rfl
      · intro a w val own hB hf hown hk
        obtain⟨k18,f18⟩:=hk 18 (show 18∈[0,1,2,3,4,5,6,7,8,9,10,11,12,13,14,15,16,17,18] by decide)
        have s60:=k18 60 rfl
        rw[fIs_out f18] at s60
        clear k18 f18
        obtain⟨k16,f16⟩:=hk 16 (show 16∈[0,1,2,3,4,5,6,7,8,9,10,11,12,13,14,15,16,17,18] by decide)
        have s58:=k16 58 rfl
        rw[fIs_out f16] at s58
        clear k16 f16
        have cx0:=cell_below hB x0
        exact rf_pure (v:=.int .i64 mj) hB rfl (wanted_of rfl rfl s58) (by unfold execOp;go_simp) rfl
      · intro a w val own hB hf hown hk
        have s4:=hf.at (d:=4) (v:=.pointer (some ⟨(w1.heap.size+1),0,none⟩)) (by kernel_rfl) rfl
        obtain⟨k16,f16⟩:=hk 16 (show 16∈[0,1,2,3,4,5,6,7,8,9,10,11,12,13,14,15,16] by decide)
        have s58:=k16 58 rfl
        rw[fIs_out f16] at s58
        clear k16 f16
        exact rf_pure (v:=.pointer (some ⟨(w1.heap.size+1),0,none⟩)) hB rfl (wanted_of rfl rfl s58) (by unfold execOp;go_simp) rfl
      · intro a w val own hB hf hown hk
        obtain⟨k20,f20⟩:=hk 20 (show 20∈[0,1,2,3,4,5,6,7,8,9,10,11,12,13,14,15,16,20] by decide)
        have s62:=k20 62 rfl
        rw[fIs_out f20] at s62
        clear k20 f20
        obtain⟨k16,f16⟩:=hk 16 (show 16∈[0,1,2,3,4,5,6,7,8,9,10,11,12,13,14,15,16,20] by decide)
        have s58:=k16 58 rfl
        rw[fIs_out f16] at s58
        clear k16 f16
        have ce0:=cell_below hB e0
        exact rf_pure (v:=.slice (some ⟨b,o,none⟩) H.calls.length kc) hB rfl (wanted_of rfl rfl s58) (by unfold execOp;go_simp) rfl
      · intro a w val own hB hf hown hk
        have s4:=hf.at (d:=4) (v:=.pointer (some ⟨(w1.heap.size+1),0,none⟩)) (by kernel_rfl) rfl
        obtain⟨k16,f16⟩:=hk 16 (show 16∈[0,1,2,3,4,5,6,7,8,9,10,11,12,13,14,15,16] by decide)
        have s58:=k16 58 rfl
        rw[fIs_out f16] at s58
        clear k16 f16
        exact rf_pure (v:=.pointer (some ⟨(w1.heap.size+1),1,none⟩)) hB rfl (wanted_of rfl rfl s58) (by unfold execOp;go_simp) rfl
      · intro a w val own hB hf hown hk
        obtain⟨k22,f22⟩:=hk 22 (show 22∈[0,1,2,3,4,5,6,7,8,9,10,11,12,13,14,15,16,22] by decide)
        have s64:=k22 64 rfl
        rw[fIs_out f22] at s64
        clear k22 f22
        obtain⟨k16,f16⟩:=hk 16 (show 16∈[0,1,2,3,4,5,6,7,8,9,10,11,12,13,14,15,16,22] by decide)
        have s58:=k16 58 rfl
        rw[fIs_out f16] at s58
        clear k16 f16
        have ce1:=cell_below hB e1
        exact rf_pure (v:=.int .i64 (j:Int)) hB rfl (wanted_of rfl rfl s58) (by unfold execOp;go_simp) rfl
      · intro a w val own hB hf hown hk
        obtain⟨k21,f21⟩:=hk 21 (show 21∈[0,1,2,3,4,5,6,7,8,9,10,11,12,13,14,15,16,20,21,22,23] by decide)
        have s63:=k21 63 rfl
        rw[fIs_out f21] at s63
        clear k21 f21
        obtain⟨k23,f23⟩:=hk 23 (show 23∈[0,1,2,3,4,5,6,7,8,9,10,11,12,13,14,15,16,20,21,22,23] by decide)
        have s65:=k23 65 rfl
        rw[fIs_out f23] at s65
        clear k23 f23
        obtain⟨k16,f16⟩:=hk 16 (show 16∈[0,1,2,3,4,5,6,7,8,9,10,11,12,13,14,15,16,20,21,22,23] by decide)
        have s58:=k16 58 rfl
        rw[fIs_out f16] at s58
        clear k16 f16
        exact rf_pure (v:=.pointer (some ⟨b,o+j * 6,none⟩)) hB rfl (wanted_of rfl rfl s58) (by unfold execOp;go_simp) rfl
      · intro a w val own hB hf hown hk
        obtain⟨k24,f24⟩:=hk 24 (show 24∈[0,1,2,3,4,5,6,7,8,9,10,11,12,13,14,15,16,20,21,22,23,24] by decide)
        have s66:=k24 66 rfl
        rw[fIs_out f24] at s66
        clear k24 f24
        obtain⟨k16,f16⟩:=hk 16 (show 16∈[0,1,2,3,4,5,6,7,8,9,10,11,12,13,14,15,16,20,21,22,23,24] by decide)
        have s58:=k16 58 rfl
        rw[fIs_out f16] at s58
        clear k16 f16
        exact rf_pure (v:=.pointer (some ⟨b,o+j * 6,none⟩)) hB rfl (wanted_of rfl rfl s58) (by unfold execOp;go_simp) rfl
      · intro a w val own hB hf hown hk
        obtain⟨k25,f25⟩:=hk 25 (show 25∈[0,1,2,3,4,5,6,7,8,9,10,11,12,13,14,15,16,20,21,22,23,24,25] by decide)
        have s67:=k25 67 rfl
        rw[fIs_out f25] at s67
        clear k25 f25
        obtain⟨k16,f16⟩:=hk 16 (show 16∈[0,1,2,3,4,5,6,7,8,9,10,11,12,13,14,15,16,20,21,22,23,24,25] by decide)
        have s58:=k16 58 rfl
        rw[fIs_out f16] at s58
        clear k16 f16
        have ck0:=cell_below hB k0
        exact rf_pure (v:=.int .i64 mj) hB rfl (wanted_of rfl rfl s58) (by unfold execOp;go_simp) rfl
      · intro a w val own hB hf hown hk
        obtain⟨k19,f19⟩:=hk 19 (show 19∈[0,1,2,3,4,5,6,7,8,9,10,11,12,13,14,15,16,17,18,19,20,21,22,23,24,25,26] by decide)
        have s61:=k19 61 rfl
        rw[fIs_out f19] at s61
        clear k19 f19
        obtain⟨k26,f26⟩:=hk 26 (show 26∈[0,1,2,3,4,5,6,7,8,9,10,11,12,13,14,15,16,17,18,19,20,21,22,23,24,25,26] by decide)
        have s68:=k26 68 rfl
        rw[fIs_out f26] at s68
        clear k26 f26
        obtain⟨k16,f16⟩:=hk 16 (show 16∈[0,1,2,3,4,5,6,7,8,9,10,11,12,13,14,15,16,17,18,19,20,21,22,23,24,25,26] by decide)
        have s58:=k16 58 rfl
        rw[fIs_out f16] at s58
        clear k16 f16
        exact rf_pure (v:=.bool true) hB rfl (wanted_of rfl rfl s58) (by unfold execOp;go_simp) rfl
      · intro a w val own hB hf hown hk
        obtain⟨k16,f16⟩:=hk 16 (show 16∈[0,1,2,3,4,5,6,7,8,9,10,11,12,13,14,15,16,17,18,19,20,21,22,23,24,25,26,27] by decide)
        have s58:=k16 58 rfl
        rw[fIs_out f16] at s58
        clear k16 f16
        obtain⟨k27,f27⟩:=hk 27 (show 27∈[0,1,2,3,4,5,6,7,8,9,10,11,12,13,14,15,16,17,18,19,20,21,22,23,24,25,26,27] by decide)
        have s69:=k27 69 rfl
        rw[fIs_out f27] at s69
        clear k27 f27
        obtain⟨k12,f12⟩:=hk 12 (show 12∈[0,1,2,3,4,5,6,7,8,9,10,11,12,13,14,15,16,17,18,19,20,21,22,23,24,25,26,27] by decide)
        have s54:=k12 54 rfl
        rw[fIs_out f12] at s54
        clear k12 f12
        exact rf_pure (v:=.bool true) hB rfl (wanted_of rfl rfl s54) (by unfold execOp;go_simp) rfl
      · intro a w val own hB hf hown hk
        obtain⟨k12,f12⟩:=hk 12 (show 12∈[0,1,2,3,4,5,6,7,8,9,10,11,12,13,14,15,16,17,18,19,20,21,22,23,24,25,26,27,28] by decide)
        have s54:=k12 54 rfl
        rw[fIs_out f12] at s54
        clear k12 f12
        obtain⟨k28,f28⟩:=hk 28 (show 28∈[0,1,2,3,4,5,6,7,8,9,10,11,12,13,14,15,16,17,18,19,20,21,22,23,24,25,26,27,28] by decide)
        have s70:=k28 70 rfl
        rw[fIs_out f28] at s70
        clear k28 f28
        exact rf_pure (v:=.bool true) hB rfl rfl (by unfold execOp;go_simp) rfl
      · intro a w val own hB hf hown hk
        obtain⟨k29,f29⟩:=hk 29 (show 29∈[0,1,2,3,4,5,6,7,8,9,10,11,12,13,14,15,16,17,18,19,20,21,22,23,24,25,26,27,28,29] by decide)
        have s71:=k29 71 rfl
        rw[fIs_out f29] at s71
        clear k29 f29
        exact rf_pure (v:=.bool true) hB rfl rfl (by unfold execOp;go_simp) rfl
    intro aE wE val own hB hf hown hk
    obtain⟨kz,fz⟩:=hk 30 (by decide)
    have s2:=kz 2 rfl
    rw[fIs_out fz] at s2
    clear kz fz
    have HEND:Hid (Below w.heap.size w wE):=hB9.trans (hB.mono z9)
    have hu:=frame_sets hf [42,43,44,45,46,47,48,49,50,51,52,53,54,55,56,57,58,59,60,61,62,63,64,65,66,67,68,69,70,71,2] (by kernel_rfl)
    dsimp only at hu
    simp only[List.foldl_cons,List.foldl_nil,List.setIfInBounds_toArray,List.set_cons_succ,List.set_cons_zero] at hu
    rw[s2] at hu
    generalize aE.tmps[42]?.getD undef=u42 at hu
    generalize aE.tmps[43]?.getD undef=u43 at hu
    generalize aE.tmps[44]?.getD undef=u44 at hu
    generalize aE.tmps[45]?.getD undef=u45 at hu
    generalize aE.tmps[46]?.getD undef=u46 at hu
    generalize aE.tmps[47]?.getD undef=u47 at hu
    generalize aE.tmps[48]?.getD undef=u48 at hu
    generalize aE.tmps[49]?.getD undef=u49 at hu
    generalize aE.tmps[50]?.getD undef=u50 at hu
    generalize aE.tmps[51]?.getD undef=u51 at hu
    generalize aE.tmps[52]?.getD undef=u52 at hu
    generalize aE.tmps[53]?.getD undef=u53 at hu
    generalize aE.tmps[54]?.getD undef=u54 at hu
    generalize aE.tmps[55]?.getD undef=u55 at hu
    generalize aE.tmps[56]?.getD undef=u56 at hu
    generalize aE.tmps[57]?.getD undef=u57 at hu
    generalize aE.tmps[58]?.getD undef=u58 at hu
    generalize aE.tmps[59]?.getD undef=u59 at hu
    generalize aE.tmps[60]?.getD undef=u60 at hu
    generalize aE.tmps[61]?.getD undef=u61 at hu
    generalize aE.tmps[62]?.getD undef=u62 at hu
    generalize aE.tmps[63]?.getD undef=u63 at hu
    generalize aE.tmps[64]?.getD undef=u64 at hu
    generalize aE.tmps[65]?.getD undef=u65 at hu
    generalize aE.tmps[66]?.getD undef=u66 at hu
    generalize aE.tmps[67]?.getD undef=u67 at hu
    generalize aE.tmps[68]?.getD undef=u68 at hu
    generalize aE.tmps[69]?.getD undef=u69 at hu
    generalize aE.tmps[70]?.getD undef=u70 at hu
    generalize aE.tmps[71]?.getD undef=u71 at hu
    obtain rfl:=act_eq hu (show aE.defers=[] from hf.defers)
    clear hu hk hown hf s2
    go_wp2
    go_ret
    exact⟨rfl,HEND.out⟩
end Go.Proofs.YtjbgpcileapogaaGreat
