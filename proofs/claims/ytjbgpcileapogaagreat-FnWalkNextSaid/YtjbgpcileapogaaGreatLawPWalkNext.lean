/-
  The law FnWalkNext, walked: whatever bytes come in, it answers true and writes to nothing that was there.
-/
import Derived.Test.YtjbgpcileapogaaGreatDrawHeap
import Derived.Test.YtjbgpcileapogaaGreatNext
import Derived.Test.YtjbgpcileapogaaGreatMOk6
import Derived.Test.YtjbgpcileapogaaGreatMvFacts2
import Derived.Test.YtjbgpcileapogaaGreatQB
namespace Go.Proofs.YtjbgpcileapogaaGreat
open Go.RowKit
theorem mvNext {ms:Ms} {h:Hp} (n:Nat) (c:Int) (vq vp vo vt vs:Value) (w:World) (hq:MethsAt w vq ms) (hM:MachAt w vp vo vt vs (mvIn h n c)) (g:Good ms h) (hr:roomsB (n:Int) c=true) (hs:h.said.length≤1048576) (hc:h.code=0) :
    Calls Tryz.prog 12 #[.agg #[vq],.agg (mcCells vp vo vt vs (mvIn h n c)).toArray] w fun e w'=>e=.returned (.tuple #[.agg #[.int .i64 (nextOf ms h).1,.int .i64 (nextOf ms h).2],.bool (hasNext ms h)])∧Below w.heap.size w w':=by
  obtain⟨j,m,pc,hj,hm,en,em,ep,e1,e2⟩:=next_at (good_iff.2 g) hc
  have hok:=mvIn_ok g hr
  have hsm:=mvIn_small g hr hs
  have h1:=(roomsB_true hr).1
  obtain⟨k,rfl⟩:∃k,n=k+1:=⟨n - 1,by omega⟩
  rw[mvIn_run hj en] at hM hok hsm ⊢
  rw[e1,e2]
  have htl:(mvRun h k c j h.calls[j]).twins.length≤800000:=by
    have:=(ok_parts (good_iff.2 g)).n30
    show((h.calls.map twC).set j twGone).length≤_
    simp
    omega
  exact implMachNext_run vq vp vo vt vs ms (mvRun h k c j h.calls[j]) ⟨h.calls[j].m,h.calls[j].pc,(j:Int),h.calls[j].temps,h.calls[j].stack⟩ m pc 0 0 w hq hM hsm htl hok hc (by simp[mvRun]) rfl (Nat.zero_lt_one) rfl rfl em hm ep
set_option maxRecDepth 100000 in
set_option maxHeartbeats 4000000 in
theorem lawWalkNext_any (w:World) (a:Option Addr) (len cap:Nat) (h:BytesAt w a len cap) :
    Calls Tryz.prog 3 #[.slice a len cap] w fun e w'=>e=.returned (.bool true)∧Below w.heap.size w w':=by
  have hc:=h.1
  have hm:=h.2.1
  unfold maxLen at hm
  have HB:Hid (BytesAt w a len cap):=h
  clear h
  by_cases hl:1048576<len
  · have hlz:(1048576:Int)<(len:Int):=by omega
    go_enter Tryz.func3,Tryz.ntmps3
    go_wp2
    go_ret
    exact⟨rfl,Below.refl _ _⟩
  have hlz:(len:Int)≤1048576:=by omega
  go_enter Tryz.func3,Tryz.ntmps3
  go_wp2_with fail
  refine(drawHeapNext_any _ a len cap HB.out).mono ?_
  rintro e w1 ⟨v,vc,vs,ms,H,rfl,hD,hB1⟩
  obtain⟨hM1,hH1⟩:=hD.st.here
  have l30:=hD.fine.l30
  have sd100:=hD.fine.sd
  clear hD
  obtain⟨aV,cV,hvV,_⟩:=id hM1
  obtain⟨ac,kc,hvc⟩:=hH1.c.shape
  obtain⟨aD,kD,hvs⟩:=hH1.s.shape
  subst hvV hvc hvs
  have z1:=hB1.size
  clear HB
  unfold hpCells
  go_upto_region 4 with fail
  refine wp_gen (fun W=>Below w1.heap.size w1 W∧Bx W w1.heap.size 25 [.slice aV ms.length cV]∧Bx W (w1.heap.size+1) 29 [.slice ac H.calls.length kc,.int .i64 H.now,.int .i64 H.born,.slice aD H.said.length kD,.int .i64 H.code]) ⟨((Below.refl _ _).alloc (Nat.le_refl _) _).alloc (by simp) _,(Bx.new _ _ _).alloc _,Bx.newAt _ _ _ (by simp)⟩ ?_
  rintro W2 ⟨t2,x2,y2⟩
  have hB2:=hB1.trans (t2.mono z1)
  have z2:=hB2.size
  have HMH:Hid (MethsAt W2 (.slice aV ms.length cV) ms∧HeapAt W2 (.slice ac H.calls.length kc) (.slice aD H.said.length kD) H):=⟨hM1.below t2,hH1.below t2⟩
  clear hM1 hH1 hB1
  obtain⟨⟨na,nb⟩,hnab⟩:∃q:Int × Int,nextOf ms H=q:=⟨_,rfl⟩
  obtain⟨nz,hnz⟩:∃q:Bool,hasNext ms H=q:=⟨_,rfl⟩
  have HNX:Hid (nextOf ms H=(na,nb)∧hasNext ms H=nz):=⟨hnab,hnz⟩
  have HNS:Hid (∀W,Below W2.heap.size W2 W→Calls Tryz.prog 9 #[.agg #[.slice aV ms.length cV],.agg #[.slice ac H.calls.length kc,.int .i64 H.now,.int .i64 H.born,.slice aD H.said.length kD,.int .i64 H.code]] W fun e w'=>e=.returned (.tuple #[.agg #[.int .i64 na,.int .i64 nb],.bool nz])∧Below W.heap.size W w'):=fun W hb=>by
    have q:=specHeapNext_any _ _ _ ms H W (HMH.out.1.below hb) (HMH.out.2.below hb) (by omega)
    rw[hnab,hnz] at q
    exact q
  have HNI:Hid (∀W,Below W2.heap.size W2 W→Calls Tryz.prog 10 #[.agg #[.slice aV ms.length cV],.agg #[.slice ac H.calls.length kc,.int .i64 H.now,.int .i64 H.born,.slice aD H.said.length kD,.int .i64 H.code]] W fun e w'=>e=.returned (.tuple #[.agg #[.int .i64 na,.int .i64 nb],.bool nz])∧Below W.heap.size W w'):=fun W hb=>by
    have q:=implHeapNext_any _ _ _ ms H W (HMH.out.1.below hb) (HMH.out.2.below hb) (by omega)
    rw[hnab,hnz] at q
    exact q
  clear hnab hnz
  have p0:=x2.cell 0 rfl
  obtain⟨d0,d1,d2,d3,d4⟩:W2.cell? ⟨w1.heap.size+1,0,none⟩=some (.slice ac H.calls.length kc)∧W2.cell? ⟨w1.heap.size+1,1,none⟩=some (.int .i64 H.now)∧W2.cell? ⟨w1.heap.size+1,2,none⟩=some (.int .i64 H.born)∧W2.cell? ⟨w1.heap.size+1,3,none⟩=some (.slice aD H.said.length kD)∧W2.cell? ⟨w1.heap.size+1,4,none⟩=some (.int .i64 H.code):=⟨y2.cell 0 rfl,y2.cell 1 rfl,y2.cell 2 rfl,y2.cell 3 rfl,y2.cell 4 rfl⟩
  go_wp2_with fail
  refine(HNS.out _ (Below.refl _ _)).mono ?_
  rintro e W3 ⟨rfl,t3⟩
  have x3:=x2.below t3
  have y3:=y2.below t3
  clear p0 d0 d1 d2 d3 d4
  have z3:=t3.size
  go_upto_region 5 with fail
  refine wp_gen (fun W=>Below W3.heap.size W3 W∧Bx W W3.heap.size 33 [.int .i64 na,.int .i64 nb]) ⟨(Below.refl _ _).alloc (Nat.le_refl _) _,Bx.new _ _ _⟩ ?_
  rintro W4 ⟨t4,o4⟩
  have x4:=x3.below t4
  have y4:=y3.below t4
  have b4:=t3.trans (t4.mono z3)
  have p0:=x4.cell 0 rfl
  have d0:=y4.cell 0 rfl
  have d1:=y4.cell 1 rfl
  have d2:=y4.cell 2 rfl
  have d3:=y4.cell 3 rfl
  have d4:=y4.cell 4 rfl
  go_wp2_with fail
  refine(HNI.out _ b4).mono ?_
  rintro e W5 ⟨rfl,t5⟩
  have x5:=x4.below t5
  have y5:=y4.below t5
  have o5:=o4.below t5
  have b5:=b4.trans (t5.mono b4.size)
  have z5:=b5.size
  clear p0 d0 d1 d2 d3 d4
  go_upto_region 6 with fail
  refine wp_gen (fun W=>Below W5.heap.size W5 W∧Bx W W5.heap.size 33 [.int .i64 na,.int .i64 nb]) ⟨(Below.refl _ _).alloc (Nat.le_refl _) _,Bx.new _ _ _⟩ ?_
  rintro W6 ⟨t6,u6⟩
  have x6:=x5.below t6
  have y6:=y5.below t6
  have o6:=o5.below t6
  have b6:=b5.trans (t6.mono z5)
  have z6:=b6.size
  have e0:=o6.cell 0 rfl
  have e1:=o6.cell 1 rfl
  have f0:=u6.cell 0 rfl
  have f1:=u6.cell 1 rfl
  cases nz
  · go_wp2
    go_ret
    exact⟨rfl,hB2.trans (b6.mono z2)⟩
  have hrn:runsH ms H=true:=by
    have e:=HNX.out.2
    unfold hasNext at e
    simp only[Bool.and_eq_true] at e
    exact e.1
  have hok:heapOk ms H=true:=by
    unfold runsH at hrn
    simp only[Bool.and_eq_true] at hrn
    exact hrn.1
  have hcode:H.code=0:=by
    unfold runsH at hrn
    simp only[Bool.and_eq_true,decide_eq_true_iff] at hrn
    exact hrn.2
  obtain⟨j,m,pc,hj,hmm,en,em,ep,e1',e2'⟩:=next_at hok hcode
  have hpcl:pc<ms[m].2.2.length:=by
    have e:=e2'.symm.trans HNX.out.2
    simpa using e
  have hopv:ms[m].2.2[pc]=(na,nb):=by
    have e:=e1'.symm.trans HNX.out.1
    rw[←e]
    simp[hpcl]
  have GD:=good_iff.1 hok
  have HGD:Hid (Good ms H∧H.code=0):=⟨GD,hcode⟩
  clear hrn hok hcode e1' e2' GD HNS HNI
  obtain⟨b,o,vt,vs',hac,hcl⟩:∃b o vt vs',ac=some ⟨b,o,none⟩∧ClAt W2 b (o+j * 6) vt vs' H.calls[j]:=by
    obtain⟨a9,c9,e,_,hcs⟩:=HMH.out.2.c
    cases e
    exact hcs j hj
  subst hac
  obtain⟨bm,om,vo,ham,hmo⟩:∃bm om vo,aV=some ⟨bm,om,none⟩∧W2.cell? ⟨bm,om+m * 3+2,none⟩=some vo∧OpsAt W2 vo ms[m].2.2:=by
    obtain⟨a9,c9,e,_,hcs⟩:=HMH.out.1
    cases e
    obtain⟨bm,om,vo,h1,_,_,h4,h5⟩:=hcs m hmm
    exact⟨bm,om,vo,h1,h4,h5⟩
  subst ham
  obtain⟨hmo,hops⟩:=hmo
  obtain⟨aO,cO,hvO,hlO,hcO⟩:=id hops
  subst hvO
  obtain⟨bo,oo,haO,hq0,hq1⟩:=hcO pc hpcl
  subst haO
  rw[hopv] at hq0 hq1
  dsimp only at hq0 hq1
  obtain⟨a1,k1,hv1⟩:=hcl.t.shape
  obtain⟨a2,k2,hv2⟩:=hcl.s.shape
  subst hv1 hv2
  have c0:=cell_below b6 hcl.c0
  have c1:=cell_below b6 hcl.c1
  have c2:=cell_below b6 hcl.c2
  have c3:=cell_below b6 hcl.c3
  have c4:=cell_below b6 hcl.c4
  have c5:=cell_below b6 hcl.c5
  rw[em] at c0
  rw[ep] at c1
  rw[en] at y6
  have d0:=y6.cell 0 rfl
  have d1:=y6.cell 1 rfl
  have hjz:(j:Int)<(H.calls.length:Int):=by omega
  obtain⟨Q,hQ⟩:∃Q,H.calls[j]=Q:=⟨_,rfl⟩
  rw[hQ] at c2 c3 c4 c5
  clear hcl hcO hQ em ep hopv
  go_upto_region 9 with fail
  refine wp_gen (fun W=>Below W6.heap.size W6 W∧Bx W W6.heap.size 37 [.int .i64 (m:Int),.int .i64 (pc:Int),.slice a1 Q.temps.length k1,.slice a2 Q.stack.length k2,.int .i64 Q.sender,.bool Q.dead]) ⟨(Below.refl _ _).alloc (Nat.le_refl _) _,Bx.new _ _ _⟩ ?_
  rintro W7 ⟨t7,v7⟩
  have x7:=x6.below t7
  have y7:=y6.below t7
  have u7:=u6.below t7
  have b7:=b6.trans (t7.mono z6)
  have z7:=b7.size
  clear c0 c1 c2 c3 c4 c5 d0 d1 e0 e1 f0 f1
  have p0:=x7.cell 0 rfl
  have d0:=y7.cell 0 rfl
  have d1:=y7.cell 1 rfl
  have d2:=y7.cell 2 rfl
  have d3:=y7.cell 3 rfl
  have d4:=y7.cell 4 rfl
  have HMI:=implMoveIn_any _ _ _ ms H 2 30 W7 (HMH.out.1.below b7) (HMH.out.2.below b7) (by omega) (by omega)
  have hyes:(heapOk ms H && roomsB 2 30)=true:=by rw[good_iff.2 HGD.out.1];rfl
  rw[hyes] at HMI
  unfold hpCells at HMI
  rw[en] at HMI
  have HMI':Hid _:=HMI
  clear HMI hyes
  go_wp2_with fail
  refine Calls.mono HMI'.out ?_
  rintro e W8 ⟨t8,hdis⟩
  obtain⟨v1,v2,v3,v4,he,hMA⟩:∃v1 v2 v3 v4,e=.returned (.tuple #[.agg (mcCells v1 v2 v3 v4 (mvIn H 2 30)).toArray,.bool true])∧MachAt W8 v1 v2 v3 v4 (mvIn H 2 30):=by
    rcases hdis with⟨hno,_⟩ | ⟨_,h⟩
    · cases hno
    · exact h
  subst he
  have HMA:Hid (MachAt W8 v1 v2 v3 v4 (mvIn H 2 30)):=hMA
  obtain⟨s1,l1,hs1⟩:=hMA.p.shape
  obtain⟨s2,l2,hs2⟩:=hMA.o.shape
  obtain⟨s3,l3,hs3⟩:=hMA.t.shape
  obtain⟨s4,l4,hs4⟩:=hMA.s.shape
  subst hs1 hs2 hs3 hs4
  clear hMA hdis
  have x8:=x7.below t8
  have u8:=u7.below t8
  have v8:=v7.below t8
  have b8:=b7.trans (t8.mono z7)
  have z8:=b8.size
  clear p0 d0 d1 d2 d3 d4 HMI'
  have HNM:Hid (∀W,Below W8.heap.size W8 W→Calls Tryz.prog 12 #[.agg #[.slice (some ⟨bm,om,none⟩) ms.length cV],.agg (mcCells (.slice s1 (mvIn H 2 30).pages.length l1) (.slice s2 (mvIn H 2 30).order.length l2) (.slice s3 (mvIn H 2 30).twins.length l3) (.slice s4 (mvIn H 2 30).said.length l4) (mvIn H 2 30)).toArray] W fun e w'=>e=.returned (.tuple #[.agg #[.int .i64 na,.int .i64 nb],.bool true])∧Below W.heap.size W w'):=fun W hb=>by
    have q:=mvNext 2 30 _ _ _ _ _ W (HMH.out.1.below (b8.trans (hb.mono z8))) (HMA.out.below hb) HGD.out.1 rfl (by omega) HGD.out.2
    rw[HNX.out.1,HNX.out.2] at q
    exact q
  generalize mvIn H 2 30=M at *
  unfold mcCells at *
  go_upto_region 10 with fail
  refine wp_gen (fun W=>Below W8.heap.size W8 W∧Bx W W8.heap.size 42 [.int .i64 M.cells,.slice s1 M.pages.length l1,.slice s2 M.order.length l2,.int .i64 M.now,.slice s3 M.twins.length l3,.int .i64 M.born,.slice s4 M.said.length l4,.int .i64 M.code]) ⟨(Below.refl _ _).alloc (Nat.le_refl _) _,Bx.new _ _ _⟩ ?_
  rintro W9 ⟨t9,m9⟩
  have x9:=x8.below t9
  have u9:=u8.below t9
  have v9:=v8.below t9
  have b9:=b8.trans (t9.mono z8)
  have z9:=b9.size
  have p0:=x9.cell 0 rfl
  obtain⟨⟨g0,g1,g2,g3,g4,g5,g6,g7⟩,_⟩:=bx8 m9
  have HN9:=HNM.out W9 t9
  go_wp2_with fail
  refine HN9.mono ?_
  rintro e W10 ⟨rfl,t10⟩
  have x10:=x9.below t10
  have u10:=u9.below t10
  have v10:=v9.below t10
  have b10:=b9.trans (t10.mono z9)
  have z10:=b10.size
  clear p0 g0 g1 g2 g3 g4 g5 g6 g7 HN9
  go_upto_region 11 with fail
  refine wp_gen (fun W=>Below W10.heap.size W10 W∧Bx W W10.heap.size 33 [.int .i64 na,.int .i64 nb]) ⟨(Below.refl _ _).alloc (Nat.le_refl _) _,Bx.new _ _ _⟩ ?_
  rintro W11 ⟨t11,n11⟩
  have x11:=x10.below t11
  have u11:=u10.below t11
  have v11:=v10.below t11
  have b11:=b10.trans (t11.mono z10)
  have p0:=x11.cell 0 rfl
  have f0:=u11.cell 0 rfl
  have f1:=u11.cell 1 rfl
  have h0:=n11.cell 0 rfl
  have h1:=n11.cell 1 rfl
  have k0:=v11.cell 0 rfl
  have k1':=v11.cell 1 rfl
  have q0:=cell_below b11 hmo
  have q1:=cell_below b11 hq0
  have q2:=cell_below b11 hq1
  have hmz:(m:Int)<(ms.length:Int):=by omega
  have hpz:(pc:Int)<(ms[m].2.2.length:Int):=by omega
  have HFIN:Hid (Below w.heap.size w W11):=hB2.trans (b11.mono z2)
  have z11:=b11.size
  have P0:=Gr.cell p0
  have F0:=Gr.cell f0
  have F1:=Gr.cell f1
  have H0:=Gr.cell h0
  have H1:=Gr.cell h1
  have K0:=Gr.cell k0
  have K1:=Gr.cell k1'
  have Q0:=Gr.cell q0
  have Q1:=Gr.cell q1
  have Q2:=Gr.cell q2
  clear hmo hq0 hq1 hops p0 f0 f1 h0 h1 k0 k1' q0 q1 q2
  refine WQ.region (by kernel_rfl) (by kernel_rfl) ?_
  iterate 22 (refine WQ.step (fun K hK=>?_);go_simp;first
    | (with_reducible refine hK _ ?_;clear hK K)
    | (with_reducible refine quiet_eq ?_;refine hK _ ?_;clear hK K)
    | (simp(contextual:=true) only [P0,F0,F1,H0,H1,K0,K1,Q0,Q1,Q2,Result.andThen_ok,true_and];with_reducible refine quiet_eq ?_;refine hK _ ?_;clear hK K))
  refine WQ.nil ?_
  intro W12 hG
  have HF2:Hid (Below w.heap.size w W12):=HFIN.out.trans (hG.to.mono (by have:=HFIN.out.size;omega))
  go_wp2
  go_ret
  exact⟨rfl,HF2.out⟩
end Go.Proofs.YtjbgpcileapogaaGreat
