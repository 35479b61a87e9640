/-
  The program's MachOk, whole. (Written by mkmo6.py.)
-/
import Derived.Test.YtjbgpcileapogaaGreatMOk5
import Derived.Test.YtjbgpcileapogaaGreatMThing6
import Derived.Test.YtjbgpcileapogaaGreatStepS
import Derived.Test.YtjbgpcileapogaaGreatPiece
namespace Go.Proofs.YtjbgpcileapogaaGreat
open Go.RowKit
def headM (ms:List (Int × Int × List (Int × Int))) (m:Mc):Bool :=
  progOk ms && (roomsB m.pages.length m.cells && (orderB m && (nowB m && (inR m.born 1 30 && (decide ((callsN m:Int)≤m.born) && (valsOk ms.length m.said && (inR m.code 0 3 && ((m.code == 1) == (m.now == -1)))))))))
noncomputable def machB (ms:List (Int × Int × List (Int × Int))) (m:Mc):Bool :=
  headM ms m && ((List.range m.pages.length).all (fun i=>pageB ms m i (pgAt m (i:Int))) && ((List.range m.twins.length).all (fun j=>twinB ms m j (twAt m (j:Int))) && waitP (thingsM m).calls (thingsM m).now))
theorem machB_head {ms:List (Int × Int × List (Int × Int))} {m:Mc} (h:headM ms m=false):machB ms m=false:=by unfold machB;rw[h];rfl
theorem machB_page {ms:List (Int × Int × List (Int × Int))} {m:Mc} {k:Nat} (hk:k<m.pages.length) (h:pageB ms m k m.pages[k]=false):machB ms m=false:=by
  unfold machB
  rw[show(List.range m.pages.length).all (fun i=>pageB ms m i (pgAt m (i:Int)))=false from List.all_eq_false.2 ⟨k,List.mem_range.2 hk,by rw[pgAt_at hk,h];simp⟩]
  simp
theorem machB_twin {ms:List (Int × Int × List (Int × Int))} {m:Mc} {k:Nat} (hk:k<m.twins.length) (h:twinB ms m k m.twins[k]=false):machB ms m=false:=by
  unfold machB
  rw[show(List.range m.twins.length).all (fun i=>twinB ms m i (twAt m (i:Int)))=false from List.all_eq_false.2 ⟨k,List.mem_range.2 hk,by rw[twAt_at hk,h];simp⟩]
  simp
theorem machB_end {ms:List (Int × Int × List (Int × Int))} {m:Mc} (h0:headM ms m=true) (h1:∀k,(hk:k<m.pages.length)→pageB ms m k m.pages[k]=true) (h2:∀k,(hk:k<m.twins.length)→twinB ms m k m.twins[k]=true):machB ms m=waitP (thingsM m).calls (thingsM m).now:=by
  unfold machB
  rw[h0,show(List.range m.pages.length).all (fun i=>pageB ms m i (pgAt m (i:Int)))=true from List.all_eq_true.2 fun i hi=>by rw[pgAt_at (List.mem_range.1 hi)];exact h1 i (List.mem_range.1 hi),
    show(List.range m.twins.length).all (fun i=>twinB ms m i (twAt m (i:Int)))=true from List.all_eq_true.2 fun i hi=>by rw[twAt_at (List.mem_range.1 hi)];exact h2 i (List.mem_range.1 hi)]
  simp
theorem framesTo_most {ps:List Pg} {B:Nat} (h:∀i,(hi:i<ps.length)→ps[i].frames.length≤B):∀k,k≤ps.length→framesTo ps k≤k * B
  | 0,_=>by simp[framesTo_zero]
  | k+1,hk=>by
    rw[framesTo_succ (show k<ps.length from hk),Nat.succ_mul]
    have:=framesTo_most h k (by omega)
    have:=h k hk
    omega
theorem clOk_lens {ms:List (Int × Int × List (Int × Int))} {n:Nat} {c:Cl} (hp:progOk ms=true) (h:clOk ms n c=true):c.temps.length≤1000∧c.stack.length≤1000:=by
  simp only[clOk,Bool.and_eq_true,inR_true,decide_eq_true_iff] at h
  obtain⟨⟨⟨⟨h1,_⟩,h2⟩,h3⟩,_⟩:=h
  simp only[progOk,Bool.and_eq_true] at hp
  obtain⟨k,hk⟩:=Int.eq_ofNat_of_zero_le h1.1
  rw[hk] at h2
  have hl:k<ms.length:=by omega
  have:=List.all_eq_true.1 hp.2 ms[k] (List.getElem_mem hl)
  simp only[methOk,Bool.and_eq_true,inR_true,decide_eq_true_iff] at this
  simp only[Int.toNat_natCast,List.getD_eq_getElem?_getD,List.getElem?_eq_getElem hl,Option.getD_some] at h2
  omega
theorem clOk_vals {ms:List (Int × Int × List (Int × Int))} {n:Nat} {c:Cl} (h:clOk ms n c=true):inR c.sender (-1) ((n:Int) - 1)=true∧valsOk n c.temps=true∧valsOk n c.stack=true:=by
  simp only[clOk,Bool.and_eq_true] at h
  exact⟨h.2.1.1.1,h.2.1.1.2,h.2.1.2⟩
theorem valsOk_call {n:Nat} {l:List (Int × Int)} (h:valsOk n l=true) {q:Nat} (hq:q<l.length) (h2:l[q].1=2):inR l[q].2 0 ((n:Int) - 1)=true:=by
  have:=List.all_eq_true.1 h l[q] (List.getElem_mem hq)
  unfold valOk at this
  rw[h2] at this
  simpa using this
theorem tell_of {ms:List (Int × Int × List (Int × Int))} {m:Mc} (h:∀k,(hk:k<m.twins.length)→twinB ms m k m.twins[k]=true) {j:Int} (hj:inR j 0 ((m.twins.length:Int) - 1)=true):tellB m j=true:=by
  obtain⟨k,rfl,hk⟩:=tw_of hj
  unfold tellB
  rw[hj,twAt_at hk,Bool.true_and]
  have:=h k hk
  unfold twinB at this
  by_cases e:m.twins[k].page=-1
  · simp[e]
  · rw[if_neg e] at this
    rw[(Bool.and_eq_true_iff.1 this).1]
    simp
theorem told_of {ms:List (Int × Int × List (Int × Int))} {m:Mc} (hp:progOk ms=true) (h1:∀k,(hk:k<m.pages.length)→pageB ms m k m.pages[k]=true) (h2:∀k,(hk:k<m.twins.length)→twinB ms m k m.twins[k]=true):Told m:=by
  have fine:∀c,clOk ms m.twins.length c=true→(c.temps.length≤1000∧c.stack.length≤1000)∧(∀q,(hq:q<c.temps.length)→c.temps[q].1=2→tellB m c.temps[q].2=true)∧(∀q,(hq:q<c.stack.length)→c.stack[q].1=2→tellB m c.stack[q].2=true):=fun c hc =>
    ⟨clOk_lens hp hc,fun q hq e=>tell_of h2 (valsOk_call (clOk_vals hc).2.1 hq e),fun q hq e=>tell_of h2 (valsOk_call (clOk_vals hc).2.2 hq e)⟩
  refine⟨fun i k hi hk=>?_,fun i hi=>?_,fun j hj=>?_⟩
  · have:=h1 i hi
    unfold pageB at this
    have:=List.all_eq_true.1 (Bool.and_eq_true_iff.1 this).1 k (List.mem_range.2 hk)
    unfold frameB at this
    have:=fine _ (Bool.and_eq_true_iff.1 this).1
    simp only[frCl,List.getD_eq_getElem?_getD,List.getElem?_eq_getElem hk,Option.getD_some] at this
    exact this
  · have:=h1 i hi
    unfold pageB at this
    have:=(Bool.and_eq_true_iff.1 (Bool.and_eq_true_iff.1 this).2).2
    unfold baseB at this
    rw[Bool.or_eq_true] at this ⊢
    rcases this with h | h
    · exact Or.inl h
    · exact Or.inr (tell_of h2 (Bool.and_eq_true_iff.1 (Bool.and_eq_true_iff.1 h).1).2)
  · have:=h2 j hj
    unfold twinB at this
    by_cases e:m.twins[j].page=-1
    · rw[if_pos e] at this
      have hc:=(Bool.and_eq_true_iff.1 this).2
      obtain⟨f1,f2,f3⟩:=fine _ hc
      refine⟨f1,fun _=>⟨?_,fun i hi hk=>by rw[f2 i hi hk];simp,fun i hi hk=>by rw[f3 i hi hk];simp⟩⟩
      have hs:=inR_true.1 (clOk_vals hc).1
      by_cases e1:m.twins[j].left.sender=-1
      · rw[e1];rfl
      · rw[tell_of h2 (inR_true.2 ⟨by omega,hs.2⟩)];simp
    · rw[if_neg e] at this
      have he:=(Bool.and_eq_true_iff.1 (Bool.and_eq_true_iff.1 this).2).2
      simp only[emptyB,Bool.and_eq_true,decide_eq_true_iff] at he
      exact⟨⟨by omega,by omega⟩,fun h=>absurd h e⟩
theorem quiet_of_same {P:Program} {f:FuncId} {args:Array Value} {X:Value} {W:World} (h:∀w,Calls P f args w fun e w'=>e=.returned X∧w'=w):∀w,Gr W w→Calls P f args w fun e w''=>e=.returned X∧Gr W w'' :=
  fun w hw=>(h w).mono fun _ _ ⟨he,hb⟩=>⟨he,hb ▸ hw⟩
set_option maxRecDepth 100000 in
set_option maxHeartbeats 4000000 in
theorem implMachOk_any (vq:Value) (ms:List (Int × Int × List (Int × Int))) (vp vo vt vs:Value) (m:Mc) (w:World) (hq:MethsAt w vq ms) (h:MachAt w vp vo vt vs m) (hsm:m.small) (htn:m.twins.length≤800000) :
    Calls Tryz.prog 23 #[.agg #[vq],.agg (mcCells vp vo vt vs m).toArray] w fun e w'=>e=.returned (.bool (machB ms m))∧Below w.heap.size w w':=by
  have HSM:Hid m.small:=hsm
  clear hsm
  obtain⟨aq,cq,hvq,hlq,hcq⟩:=id hq
  subst hvq
  obtain⟨ap,cp,hvp,hlp,hcp⟩:=id h.p
  obtain⟨ao,co,hvo,hlo,hco⟩:=id h.o
  obtain⟨at',ct,hvt,hlt',hct⟩:=id h.t
  obtain⟨as',cs,hvs⟩:=h.s.shape
  subst hvp hvo hvt hvs
  unfold mcCells
  go_enter Tryz.func23,Tryz.ntmps23
  go_upto_region 1 with fail
  refine wp_gen (fun W=>Below w.heap.size w W∧Bx W w.heap.size 25 [.slice aq ms.length cq]∧Bx W (w.heap.size+1) 42 [.int .i64 m.cells,.slice ap m.pages.length cp,.slice ao m.order.length co,.int .i64 m.now,.slice at' m.twins.length ct,.int .i64 m.born,.slice as' m.said.length cs,.int .i64 m.code]) ⟨((Below.refl _ _).alloc (Nat.le_refl _) _).alloc (by simp) _,(Bx.new w _ _).alloc _,Bx.newAt _ _ _ (by simp)⟩ ?_
  rintro W ⟨hb,hx,hm⟩
  have x0:=hx.cell 0 rfl
  obtain⟨⟨m0,m1,m2,m3,m4,m5,m6,m7⟩,_⟩:=bx8 hm
  have HQ0:Hid (MethsAt w (.slice aq ms.length cq) ms):=hq
  have HM0:Hid (MachAt w (.slice ap m.pages.length cp) (.slice ao m.order.length co) (.slice at' m.twins.length ct) (.slice as' m.said.length cs) m):=h
  clear hq h hcq hcp hco hct
  have zb:=hb.size
  go_wp2_with fail
  refine(implProgOk_any _ ms _ (HQ0.out.below hb)).mono ?_
  rintro e W1 ⟨rfl,t1⟩
  have hb1:=hb.trans (t1.mono zb)
  have hm1:=hm.below t1
  have hx1:=hx.below t1
  have zb1:=hb1.size
  clear t1 hm hx hb zb x0 m0 m1 m2 m3 m4 m5 m6 m7
  obtain⟨⟨m0,m1,m2,m3,m4,m5,m6,m7⟩,_⟩:=bx8 hm1
  have x0:=hx1.cell 0 rfl
  cases h1:progOk ms
  · have HE:Hid (machB ms m=false):=machB_head (by unfold headM;simp[h1])
    go_wp2
    go_ret
    exact⟨ret_bool HE.out.symm,hb1⟩
  have HOPS:Hid (∀i,(hi:i<ms.length)→ms[i].2.2.length≤1000000):=ops_few h1
  obtain⟨f2,hf2⟩:∃f,roomsB m.pages.length m.cells=f:=⟨_,rfl⟩
  have HR:=roomsOk_any m.pages.length m.cells W1
  rw[hf2] at HR
  go_wp2_with fail
  refine HR.mono ?_
  rintro e W2 ⟨rfl,hw⟩
  obtain rfl:=hw.symm
  clear hw HR
  cases f2
  · have HE:Hid (machB ms m=false):=machB_head (by unfold headM;simp[hf2])
    go_wp2
    go_ret
    exact⟨ret_bool HE.out.symm,hb1⟩
  have hpl:1≤m.pages.length∧m.pages.length≤4:=by
    have:=hf2
    simp only[roomsB,Bool.and_eq_true,inR_true] at this
    omega
  obtain⟨f3,hf3⟩:∃f,orderB m=f:=⟨_,rfl⟩
  have HR:=orderOk_any _ _ _ _ m W1 (HM0.out.below hb1)
  rw[hf3] at HR
  unfold mcCells at HR
  go_wp2_with fail
  refine HR.mono ?_
  rintro e W3 ⟨rfl,t3⟩
  clear HR
  have hb3:=hb1.trans (t3.mono zb1)
  have hm3:=hm1.below t3
  have hx3:=hx1.below t3
  have zb3:=hb3.size
  clear t3 hm1 hx1 hb1 zb1 x0 m0 m1 m2 m3 m4 m5 m6 m7
  obtain⟨⟨m0,m1,m2,m3,m4,m5,m6,m7⟩,_⟩:=bx8 hm3
  have x0:=hx3.cell 0 rfl
  cases f3
  · have HE:Hid (machB ms m=false):=machB_head (by unfold headM;simp[hf3])
    go_wp2
    go_ret
    exact⟨ret_bool HE.out.symm,hb3⟩
  obtain⟨f4,hf4⟩:∃f,nowB m=f:=⟨_,rfl⟩
  have HR:=nowOk_any _ _ _ _ m W3 (HM0.out.below hb3) hf3 hpl.1
  rw[hf4] at HR
  unfold mcCells at HR
  go_wp2_with fail
  refine HR.mono ?_
  rintro e W4 ⟨rfl,t4⟩
  clear HR
  have hb4:=hb3.trans (t4.mono zb3)
  have hm4:=hm3.below t4
  have hx4:=hx3.below t4
  have zb4:=hb4.size
  clear t4 hm3 hx3 hb3 zb3 x0 m0 m1 m2 m3 m4 m5 m6 m7
  obtain⟨⟨m0,m1,m2,m3,m4,m5,m6,m7⟩,_⟩:=bx8 hm4
  have x0:=hx4.cell 0 rfl
  cases f4
  · have HE:Hid (machB ms m=false):=machB_head (by unfold headM;simp[hf4])
    go_wp2
    go_ret
    exact⟨ret_bool HE.out.symm,hb4⟩
  have hfn:framesN m.pages≤4 * 1048576:=by
    have:=framesTo_most HSM.out.frames m.pages.length (Nat.le_refl _)
    have h4:m.pages.length * 1048576≤4 * 1048576:=Nat.mul_le_mul_right _ hpl.2
    exact Nat.le_trans this h4
  have HCO:=quiet_of_below (W:=W4) fun W' (hW:Below W4.heap.size W4 W')=>callsOf_any _ _ _ _ m W' ((HM0.out.below hb4).below hW) (by omega) (by omega) (by omega)
  unfold mcCells at HCO
  have HBO:=quiet_of_same (W:=W4) fun W'=>implBornOk_any m.born W'
  have HSO:=quiet_of_below (W:=W4) fun W' (hW:Below W4.heap.size W4 W')=>implSaidOk_any _ _ ms m.said W' ((HQ0.out.below hb4).below hW) ((HM0.out.below hb4).below hW).s
  have HKO:=quiet_of_same (W:=W4) fun W'=>implCodeOk_any m.code m.now W'
  have hcl:callsN m≤4 * 1048576+800000:=by
    unfold callsN
    have:=offTo_le m.twins m.twins.length
    omega
  obtain⟨C,hC⟩:∃C,callsN m=C:=⟨_,rfl⟩
  obtain⟨f5,hf5⟩:∃f,inR m.born 1 30=f:=⟨_,rfl⟩
  obtain⟨f7,hf7⟩:∃f,valsOk ms.length m.said=f:=⟨_,rfl⟩
  obtain⟨f8,hf8⟩:∃f,(inR m.code 0 3 && ((m.code == 1) == (m.now == -1)))=f:=⟨_,rfl⟩
  rw[hC] at HCO hcl
  rw[hf5] at HBO
  rw[hf7] at HSO
  rw[hf8] at HKO
  have HC:Hid (callsN m=C):=hC
  have H5:Hid (inR m.born 1 30=f5):=hf5
  have H7:Hid (valsOk ms.length m.said=f7):=hf7
  have H8:Hid ((inR m.code 0 3 && ((m.code == 1) == (m.now == -1)))=f8):=hf8
  have H14:Hid (progOk ms=true∧roomsB m.pages.length m.cells=true∧orderB m=true∧nowB m=true):=⟨h1,hf2,hf3,hf4⟩
  clear hC hf5 hf7 hf8 h1 hf2 hf3 hf4
  go_upto_region 3 with fail
  have L0:=Gr.cell m0
  have L1:=Gr.cell m1
  have L2:=Gr.cell m2
  have L3:=Gr.cell m3
  have L4:=Gr.cell m4
  have L5:=Gr.cell m5
  have L6:=Gr.cell m6
  have L7:=Gr.cell m7
  have LX:=Gr.cell x0
  cases f5
  · have HE:Hid (machB ms m=false):=machB_head (by unfold headM;simp[H5.out])
    clear x0 m0 m1 m2 m3 m4 m5 m6 m7
    refine WQ.region (by kernel_rfl) (by kernel_rfl) ?_
    iterate 26 (refine WQ.step (fun K hK=>?_);go_simp;first
      | (with_reducible refine hK _ ?_;clear hK K)
      | (with_reducible refine quiet_eq ?_;refine hK _ ?_;clear hK K)
      | (simp(contextual:=true) only [L5,Result.andThen_ok,true_and];with_reducible refine quiet_eq ?_;refine hK _ ?_;clear hK K)
      | (with_reducible refine quiet_call HBO ?_;refine hK _ ?_;clear hK K)
      | (with_reducible refine quiet_call HCO ?_;refine hK _ ?_;clear hK K)
      | (with_reducible refine quiet_call HSO ?_;refine hK _ ?_;clear hK K)
      | (with_reducible refine quiet_call HKO ?_;refine hK _ ?_;clear hK K))
    refine WQ.nil ?_
    intro W5 hG5
    have hb5:=hb4.trans (hG5.to.mono zb4)
    clear hG5 L0 L1 L2 L3 L4 L5 L6 L7 LX
    go_wp2
    go_ret
    exact⟨ret_bool HE.out.symm,hb5⟩
  by_cases hcc:m.born<(C:Int)
  · have HE:Hid (machB ms m=false):=machB_head (by unfold headM;simp[HC.out,Int.not_le.2 hcc])
    clear x0 m0 m1 m2 m3 m4 m5 m6 m7
    refine WQ.region (by kernel_rfl) (by kernel_rfl) ?_
    iterate 26 (refine WQ.step (fun K hK=>?_);go_simp;first
      | (with_reducible refine hK _ ?_;clear hK K)
      | (with_reducible refine quiet_eq ?_;refine hK _ ?_;clear hK K)
      | (simp(contextual:=true) only [L0,L1,L2,L3,L4,L5,L6,L7,Result.andThen_ok,true_and];with_reducible refine quiet_eq ?_;refine hK _ ?_;clear hK K)
      | (with_reducible refine quiet_call HBO ?_;refine hK _ ?_;clear hK K)
      | (with_reducible refine quiet_call HCO ?_;refine hK _ ?_;clear hK K)
      | (with_reducible refine quiet_call HSO ?_;refine hK _ ?_;clear hK K)
      | (with_reducible refine quiet_call HKO ?_;refine hK _ ?_;clear hK K))
    refine WQ.nil ?_
    intro W5 hG5
    have hb5:=hb4.trans (hG5.to.mono zb4)
    clear hG5 L0 L1 L2 L3 L4 L5 L6 L7 LX
    go_wp2
    go_ret
    exact⟨ret_bool HE.out.symm,hb5⟩
  have hcc2:(C:Int)≤m.born:=by omega
  cases f7
  · have HE:Hid (machB ms m=false):=machB_head (by unfold headM;simp[H7.out])
    clear x0 m0 m1 m2 m3 m4 m5 m6 m7
    refine WQ.region (by kernel_rfl) (by kernel_rfl) ?_
    iterate 26 (refine WQ.step (fun K hK=>?_);go_simp;first
      | (with_reducible refine hK _ ?_;clear hK K)
      | (with_reducible refine quiet_eq ?_;refine hK _ ?_;clear hK K)
      | (simp(contextual:=true) only [L0,L1,L2,L3,L4,L5,L6,L7,LX,Result.andThen_ok,true_and];with_reducible refine quiet_eq ?_;refine hK _ ?_;clear hK K)
      | (with_reducible refine quiet_call HBO ?_;refine hK _ ?_;clear hK K)
      | (with_reducible refine quiet_call HCO ?_;refine hK _ ?_;clear hK K)
      | (with_reducible refine quiet_call HSO ?_;refine hK _ ?_;clear hK K)
      | (with_reducible refine quiet_call HKO ?_;refine hK _ ?_;clear hK K))
    refine WQ.nil ?_
    intro W5 hG5
    have hb5:=hb4.trans (hG5.to.mono zb4)
    clear hG5 L0 L1 L2 L3 L4 L5 L6 L7 LX
    go_wp2
    go_ret
    exact⟨ret_bool HE.out.symm,hb5⟩
  cases f8
  · have HE:Hid (machB ms m=false):=machB_head (by unfold headM;rw[H8.out];simp)
    clear x0 m0 m1 m2 m3 m4 m5 m6 m7
    refine WQ.region (by kernel_rfl) (by kernel_rfl) ?_
    iterate 26 (refine WQ.step (fun K hK=>?_);go_simp;first
      | (with_reducible refine hK _ ?_;clear hK K)
      | (with_reducible refine quiet_eq ?_;refine hK _ ?_;clear hK K)
      | (simp(contextual:=true) only [L0,L1,L2,L3,L4,L5,L6,L7,LX,Result.andThen_ok,true_and];with_reducible refine quiet_eq ?_;refine hK _ ?_;clear hK K)
      | (with_reducible refine quiet_call HBO ?_;refine hK _ ?_;clear hK K)
      | (with_reducible refine quiet_call HCO ?_;refine hK _ ?_;clear hK K)
      | (with_reducible refine quiet_call HSO ?_;refine hK _ ?_;clear hK K)
      | (with_reducible refine quiet_call HKO ?_;refine hK _ ?_;clear hK K))
    refine WQ.nil ?_
    intro W5 hG5
    have hb5:=hb4.trans (hG5.to.mono zb4)
    clear hG5 L0 L1 L2 L3 L4 L5 L6 L7 LX
    go_wp2
    go_ret
    exact⟨ret_bool HE.out.symm,hb5⟩
  have HHD:Hid (headM ms m=true):=by
    show _=_
    unfold headM
    obtain⟨e1,e2,e3,e4⟩:=H14.out
    rw[e1,e2,e3,e4,H5.out,HC.out,H7.out,H8.out]
    simpa using hcc2
  have HFN:Hid (framesN m.pages≤30):=by
    have:=HC.out
    have h5:=inR_true.1 H5.out
    unfold callsN at this
    show _≤_
    omega
  clear x0 m0 m1 m2 m3 m4 m5 m6 m7
  refine WQ.region (by kernel_rfl) (by kernel_rfl) ?_
  iterate 26 (refine WQ.step (fun K hK=>?_);go_simp;first
    | (with_reducible refine hK _ ?_;clear hK K)
    | (with_reducible refine quiet_eq ?_;refine hK _ ?_;clear hK K)
    | (simp(contextual:=true) only [L0,L1,L2,L3,L4,L5,L6,L7,LX,Result.andThen_ok,true_and];with_reducible refine quiet_eq ?_;refine hK _ ?_;clear hK K)
    | (with_reducible refine quiet_call HBO ?_;refine hK _ ?_;clear hK K)
    | (with_reducible refine quiet_call HCO ?_;refine hK _ ?_;clear hK K)
    | (with_reducible refine quiet_call HSO ?_;refine hK _ ?_;clear hK K)
    | (with_reducible refine quiet_call HKO ?_;refine hK _ ?_;clear hK K))
  refine WQ.nil ?_
  intro W5 hG5
  have hb5:=hb4.trans (hG5.to.mono zb4)
  have hm5:=hm4.below hG5.to
  have hx5:=hx4.below hG5.to
  have zb5:=hb5.size
  clear hG5 L0 L1 L2 L3 L4 L5 L6 L7 LX HBO HCO HSO HKO hm4 hx4 hb4 zb4
  obtain⟨⟨m0,m1,m2,m3,m4,m5,m6,m7⟩,_⟩:=bx8 hm5
  have x0:=hx5.cell 0 rfl
  go_wp2_with fail
  go_loopg [5,58] m.pages.length (fun d _ v wr=>∃k:Nat,k≤m.pages.length∧d=m.pages.length - k∧v=.int .i64 (k:Int)∧Below w.heap.size w wr∧Below W5.heap.size W5 wr∧∀q,(hq:q<m.pages.length)→q<k→pageB ms m q m.pages[q]=true)
  case atStart=>exact⟨0,Nat.zero_le _,rfl,rfl,hb5,Below.refl _ _,fun q _ h=>absurd h (Nat.not_lt_zero _)⟩
  case round =>
    obtain⟨k,hk,rfl,rfl,hbr,hb5r,hall⟩:=hrel
    have HALL:Hid (∀q,(hq:q<m.pages.length)→q<k→pageB ms m q m.pages[q]=true):=hall
    clear hall
    have hm6:=hm5.below hb5r
    have hx6:=hx5.below hb5r
    have zr:=hbr.size
    have z5r:=hb5r.size
    clear hm5 hx5 hb5 x0 m0 m1 m2 m3 m4 m5 m6 m7
    obtain⟨⟨m0,m1,m2,m3,m4,m5,m6,m7⟩,_⟩:=bx8 hm6
    have x0:=hx6.cell 0 rfl
    by_cases hlt:k<m.pages.length
    · have hkz:(k:Int)<(m.pages.length:Int):=by omega
      obtain⟨f,hf⟩:∃f,pageB ms m k m.pages[k]=f:=⟨_,rfl⟩
      have HPO:=pageOk_any _ ms _ _ _ _ m k wr (HQ0.out.below hbr) (HM0.out.below hbr) HOPS.out hlt _ rfl (fun i hi=>Nat.le_trans (HSM.out.frames i hi) (by omega)) (fun q hq=>(HSM.out.temps k hlt q hq).1)
      rw[hf] at HPO
      unfold mcCells at HPO
      have HF:Hid (pageB ms m k m.pages[k]=f):=hf
      clear hf
      go_wp2_with fail
      refine HPO.mono ?_
      rintro e W6 ⟨rfl,t6⟩
      have hb6:=hbr.trans (t6.mono zr)
      have hb56:=hb5r.trans (t6.mono z5r)
      clear HPO t6 hm6 hx6 x0 m0 m1 m2 m3 m4 m5 m6 m7
      cases f
      · have HE:Hid (machB ms m=false):=machB_page hlt HF.out
        go_wp2
        go_ret
        exact⟨ret_bool HE.out.symm,hb6⟩
      have HN:Hid (∀q,(hq:q<m.pages.length)→q<k+1→pageB ms m q m.pages[q]=true):=fun q hq hqk=>by
        by_cases e:q=k
        · subst e;exact HF.out
        · exact HALL.out q hq (by omega)
      clear HALL HF
      go_wp2
      go_roundg (m.pages.length - (k+1))
      case measure=>omega
      case rel=>exact⟨k+1,by omega,rfl,by go_num,hb6,hb56,HN.out⟩
    · obtain rfl:k=m.pages.length:=by omega
      have HPG:Hid (∀q,(hq:q<m.pages.length)→pageB ms m q m.pages[q]=true):=fun q hq=>HALL.out q hq hq
      clear HALL
      go_wp2_with fail
      go_loopg [6,70] m.twins.length (fun d _ v wt=>∃k:Nat,k≤m.twins.length∧d=m.twins.length - k∧v=.int .i64 (k:Int)∧Below w.heap.size w wt∧Below wr.heap.size wr wt∧∀q,(hq:q<m.twins.length)→q<k→twinB ms m q m.twins[q]=true)
      case atStart=>exact⟨0,Nat.zero_le _,rfl,rfl,hbr,Below.refl _ _,fun q _ h=>absurd h (Nat.not_lt_zero _)⟩
      case round =>
        obtain⟨k,hk,rfl,rfl,hbt,hbrt,hall⟩:=hrel
        have HALL:Hid (∀q,(hq:q<m.twins.length)→q<k→twinB ms m q m.twins[q]=true):=hall
        clear hall
        have hm7:=hm6.below hbrt
        have hx7:=hx6.below hbrt
        have zt:=hbt.size
        have zrt:=hbrt.size
        clear hm6 hx6 x0 m0 m1 m2 m3 m4 m5 m6 m7
        obtain⟨⟨m0,m1,m2,m3,m4,m5,m6,m7⟩,_⟩:=bx8 hm7
        have x0:=hx7.cell 0 rfl
        by_cases hlt:k<m.twins.length
        · have hkz:(k:Int)<(m.twins.length:Int):=by omega
          obtain⟨f,hf⟩:∃f,twinB ms m k m.twins[k]=f:=⟨_,rfl⟩
          have HPO:=twinOk_any _ ms _ _ _ _ m k wr (HQ0.out.below hbt) (HM0.out.below hbt) HOPS.out hlt _ rfl
          rw[hf] at HPO
          unfold mcCells at HPO
          have HF:Hid (twinB ms m k m.twins[k]=f):=hf
          clear hf
          go_wp2_with fail
          refine HPO.mono ?_
          rintro e W6 ⟨rfl,t6⟩
          have hb6:=hbt.trans (t6.mono zt)
          have hb56:=hbrt.trans (t6.mono zrt)
          clear HPO t6 hm7 hx7 x0 m0 m1 m2 m3 m4 m5 m6 m7
          cases f
          · have HE:Hid (machB ms m=false):=machB_twin hlt HF.out
            go_wp2
            go_ret
            exact⟨ret_bool HE.out.symm,hb6⟩
          have HN:Hid (∀q,(hq:q<m.twins.length)→q<k+1→twinB ms m q m.twins[q]=true):=fun q hq hqk=>by
            by_cases e:q=k
            · subst e;exact HF.out
            · exact HALL.out q hq (by omega)
          clear HALL HF
          go_wp2
          go_roundg (m.twins.length - (k+1))
          case measure=>omega
          case rel=>exact⟨k+1,by omega,rfl,by go_num,hb6,hb56,HN.out⟩
        · obtain rfl:k=m.twins.length:=by omega
          have HTW:Hid (∀q,(hq:q<m.twins.length)→twinB ms m q m.twins[q]=true):=fun q hq=>HALL.out q hq hq
          have HE:Hid (machB ms m=waitP (thingsM m).calls (thingsM m).now):=machB_end HHD.out HPG.out HTW.out
          have HTD:=told_of H14.out.1 HPG.out HTW.out
          have hf30:=HFN.out
          have HTO:=thingsOf_any _ _ _ _ m wr (HM0.out.below hbt) HTD (by omega) (by omega)
          unfold mcCells at HTO
          have hcn:(thingsM m).calls.length≤900000:=by
            show(frThings m m.pages.length ++ twThings m m.twins.length).length≤_
            rw[List.length_append,frThings_length (Nat.le_refl _),twThings_length]
            show framesN m.pages+_≤_
            omega
          clear HALL HTD hf30
          go_wp2_with fail
          refine HTO.mono ?_
          rintro e W8 ⟨vc,rfl,hcs,t8⟩
          have hb8:=hbt.trans (t8.mono zt)
          have zb8:=hb8.size
          have HWO:=implWaitOk_any vc (.slice none 0 0) (thingsM m) W8 ⟨hcs,⟨none,0,rfl,Nat.zero_le _,fun _ hi=>absurd hi (Nat.not_lt_zero _)⟩⟩ hcn
          clear HTO t8 hm7 hx7 x0 m0 m1 m2 m3 m4 m5 m6 m7 hcs
          obtain⟨wp',hwp⟩:∃f,waitP (thingsM m).calls (thingsM m).now=f:=⟨_,rfl⟩
          rw[hwp] at HWO HE
          clear hwp
          have HWP:Hid (Calls Tryz.prog 79 #[.agg #[vc,.int .i64 (plNow m),.int .i64 0,.slice none 0 0,.int .i64 0]] W8 fun e w'=>e=.returned (.bool wp')∧Below W8.heap.size W8 w'):=HWO
          clear HWO
          go_wp2_with fail
          refine HWP.out.mono ?_
          rintro e W9 ⟨rfl,t9⟩
          have hb9:=hb8.trans (t9.mono zb8)
          go_wp2
          go_ret
          exact⟨ret_bool HE.out.symm,hb9⟩
theorem ordTo_mem {n k:Nat} (hk:k<n):(k:Int)∈ordTo n n:=by
  unfold ordTo
  rw[List.mem_map]
  by_cases h:k=0
  · exact⟨n - 1,List.mem_range.2 (by omega),by rw[show n - 1+1=n by omega,Nat.mod_self];subst h;rfl⟩
  · exact⟨k - 1,List.mem_range.2 (by omega),by rw[show k - 1+1=k by omega,Nat.mod_eq_of_lt hk]⟩
end Go.Proofs.YtjbgpcileapogaaGreat
