/-
  HeapTrim of the model, walked by the plan of RF: what it answers stays while blocks from its own on stay.
-/
import Derived.Test.YtfpodljalccpnaaTrim
import Derived.Test.YtfpodljalccpnaaExKit
import Derived.Test.YtfpodljalccpnaaStepR
import Derived.Lib.MinMax

namespace Go.Proofs.Ytfpodljalccpnaa
open Go.RowKit
def HeapFrom (B : Nat) (w : World) (vc vs : Value) (R : Hp) : Prop := ∀ w' : World, w.heap.size ≤ w'.heap.size → (∀ k, B ≤ k → k < w.heap.size → w'.heap[k]? = w.heap[k]?) → HeapAt w' vc vs R
theorem CallsFrom.far {B B' : Nat} {w w2 : World} {v : Value} {cs : List Cl} (h : CallsFrom B w v cs) (hB : B' ≤ B) (hs : w.heap.size ≤ w2.heap.size) (hr : ∀ r, B ≤ r → r < w.heap.size → w2.heap[r]? = w.heap[r]?) : CallsFrom B' w2 v cs :=
  fun w3 h3 k3 => h w3 (Nat.le_trans hs h3) fun k h1 h2 => (k3 k (Nat.le_trans hB h1) (Nat.lt_of_lt_of_le h2 hs)).trans (hr k h1 h2)
def fNew {W : World} {B : Nat} (k : Nat) : OpF W B :=
  ⟨fun l own w => ∃ x : Nat, l = [.slice (some ⟨x, 0, none⟩) 0 0] ∧ own x = k ∧ B ≤ x ∧ x < w.heap.size, [], fun _ _ _ _ _ hk ⟨x, h1, h2, h3, h4⟩ => ⟨x, h1, (hk.mine x h4).trans h2, h3, Nat.lt_of_lt_of_le h4 hk.size⟩⟩
def fAppX {W : World} {B : Nat} (k1 k2 n : Nat) (st : List (Int × Int)) : OpF W B :=
  ⟨fun l own w => ∃ y : Option Addr × Nat, l = [.slice y.1 n y.2] ∧ (∀ r, (Value.slice y.1 n y.2).ownBlock = some r → (own r = k1 ∨ own r = k2) ∧ r < w.heap.size) ∧ PairRow B w (.slice y.1 n y.2) st, [k1, k2],
    fun _ _ _ _ _ hk ⟨y, e, h1, h2⟩ => ⟨y, e, fun r hr => ⟨by rw [hk.mine r (h1 r hr).2]; exact (h1 r hr).1, Nat.lt_of_lt_of_le (h1 r hr).2 hk.size⟩, h2.kept hk.size fun r hr => hk.blk r (h1 r hr).2 (by rcases (h1 r hr).1 with x | x <;> rw [x] <;> simp)⟩⟩
theorem append_belowX {P : Program} {t tx ty e : TypeId} {i : TypeInfo} {z : Value} (ht : P.underlying t = some (.slice e)) (hi : P.info? e = some i) (hz : i.zero = some z) (hby : i.bytes ≤ 1000)
    {w w' : World} {v' x : Value} {g off m : Nat} {news : List Value} (hs : Src P i.size tx x m news w) (hL : m ≤ 3000000) (hr : (Builtin.append_ #[t, tx] ty #[.slice (some ⟨g, off, none⟩) 0 0, x]).run P w = .ok v' w') : Below w.heap.size w w' := by
  by_cases hm : m = 0
  · subst hm
    obtain rfl : news = [] := List.eq_nil_of_length_eq_zero (by simpa using hs.newsLen)
    have hr2 := run_append_room_src (P := P) w t tx ty e i ht hi g off 0 0 x 0 [] hs (Nat.le_refl _) (fun j hj => by simp at hj) (fun j hj => by simp at hj)
    rw [hr2] at hr
    injection hr with _ h
    subst h
    exact Below.refl _ _
  · have hr2 := run_append_grow_src (P := P) w t tx ty e i z ht hi hz (some ⟨g, off, none⟩) 0 0 [] (run_firstCells_some _ _ _ _ _ _ _ (by simp) (fun j u hu => by simp at hu)) x m news hs (by omega) (by omega) (growslice_fits (by omega) (by have := Nat.mul_le_mul (show 0 + m ≤ 3000000 by omega) hby; omega))
    rw [hr2] at hr
    injection hr with _ h
    subst h
    exact (Below.refl _ w).drew.alloc (Nat.le_refl _) _
theorem append_runX {o : Oper} {act : Act} {w w' : World} {s x : Operand} {v xv v' : Value} (ho : o.op = .call { callee := .builtin .append, args := #[s, x], argTypes := #[27, 27] }) (hs : act.eval s = v) (hx : act.eval x = xv)
    (hr : (Builtin.append_ #[27, 27] o.type #[v, xv]).run Try.prog w = .ok v' w') : (execOp act.eval o).run Try.prog w = .ok (.value v') w' := by
  unfold execOp
  simp only [ho, resolve, invoke, builtin, Sem.run_bind, Sem.run_pure, Result.andThen_ok, List.map_toArray, List.map_cons, List.map_nil, hs, hx, hr]
theorem rf_app0 {ops : Array Oper} {Q : QT} {W : World} {p : Plan} {F : Nat → Fact} {a : Act} {w : World} {i k : Nat} {val : Nat → Value} {own : Nat → Nat} {o : Oper} {s x : Operand} {xv : Value} {g : Nat} {M : List (Int × Int)} (hM : OpsAt w xv M) (hL : M.length ≤ 1048576) (hB : Below W.heap.size W w) (ho : ops[i]? = some o) (hg : Region.wanted o (yielded ops a.tmps) = true)
    (hop : o.op = .call { callee := .builtin .append, args := #[s, x], argTypes := #[27, 27] }) (hs : a.eval s = .slice (some ⟨g, 0, none⟩) 0 0) (hx : a.eval x = xv) (hown : own g = k) (hgB : W.heap.size ≤ g) (hgl : g < w.heap.size)
    (hF : ∀ y : Option Addr × Nat, ∀ w', (∀ r, (Value.slice y.1 M.length y.2).ownBlock = some r → (ownBy own w i r = k ∨ ownBy own w i r = i) ∧ r < w'.heap.size) → PairRow W.heap.size w' (.slice y.1 M.length y.2) M → F i ((p.see.getD i []).map (upd val i (.slice y.1 M.length y.2))) (ownBy own w i) w') :
    wpOp Try.prog ops Q i (fun a' w' => ∃ v, a' = a.put (dstOf ops i) v ∧ Does W W.heap.size (p.wr.getD i []) own w w' ∧ F i ((p.see.getD i []).map (upd val i v)) (ownBy own w i) w') a w := by
  have mk : PairRow W.heap.size w (.slice (some ⟨g, 0, none⟩) 0 0) [] := .inr ⟨g, 0, 0, rfl, hgB, hgl, Nat.le_refl _, Nat.zero_le _, fun i hi => by simp at hi, fun i hi => by simp at hi⟩
  obtain ⟨v', w', hr, hrow, hgr, hbk⟩ := run_append_vals (ty := o.type) mk hM (by simp; omega) hB.size
  rw [List.nil_append] at hrow
  obtain ⟨i0, hi, hz0, hz1, hz2⟩ := info_parts Try.infoVal
  have hsrc := src_vals (P := Try.prog) Try.underlying27 hM
  rw [← hz1] at hsrc
  have hbel := append_belowX (P := Try.prog) Try.underlying27 hi hz0 (by rw [hz2]; omega) hsrc (by omega) hr
  obtain ⟨y1, y2, hv', _⟩ := hrow.slice
  subst hv'
  refine wpOp_val ho hg (append_runX hop hs hx hr) ⟨_, by simp [dstOf, ho], Does.below (Nat.le_refl _) hB hbel _ _, hF (y1, y2) w' (fun r hr => ?_) hrow⟩
  refine ⟨?_, (hrow.lt r hr).2⟩
  rcases hbk with e | e
  · left
    have : g = r := by have h' := e.symm.trans hr; injection h'
    subst this
    unfold ownBy
    rw [if_pos hgl]
    exact hown
  · right
    have : r = w.heap.size := by have h' := hr.symm.trans e; injection h'
    subst this
    exact if_neg (Nat.lt_irrefl _)
theorem min_now {n : Int} (h : -1 ≤ n) : (if n = -1 then (-1 : Int) else 0) = min n 0 := by
  split <;> omega
theorem headOk_now {ms : List (Int × Int × List (Int × Int))} {h : Hp} (e : heapOk ms h = true) : -1 ≤ h.now := (good_iff.1 e).head.now.1
set_option maxRecDepth 100000 in
set_option maxHeartbeats 4000000 in
theorem specHeapTrim_x (vp vc vs : Value) (ms : List (Int × Int × List (Int × Int))) (h : Hp) (wI : World) (hp : MethsAt wI vp ms) (hh : HeapAt wI vc vs h) (hsm : h.small) :
    Calls Try.prog 5 #[.agg #[vp], .agg (hpCells vc vs h)] wI fun e w' => Below wI.heap.size wI w' ∧ ∃ a1 k1 a2 k2, e = .returned (.tuple #[.agg #[.slice a1 (trimH ms h).calls.length k1, .int .i64 (trimH ms h).now, .int .i64 (trimH ms h).born, .slice a2 (trimH ms h).said.length k2, .int .i64 (trimH ms h).code], .bool (heapOk ms h)]) ∧ HeapFrom wI.heap.size w' (.slice a1 (trimH ms h).calls.length k1) (.slice a2 (trimH ms h).said.length k2) (trimH ms h) := by
  obtain ⟨ap, cp, hvp, _⟩ := id hp
  obtain ⟨ac, kc, hvc⟩ := hh.c.shape
  obtain ⟨aD, kD, hvs⟩ := hh.s.shape
  subst hvp hvc hvs
  unfold hpCells
  have hA : Below wI.heap.size wI (((wI.alloc (.cells #[.slice ap ms.length cp] 25)).alloc (.cells #[.slice ac h.calls.length kc, .int .i64 h.now, .int .i64 h.born, .slice aD h.said.length kD, .int .i64 h.code] 29)).alloc (.cells #[.slice none 0 0, .int .i64 0, .int .i64 0, .slice none 0 0, .int .i64 0] 29)) := (((Below.refl _ _).alloc (Nat.le_refl _) _).alloc (by simp) _).alloc (by simp; omega) _
  have bp : (((wI.alloc (.cells #[.slice ap ms.length cp] 25)).alloc (.cells #[.slice ac h.calls.length kc, .int .i64 h.now, .int .i64 h.born, .slice aD h.said.length kD, .int .i64 h.code] 29)).alloc (.cells #[.slice none 0 0, .int .i64 0, .int .i64 0, .slice none 0 0, .int .i64 0] 29)).cell? ⟨wI.heap.size, 0, none⟩ = some (.slice ap ms.length cp) := by simp [go_sem]
  have bh := (five_new (wI.alloc (.cells #[.slice ap ms.length cp] 25)) 29 (.slice ac h.calls.length kc) (.int .i64 h.now) (.int .i64 h.born) (.slice aD h.said.length kD) (.int .i64 h.code)).alloc (.cells #[.slice none 0 0, .int .i64 0, .int .i64 0, .slice none 0 0, .int .i64 0] 29)
  have bz := five_new ((wI.alloc (.cells #[.slice ap ms.length cp] 25)).alloc (.cells #[.slice ac h.calls.length kc, .int .i64 h.now, .int .i64 h.born, .slice aD h.said.length kD, .int .i64 h.code] 29)) 29 (.slice none 0 0) (.int .i64 0) (.int .i64 0) (.slice none 0 0) (.int .i64 0)
  simp only [World.size_alloc] at bh bz
  go_enter Try.func5, Try.ntmps5
  go_upto_region 1 with fail
  generalize ((wI.alloc (.cells #[.slice ap ms.length cp] 25)).alloc (.cells #[.slice ac h.calls.length kc, .int .i64 h.now, .int .i64 h.born, .slice aD h.said.length kD, .int .i64 h.code] 29)).alloc (.cells #[.slice none 0 0, .int .i64 0, .int .i64 0, .slice none 0 0, .int .i64 0] 29) = W0 at *
  have z0 := hA.size
  obtain ⟨⟨x0, x1, x2, x3, x4⟩, xf⟩ := five_cells bh
  clear xf
  go_wp2_with fail
  refine (specHeapOk_any _ _ _ ms h _ (hp.below hA) (hh.below hA) hsm.1).mono ?_
  rintro e w1 ⟨rfl, hb1⟩
  have B1 : Below wI.heap.size wI w1 := hA.trans (hb1.mono z0)
  have bh1 := row_below hb1 bh
  have bz1 := row_below hb1 bz
  have z1 := B1.size
  have y1 := bz1.lt
  have hz2 : wI.heap.size ≤ wI.heap.size + 1 + 1 := by omega
  clear hb1 bp bh bz hA z0 x0 x1 x2 x3 x4
  obtain ⟨⟨x0, x1, x2, x3, x4⟩, xf⟩ := five_cells bh1
  obtain ⟨⟨u0, u1, u2, u3, u4⟩, f0, f1, f2, f3, f4⟩ := five_cells bz1
  clear xf
  by_cases hof : heapOk ms h = false
  · have HOF : Hid (heapOk ms h = false) := hof
    have hN : Hid (trimH ms h = ⟨[], 0, 0, [], 0⟩) := by show trimH ms h = _; simp [trimH, hof]
    have R9 := five_set4 (five_set3 (five_set2 (five_set1 (five_set0 bz1 (.slice none 0 0)) (.int .i64 0)) (.int .i64 0)) (.slice none 0 0)) (.int .i64 0)
    have B9 := ((((B1.setCell (p := ⟨wI.heap.size + 1 + 1, 0, none⟩) hz2 (.slice none 0 0)).setCell (p := ⟨wI.heap.size + 1 + 1, 1, none⟩) hz2 (.int .i64 0)).setCell (p := ⟨wI.heap.size + 1 + 1, 2, none⟩) hz2 (.int .i64 0)).setCell (p := ⟨wI.heap.size + 1 + 1, 3, none⟩) hz2 (.slice none 0 0)).setCell (p := ⟨wI.heap.size + 1 + 1, 4, none⟩) hz2 (.int .i64 0)
    go_wp2
    generalize ((((w1.setCell ⟨wI.heap.size + 1 + 1, 0, none⟩ (.slice none 0 0)).setCell ⟨wI.heap.size + 1 + 1, 1, none⟩ (.int .i64 0)).setCell ⟨wI.heap.size + 1 + 1, 2, none⟩ (.int .i64 0)).setCell ⟨wI.heap.size + 1 + 1, 3, none⟩ (.slice none 0 0)).setCell ⟨wI.heap.size + 1 + 1, 4, none⟩ (.int .i64 0) = W9 at *
    obtain ⟨⟨q0, q1, q2, q3, q4⟩, _⟩ := five_cells R9
    exact bodyPost_ret (v := .tuple #[.agg #[.slice none 0 0, .int .i64 0, .int .i64 0, .slice none 0 0, .int .i64 0], .bool false]) (by simp [results, Try.results5, go_sem, q0, q1, q2, q3, q4]) rfl ⟨B9, none, 0, none, 0, by rw [hN.out, HOF.out]; rfl, by rw [hN.out]; exact fun w2 _ _ => ⟨⟨none, 0, rfl, Nat.zero_le _, fun i hi => absurd hi (Nat.not_lt_zero _)⟩, ⟨none, 0, rfl, Nat.zero_le _, fun i hi => absurd hi (Nat.not_lt_zero _)⟩⟩⟩
  have hok : heapOk ms h = true := by simpa using hof
  have HOK1 : Hid (heapOk ms h = true) := hok
  clear hof
  have hPT := ok_parts hok
  have hh1 := hh.below B1
  have hsl : h.said.length ≤ 1048576 := hsm.2.2
  clear u0 u1 u2 u3 u4 f0 f1 f2 f3 f4
  go_upto_region 3 with fail
  refine wp_region_fs [[], [0], [], [2], [2, 3], [], [5], [], [], [8], [0, 1, 7, 8, 9], [], [11], [0, 1, 2, 3, 4, 5, 6, 7, 8, 9, 10, 11, 12], [], [0, 1, 2, 3, 4, 5, 6, 7, 8, 9, 10, 11, 12, 13, 14]] [[0], [1], [2], [3], [4], [5], [6], [7], [8], [9], [10], [11], [12], [13, 1, 10], [14], [14, 13]] [[], [], [], [], [], [], [], [], [], [], [], [], [], [], [], [14]] [fIs (.agg #[.slice ac h.calls.length kc, .int .i64 h.now, .int .i64 h.born, .slice aD h.said.length kD, .int .i64 h.code]), fGh 1 (fun (x : Option Addr × Nat) l => l = [.slice x.1 (viewL h).length x.2]) (fun x w2 => CallsFrom w1.heap.size w2 (.slice x.1 (viewL h).length x.2) (viewL h)), fIs (.pointer (some ⟨wI.heap.size + 1, 1, none⟩)), fIs (.int .i64 h.now), fIs (.int .i64 (min h.now 0)), fIs (.pointer (some ⟨wI.heap.size + 1, 2, none⟩)), fIs (.int .i64 h.born), fNew 7, fIs (.pointer (some ⟨wI.heap.size + 1, 3, none⟩)), fIs (.slice aD h.said.length kD), fAppX 7 10 h.said.length h.said, fIs (.pointer (some ⟨wI.heap.size + 1, 4, none⟩)), fIs (.int .i64 h.code), fOf fun l => l.getD 0 undef = .agg #[l.getD 1 undef, .int .i64 (min h.now 0), .int .i64 h.born, l.getD 2 undef, .int .i64 h.code], fBox 14 29 5, fRow 14 29 5 fun b f l => l.getD 0 undef = .pointer (some ⟨b, 0, none⟩) ∧ f = fun q => (l.getD 1 undef).cells.toList.getD q undef] 16 rfl (by kernel_rfl) (by kernel_rfl) ?_ ?_
  · refine all_lt_succ (all_lt_succ (all_lt_succ (all_lt_succ (all_lt_succ (all_lt_succ (all_lt_succ (all_lt_succ (all_lt_succ (all_lt_succ (all_lt_succ (all_lt_succ (all_lt_succ (all_lt_succ (all_lt_succ (all_lt_succ (all_lt_zero) ?_) ?_) ?_) ?_) ?_) ?_) ?_) ?_) ?_) ?_) ?_) ?_) ?_) ?_) ?_) ?_
    · intro a w val own hB hf hown hk
      have s3 := hf.at (d := 3) (v := .pointer (some ⟨wI.heap.size + 1, 0, none⟩)) (by kernel_rfl) rfl
      obtain ⟨⟨c0, c1, c2, c3, c4⟩, _⟩ := five_cells (row_below hB bh1)
      exact rf_pure (v := .agg #[.slice ac h.calls.length kc, .int .i64 h.now, .int .i64 h.born, .slice aD h.said.length kD, .int .i64 h.code]) hB rfl rfl (by unfold execOp; go_simp) rfl
    · intro a w val own hB hf hown hk
      obtain ⟨k0, f0⟩ := hk 0 (show 0 ∈ [0] by decide)
      have s12 := k0 12 rfl
      rw [fIs_out f0] at s12
      clear k0 f0
      have hs0 := hB.size
      exact rf_call hB rfl rfl (by unfold execOp hpCells; go_simp) ((specHeapView_any (.slice ac h.calls.length kc) (.slice aD h.said.length kD) h w (hh1.below hB) hPT.sh hPT.sd).mono fun e w' ⟨v, he, hT, hb⟩ => by obtain ⟨aC, kC, hvC⟩ := hT.at.shape; subst hvC; exact ⟨_, he, hb, (aC, kC), rfl, Made.new fun w2 hs _ hr => hT.far hs0 hs hr⟩)
    · intro a w val own hB hf hown hk
      have s3 := hf.at (d := 3) (v := .pointer (some ⟨wI.heap.size + 1, 0, none⟩)) (by kernel_rfl) rfl
      exact rf_pure (v := .pointer (some ⟨wI.heap.size + 1, 1, none⟩)) hB rfl rfl (by unfold execOp; go_simp) rfl
    · intro a w val own hB hf hown hk
      obtain ⟨k2, f2⟩ := hk 2 (show 2 ∈ [2] by decide)
      have s14 := k2 14 rfl
      rw [fIs_out f2] at s14
      clear k2 f2
      obtain ⟨⟨c0, c1, c2, c3, c4⟩, _⟩ := five_cells (row_below hB bh1)
      exact rf_pure (v := .int .i64 h.now) hB rfl rfl (by unfold execOp; go_simp) rfl
    · intro a w val own hB hf hown hk
      obtain ⟨k3, f3⟩ := hk 3 (show 3 ∈ [2, 3] by decide)
      have s15 := k3 15 rfl
      rw [fIs_out f3] at s15
      clear k3 f3
      exact rf_pure (v := .int .i64 (min h.now 0)) hB rfl rfl (by unfold execOp; go_simp) rfl
    · intro a w val own hB hf hown hk
      have s3 := hf.at (d := 3) (v := .pointer (some ⟨wI.heap.size + 1, 0, none⟩)) (by kernel_rfl) rfl
      exact rf_pure (v := .pointer (some ⟨wI.heap.size + 1, 2, none⟩)) hB rfl rfl (by unfold execOp; go_simp) rfl
    · intro a w val own hB hf hown hk
      obtain ⟨k5, f5⟩ := hk 5 (show 5 ∈ [5] by decide)
      have s17 := k5 17 rfl
      rw [fIs_out f5] at s17
      clear k5 f5
      obtain ⟨⟨c0, c1, c2, c3, c4⟩, _⟩ := five_cells (row_below hB bh1)
      exact rf_pure (v := .int .i64 h.born) hB rfl rfl (by unfold execOp; go_simp) rfl
    · intro a w val own hB hf hown hk
      exact rf_new (v := .slice (some ⟨w.heap.size, 0, none⟩) 0 0) (w' := w.alloc (.cells #[] 45)) hB rfl rfl (by unfold execOp; go_simp) ((Below.refl _ _).alloc (Nat.le_refl _) _) ⟨w.heap.size, rfl, if_neg (Nat.lt_irrefl _), hB.size, by simp⟩
    · intro a w val own hB hf hown hk
      have s3 := hf.at (d := 3) (v := .pointer (some ⟨wI.heap.size + 1, 0, none⟩)) (by kernel_rfl) rfl
      exact rf_pure (v := .pointer (some ⟨wI.heap.size + 1, 3, none⟩)) hB rfl rfl (by unfold execOp; go_simp) rfl
    · intro a w val own hB hf hown hk
      obtain ⟨k8, f8⟩ := hk 8 (show 8 ∈ [8] by decide)
      have s20 := k8 20 rfl
      rw [fIs_out f8] at s20
      clear k8 f8
      obtain ⟨⟨c0, c1, c2, c3, c4⟩, _⟩ := five_cells (row_below hB bh1)
      exact rf_pure (v := .slice aD h.said.length kD) hB rfl rfl (by unfold execOp; go_simp) rfl
    · intro a w val own hB hf hown hk
      obtain ⟨k7, x7, e7, o7, b7, l7⟩ := hk 7 (show 7 ∈ [0, 1, 7, 8, 9] by decide)
      have v7 := one_eq e7
      have s19 := k7 19 rfl
      rw [v7] at s19
      clear k7 e7
      obtain ⟨k9, f9⟩ := hk 9 (show 9 ∈ [0, 1, 7, 8, 9] by decide)
      have s21 := k9 21 rfl
      rw [fIs_out f9] at s21
      clear k9 f9
      exact rf_app0 (hh1.s.below hB) hsl hB rfl rfl rfl (by go_simp) (by go_simp) o7 b7 l7 (fun y w' h1 h2 => ⟨y, rfl, h1, h2⟩)
    · intro a w val own hB hf hown hk
      have s3 := hf.at (d := 3) (v := .pointer (some ⟨wI.heap.size + 1, 0, none⟩)) (by kernel_rfl) rfl
      exact rf_pure (v := .pointer (some ⟨wI.heap.size + 1, 4, none⟩)) hB rfl rfl (by unfold execOp; go_simp) rfl
    · intro a w val own hB hf hown hk
      obtain ⟨k11, f11⟩ := hk 11 (show 11 ∈ [11] by decide)
      have s23 := k11 23 rfl
      rw [fIs_out f11] at s23
      clear k11 f11
      obtain ⟨⟨c0, c1, c2, c3, c4⟩, _⟩ := five_cells (row_below hB bh1)
      exact rf_pure (v := .int .i64 h.code) hB rfl rfl (by unfold execOp; go_simp) rfl
    · intro a w val own hB hf hown hk
      obtain ⟨k1, x1, e1, m1⟩ := hk 1 (show 1 ∈ [0, 1, 2, 3, 4, 5, 6, 7, 8, 9, 10, 11, 12] by decide)
      have v1 := one_eq e1
      have s13 := k1 13 rfl
      rw [v1] at s13
      clear k1 e1
      obtain ⟨k4, f4⟩ := hk 4 (show 4 ∈ [0, 1, 2, 3, 4, 5, 6, 7, 8, 9, 10, 11, 12] by decide)
      have s16 := k4 16 rfl
      rw [fIs_out f4] at s16
      clear k4 f4
      obtain ⟨k6, f6⟩ := hk 6 (show 6 ∈ [0, 1, 2, 3, 4, 5, 6, 7, 8, 9, 10, 11, 12] by decide)
      have s18 := k6 18 rfl
      rw [fIs_out f6] at s18
      clear k6 f6
      obtain ⟨k10, y10, e10, o10, P10⟩ := hk 10 (show 10 ∈ [0, 1, 2, 3, 4, 5, 6, 7, 8, 9, 10, 11, 12] by decide)
      have v10 := one_eq e10
      have s22 := k10 22 rfl
      rw [v10] at s22
      clear k10 e10
      obtain ⟨k12, f12⟩ := hk 12 (show 12 ∈ [0, 1, 2, 3, 4, 5, 6, 7, 8, 9, 10, 11, 12] by decide)
      have s24 := k12 24 rfl
      rw [fIs_out f12] at s24
      clear k12 f12
      exact rf_pure (v := .agg #[.slice x1.1 (viewL h).length x1.2, .int .i64 (min h.now 0), .int .i64 h.born, .slice y10.1 h.said.length y10.2, .int .i64 h.code]) hB rfl rfl (by unfold execOp; go_simp) (by show _ = Value.agg #[val 1, _, _, val 10, _]; rw [v1, v10]; rfl)
    · intro a w val own hB hf hown hk
      exact rf_new (v := .pointer (some ⟨w.heap.size, 0, none⟩)) (w' := w.alloc (.cells #[.slice none 0 0, .int .i64 0, .int .i64 0, .slice none 0 0, .int .i64 0] 29)) hB rfl rfl (by unfold execOp; go_simp) ((Below.refl _ _).alloc (Nat.le_refl _) _) (fBox_new hB #[.slice none 0 0, .int .i64 0, .int .i64 0, .slice none 0 0, .int .i64 0])
    · intro a w val own hB hf hown hk
      obtain ⟨k14, bo14, g14, e14, ho14, hW14, r14⟩ := hk 14 (show 14 ∈ [0, 1, 2, 3, 4, 5, 6, 7, 8, 9, 10, 11, 12, 13, 14] by decide)
      have v14 := one_eq e14
      have s6 := k14 6 rfl
      rw [v14] at s6
      clear k14 e14
      obtain ⟨k1, x1, e1, m1⟩ := hk 1 (show 1 ∈ [0, 1, 2, 3, 4, 5, 6, 7, 8, 9, 10, 11, 12, 13, 14] by decide)
      have v1 := one_eq e1
      have s13 := k1 13 rfl
      rw [v1] at s13
      clear k1 e1
      obtain ⟨k10, y10, e10, o10, P10⟩ := hk 10 (show 10 ∈ [0, 1, 2, 3, 4, 5, 6, 7, 8, 9, 10, 11, 12, 13, 14] by decide)
      have v10 := one_eq e10
      have s22 := k10 22 rfl
      rw [v10] at s22
      clear k10 e10
      obtain ⟨k13, f13⟩ := hk 13 (show 13 ∈ [0, 1, 2, 3, 4, 5, 6, 7, 8, 9, 10, 11, 12, 13, 14] by decide)
      have v13 : val 13 = .agg #[.slice x1.1 (viewL h).length x1.2, .int .i64 (min h.now 0), .int .i64 h.born, .slice y10.1 h.said.length y10.2, .int .i64 h.code] := by have e : val 13 = Value.agg #[val 1, .int .i64 (min h.now 0), .int .i64 h.born, val 10, .int .i64 h.code] := f13; rw [e, v1, v10]
      have s25 := k13 25 rfl
      rw [v13] at s25
      clear k13 f13
      have c0 := r14.cell (i := 0) (by decide)
      have c1 := r14.cell (i := 1) (by decide)
      have c2 := r14.cell (i := 2) (by decide)
      have c3 := r14.cell (i := 3) (by decide)
      have c4 := r14.cell (i := 4) (by decide)
      have z0 := r14.frozen 0
      have z1 := r14.frozen 1
      have z2 := r14.frozen 2
      have z3 := r14.frozen 3
      have z4 := r14.frozen 4
      exact rf_set (w' := setAll w bo14 0 [.slice x1.1 (viewL h).length x1.2, .int .i64 (min h.now 0), .int .i64 h.born, .slice y10.1 h.said.length y10.2, .int .i64 h.code]) rfl rfl (by unfold execOp; simp only [setAll]; go_simp) (setAll_does (show own bo14 ∈ [14] by rw [ho14]; decide) hW14 _ 0 hB) (fRow_set [.slice x1.1 (viewL h).length x1.2, .int .i64 (min h.now 0), .int .i64 h.born, .slice y10.1 h.said.length y10.2, .int .i64 h.code] r14 ho14 hW14 rfl ⟨v14, by show _ = fun q => (val 13).cells.toList.getD q undef; rw [v13]; rfl⟩)
  intro a w5 val own hB hf hown hk
  obtain ⟨k14, bo14, g14, e14, ho14, hW14, r14⟩ := hk 14 (by decide)
  have v14 := one_eq e14
  have s6 := k14 6 rfl
  rw [v14] at s6
  clear k14 e14
  obtain ⟨k1, x1, e1, m1⟩ := hk 1 (by decide)
  have v1 := one_eq e1
  have s13 := k1 13 rfl
  rw [v1] at s13
  clear k1 e1
  obtain ⟨k10, y10, e10, o10, P10⟩ := hk 10 (by decide)
  have v10 := one_eq e10
  have s22 := k10 22 rfl
  rw [v10] at s22
  clear k10 e10
  obtain ⟨k13, f13⟩ := hk 13 (by decide)
  have v13 : val 13 = .agg #[.slice x1.1 (viewL h).length x1.2, .int .i64 (min h.now 0), .int .i64 h.born, .slice y10.1 h.said.length y10.2, .int .i64 h.code] := by have e : val 13 = Value.agg #[val 1, .int .i64 (min h.now 0), .int .i64 h.born, val 10, .int .i64 h.code] := f13; rw [e, v1, v10]
  have s25 := k13 25 rfl
  rw [v13] at s25
  clear k13 f13
  obtain ⟨_, bo15, g15, ⟨e15, hg15⟩, _, _, r15⟩ := hk 15 (by decide)
  have q15 : bo15 = bo14 := by have e : val 14 = _ := e15; rw [v14] at e; injection e with e; injection e with e; injection e with e; exact e.symm
  subst q15
  have hg15 : g15 = fun q => (val 13).cells.toList.getD q undef := hg15
  rw [v13] at hg15
  subst hg15
  have r15 : w5.rowIs bo15 _ _ (fun q => [.slice x1.1 (viewL h).length x1.2, .int .i64 (min h.now 0), .int .i64 h.born, .slice y10.1 h.said.length y10.2, .int .i64 h.code].getD q undef) := r15
  clear e15
  have hT := m1.here hB
  have rO := row_fiveX r15
  clear m1 r15
  have s3 := hf.at (d := 3) (v := .pointer (some ⟨wI.heap.size + 1, 0, none⟩)) (by kernel_rfl) rfl
  have s4 := hf.at (d := 4) (v := .pointer (some ⟨wI.heap.size + 1 + 1, 0, none⟩)) (by kernel_rfl) rfl
  obtain ⟨u, hu0, hv⟩ := frame_any a.tmps (n := 27) hf.size
  have hu : a.tmps = (u 0 :: u 1 :: u 2 :: u 3 :: u 4 :: u 5 :: u 6 :: u 7 :: u 8 :: u 9 :: u 10 :: u 11 :: u 12 :: u 13 :: u 14 :: u 15 :: u 16 :: u 17 :: u 18 :: u 19 :: u 20 :: u 21 :: u 22 :: u 23 :: u 24 :: u 25 :: u 26 :: []).toArray := hu0
  rw [(hv 3).trans s3, (hv 4).trans s4, (hv 6).trans s6] at hu
  obtain rfl := act_eq hu (show a.defers = [] from hf.defers)
  clear hu hu0 hv hk hown hf s3 s4 s6
  obtain ⟨aC, kC⟩ := x1
  obtain ⟨aA, kA⟩ := y10
  dsimp only at hT rO P10
  generalize bo15 = bO at *
  have B5 : Below wI.heap.size wI w5 := B1.trans (hB.mono z1)
  have bz5 := row_below hB bz1
  have z5 := hB.size
  have hO1 : w1.heap.size ≤ bO := hW14
  obtain ⟨⟨y0, y1', y2, y3, y4⟩, _⟩ := five_cells rO
  obtain ⟨⟨u0, u1, u2, u3, u4⟩, f0, f1, f2, f3, f4⟩ := five_cells bz5
  have R9 := five_set4 (five_set3 (five_set2 (five_set1 (five_set0 bz5 (.slice aC (viewL h).length kC)) (.int .i64 (min h.now 0))) (.int .i64 h.born)) (.slice aA h.said.length kA)) (.int .i64 h.code)
  have B9 := ((((B5.setCell (p := ⟨wI.heap.size + 1 + 1, 0, none⟩) hz2 (.slice aC (viewL h).length kC)).setCell (p := ⟨wI.heap.size + 1 + 1, 1, none⟩) hz2 (.int .i64 (min h.now 0))).setCell (p := ⟨wI.heap.size + 1 + 1, 2, none⟩) hz2 (.int .i64 h.born)).setCell (p := ⟨wI.heap.size + 1 + 1, 3, none⟩) hz2 (.slice aA h.said.length kA)).setCell (p := ⟨wI.heap.size + 1 + 1, 4, none⟩) hz2 (.int .i64 h.code)
  have hbl9 : ∀ k, k ≠ wI.heap.size + 1 + 1 → (((((w5.setCell ⟨wI.heap.size + 1 + 1, 0, none⟩ (.slice aC (viewL h).length kC)).setCell ⟨wI.heap.size + 1 + 1, 1, none⟩ (.int .i64 (min h.now 0))).setCell ⟨wI.heap.size + 1 + 1, 2, none⟩ (.int .i64 h.born)).setCell ⟨wI.heap.size + 1 + 1, 3, none⟩ (.slice aA h.said.length kA)).setCell ⟨wI.heap.size + 1 + 1, 4, none⟩ (.int .i64 h.code)).heap[k]? = w5.heap[k]? := fun k hk => ((((Below.heap_setCell _ _ _ _ hk).trans (Below.heap_setCell _ _ _ _ hk)).trans (Below.heap_setCell _ _ _ _ hk)).trans (Below.heap_setCell _ _ _ _ hk)).trans (Below.heap_setCell _ _ _ _ hk)
  have hsz9 : (((((w5.setCell ⟨wI.heap.size + 1 + 1, 0, none⟩ (.slice aC (viewL h).length kC)).setCell ⟨wI.heap.size + 1 + 1, 1, none⟩ (.int .i64 (min h.now 0))).setCell ⟨wI.heap.size + 1 + 1, 2, none⟩ (.int .i64 h.born)).setCell ⟨wI.heap.size + 1 + 1, 3, none⟩ (.slice aA h.said.length kA)).setCell ⟨wI.heap.size + 1 + 1, 4, none⟩ (.int .i64 h.code)).heap.size = w5.heap.size := by simp [World.setCell]
  have HSZ : Hid (w5.heap.size ≤ (((((w5.setCell ⟨wI.heap.size + 1 + 1, 0, none⟩ (.slice aC (viewL h).length kC)).setCell ⟨wI.heap.size + 1 + 1, 1, none⟩ (.int .i64 (min h.now 0))).setCell ⟨wI.heap.size + 1 + 1, 2, none⟩ (.int .i64 h.born)).setCell ⟨wI.heap.size + 1 + 1, 3, none⟩ (.slice aA h.said.length kA)).setCell ⟨wI.heap.size + 1 + 1, 4, none⟩ (.int .i64 h.code)).heap.size) := Nat.le_of_eq hsz9.symm
  clear hsz9
  have hTR : Hid (trimH ms h = ⟨viewL h, min h.now 0, h.born, h.said, h.code⟩) := by
    show trimH ms h = _
    unfold trimH
    rw [if_pos hok, show (if h.now = -1 then (-1 : Int) else 0) = min h.now 0 from min_now (headOk_now hok)]
  go_wp2
  clear y0 y1' y2 y3 y4 u0 u1 u2 u3 u4 f0 f1 f2 f3 f4
  generalize ((((w5.setCell ⟨wI.heap.size + 1 + 1, 0, none⟩ (.slice aC (viewL h).length kC)).setCell ⟨wI.heap.size + 1 + 1, 1, none⟩ (.int .i64 (min h.now 0))).setCell ⟨wI.heap.size + 1 + 1, 2, none⟩ (.int .i64 h.born)).setCell ⟨wI.heap.size + 1 + 1, 3, none⟩ (.slice aA h.said.length kA)).setCell ⟨wI.heap.size + 1 + 1, 4, none⟩ (.int .i64 h.code) = w9 at *
  obtain ⟨⟨q0, q1, q2, q3, q4⟩, _⟩ := five_cells R9
  have HF : HeapFrom wI.heap.size w9 (.slice aC (viewL h).length kC) (.slice aA h.said.length kA) ⟨viewL h, min h.now 0, h.born, h.said, h.code⟩ := fun w2 hs hr => ⟨hT w2 (Nat.le_trans HSZ.out hs) (fun k h1 h2 => (hr k (by omega) (Nat.lt_of_lt_of_le h2 HSZ.out)).trans (hbl9 k (by omega))), (P10.kept (Nat.le_trans HSZ.out hs) (fun q hq => (hr q (by have := (P10.lt q hq).1; omega) (Nat.lt_of_lt_of_le (P10.lt q hq).2 HSZ.out)).trans (hbl9 q (by have := (P10.lt q hq).1; omega)))).at⟩
  exact bodyPost_ret (v := .tuple #[.agg #[.slice aC (viewL h).length kC, .int .i64 (min h.now 0), .int .i64 h.born, .slice aA h.said.length kA, .int .i64 h.code], .bool true]) (by simp [results, Try.results5, go_sem, q0, q1, q2, q3, q4]) rfl ⟨B9, _, _, _, _, by rw [hTR.out], by rw [hTR.out]; exact HF⟩
end Go.Proofs.Ytfpodljalccpnaa
