/-
  The law FnHeapBack, walked: whatever bytes come in, it answers true and writes to nothing that was there, where the table opForms lies as its text lays it.
-/
import Derived.Test.YtlpbklgkafjfmaaGreatDoorDrawHeapStep
import Derived.Test.YtlpbklgkafjfmaaGreatDoorLmStep
import Derived.Test.YtlpbklgkafjfmaaGreatDoorHSame
import Derived.Test.YtlpbklgkafjfmaaGreatDoorLWalk17
import Derived.Lib.MinMax

namespace Go.Proofs.YtlpbklgkafjfmaaGreatDoor
open Go.RowKit
set_option maxRecDepth 100000 in
set_option maxHeartbeats 4000000 in
theorem lawHeapBack_any (w : World) (a : Option Addr) (len cap : Nat) (a2 : Option Addr) (len2 cap2 : Nat) (h : BytesAt w a len cap) (hc2 : len2 ≤ 9223372036854775807) (hT : TabAt w) :
    Calls Tryz.prog 4 #[.slice a len cap, .slice a2 len2 cap2] w fun e w' => e = .returned (.bool true) ∧ Below w.heap.size w w' := by
  have hc := h.1
  have hm := h.2.1
  unfold maxLen at hm
  have HB : Hid (BytesAt w a len cap) := h
  have HT : Hid (TabAt w) := hT
  clear h hT
  by_cases hl : 1048576 < len
  · have hlz : (1048576 : Int) < (len : Int) := by omega
    go_enter Tryz.func4, Tryz.ntmps4
    go_wp2
    go_ret
    exact ⟨rfl, Below.refl _ _⟩
  have hlz : (len : Int) ≤ 1048576 := by omega
  by_cases hl2 : 1048576 < len2
  · have hlz2 : (1048576 : Int) < (len2 : Int) := by omega
    go_enter Tryz.func4, Tryz.ntmps4
    go_wp2
    go_ret
    exact ⟨rfl, Below.refl _ _⟩
  have hlz2 : (len2 : Int) ≤ 1048576 := by omega
  go_enter Tryz.func4, Tryz.ntmps4
  go_wp2_with fail
  refine (drawHeapStep_any _ a len cap HB.out).mono ?_
  rintro e w1 ⟨v, vc, vs, ms, H, rfl, hD, hB1⟩
  obtain ⟨hM1, hH1⟩ := hD.st.here
  have l30 := hD.fine.l30
  have sd100 := hD.fine.sd
  have HPO : Hid (progOk ms = true) := hD.ok
  clear hD
  obtain ⟨aV, cV, hvV, _⟩ := id hM1
  obtain ⟨ac, kc, hvc⟩ := hH1.c.shape
  obtain ⟨aD, kD, hvs⟩ := hH1.s.shape
  subst hvV hvc hvs
  have z1 := hB1.size
  clear HB
  unfold hpCells
  go_upto_region 4 with fail
  have N2 : Below w1.heap.size w1 ((w1.alloc (.cells #[.slice aV ms.length cV] 25)).alloc (.cells #[.slice ac H.calls.length kc, .int .i64 H.now, .int .i64 H.born, .slice aD H.said.length kD, .int .i64 H.code] 29)) := ((Below.refl _ _).alloc (Nat.le_refl _) _).alloc (by simp) _
  have rp := (pbox_new w1 (.slice aV ms.length cV)).alloc (.cells #[.slice ac H.calls.length kc, .int .i64 H.now, .int .i64 H.born, .slice aD H.said.length kD, .int .i64 H.code] 29)
  have rh := five_new (w1.alloc (.cells #[.slice aV ms.length cV] 25)) 29 (.slice ac H.calls.length kc) (.int .i64 H.now) (.int .i64 H.born) (.slice aD H.said.length kD) (.int .i64 H.code)
  simp only [World.size_alloc] at rh
  generalize (w1.alloc (.cells #[.slice aV ms.length cV] 25)).alloc (.cells #[.slice ac H.calls.length kc, .int .i64 H.now, .int .i64 H.born, .slice aD H.said.length kD, .int .i64 H.code] 29) = W2 at *
  have hB2 := hB1.trans (N2.mono z1)
  have z2 := hB2.size
  have HMH : Hid (MethsAt W2 (.slice aV ms.length cV) ms ∧ HeapAt W2 (.slice ac H.calls.length kc) (.slice aD H.said.length kD) H ∧ TabAt W2) := ⟨hM1.below N2, hH1.below N2, HT.out.below hB2⟩
  clear hM1 hH1 hB1 N2 HT
  obtain ⟨⟨d0, d1, d2, d3, d4⟩, _⟩ := five_cells rh
  have dp := rp.cell (i := 0) (by decide)
  have hl1000 : H.calls.length ≤ 1000 := by omega
  go_upto_region 5 with fail
  obtain ⟨K, hK⟩ : ∃ K : Nat, (len2 : Int) % max (H.calls.length : Int) 1 = (K : Int) := ⟨((len2 : Int) % max (H.calls.length : Int) 1).toNat, (Int.toNat_of_nonneg (Int.emod_nonneg _ (by omega))).symm⟩
  have HKb : Hid ((K : Int) < max (H.calls.length : Int) 1) := by show (K : Int) < _; rw [← hK]; exact Int.emod_lt_of_pos _ (by omega)
  rw [hK]
  clear hK
  refine wp_region_fs [[], [], [], [], [], [3, 4], [3, 4, 5], [3, 4, 5, 6], [0, 1, 2, 3, 4, 5, 6, 7], [0, 1, 2, 3, 4, 5, 6, 7, 8], [0, 1, 2, 3, 4, 5, 6, 7, 8, 9], [0, 1, 2, 3, 4, 5, 6, 7, 8, 9], [0, 1, 2, 3, 4, 5, 6, 7, 8, 9], [], [], [0, 1, 2, 3, 4, 5, 6, 7, 8, 9, 10, 13, 14], [0, 1, 2, 3, 4, 5, 6, 7, 8, 9, 10, 11, 13, 14, 15], [0, 1, 2, 3, 4, 5, 6, 7, 8, 9, 10, 11, 12, 13, 14, 15, 16]] [[0], [1], [2], [3], [4], [5], [6], [7], [8], [9, 8], [10, 9], [11, 9], [12, 9], [13], [14], [13, 10], [14, 11], [17, 12]] [[], [], [], [], [], [], [], [], [], [], [], [], [], [], [], [13], [14], []] [fIs (.agg #[.slice aV ms.length cV]), fIs (.agg #[.slice ac H.calls.length kc, .int .i64 H.now, .int .i64 H.born, .slice aD H.said.length kD, .int .i64 H.code]), fIs (.agg #[.int .i64 15, .int .i64 0]), fIs (.agg #[.int .i64 1, .int .i64 7]), fIs (.int .i64 (K : Int)), fIs (.agg #[.int .i64 2, .int .i64 (K : Int)]), fIs (.agg #[.int .i64 1, .int .i64 44]), fGh 7 (fun (x : Value) l => l = [x]) (fun x w1 => OpsAt w1 x [(1, 7), (2, (K : Int)), (1, 44)]), fWith 8 ms H 15 0 [(1, 7), (2, (K : Int)), (1, 44)] (.slice aD H.said.length kD), fOf fun l => l.getD 0 undef = l.getD 1 undef, fOf fun l => l.getD 0 undef = tget (l.getD 1 undef) 0, fOf fun l => l.getD 0 undef = tget (l.getD 1 undef) 1, fOf fun l => l.getD 0 undef = tget (l.getD 1 undef) 2, fBox 13 25 1, fBox 14 29 5, fRow 13 25 1 fun b f l => l.getD 0 undef = .pointer (some ⟨b, 0, none⟩) ∧ f = fun q => (l.getD 1 undef).cells.toList.getD q undef, fRow 14 29 5 fun b f l => l.getD 0 undef = .pointer (some ⟨b, 0, none⟩) ∧ f = fun q => (l.getD 1 undef).cells.toList.getD q undef, fOf fun l => l.getD 0 undef = l.getD 1 undef] 18 rfl (by kernel_rfl) (by kernel_rfl) ?_ ?_
  · refine all_lt_succ (all_lt_succ (all_lt_succ (all_lt_succ (all_lt_succ (all_lt_succ (all_lt_succ (all_lt_succ (all_lt_succ (all_lt_succ (all_lt_succ (all_lt_succ (all_lt_succ (all_lt_succ (all_lt_succ (all_lt_succ (all_lt_succ (all_lt_succ (all_lt_zero) ?_) ?_) ?_) ?_) ?_) ?_) ?_) ?_) ?_) ?_) ?_) ?_) ?_) ?_) ?_) ?_) ?_) ?_
    · intro a w val own hB hf hown hk
      have s5 := hf.at (d := 5) (v := .pointer (some ⟨w1.heap.size, 0, none⟩)) (by kernel_rfl) rfl
      have c0 := cell_below hB dp
      exact rf_pure (v := .agg #[.slice aV ms.length cV]) hB rfl rfl (by unfold execOp; go_simp) rfl
    · intro a w val own hB hf hown hk
      have s6 := hf.at (d := 6) (v := .pointer (some ⟨w1.heap.size + 1, 0, none⟩)) (by kernel_rfl) rfl
      obtain ⟨c0, c1, c2, c3, c4⟩ : _ ∧ _ ∧ _ ∧ _ ∧ _ := ⟨cell_below hB d0, cell_below hB d1, cell_below hB d2, cell_below hB d3, cell_below hB d4⟩
      exact rf_pure (v := .agg #[.slice ac H.calls.length kc, .int .i64 H.now, .int .i64 H.born, .slice aD H.said.length kD, .int .i64 H.code]) hB rfl rfl (by unfold execOp; go_simp) rfl
    · intro a w val own hB hf hown hk
      exact rf_pure (v := .agg #[.int .i64 15, .int .i64 0]) hB rfl rfl (by unfold execOp; go_simp) rfl
    · intro a w val own hB hf hown hk
      exact rf_call hB rfl rfl (by unfold execOp; go_simp) ((lmNum_any 7 w).mono fun e w' ⟨he, hb⟩ => ⟨_, he, hb, rfl⟩)
    · intro a w val own hB hf hown hk
      have s7 := hf.at (d := 7) (v := .int .i64 (K : Int)) (by kernel_rfl) rfl
      exact rf_pure (v := .int .i64 (K : Int)) hB rfl rfl (by unfold execOp; go_simp) rfl
    · intro a w val own hB hf hown hk
      obtain ⟨k4, f4⟩ := hk 4 (show 4 ∈ [3, 4] by decide)
      have s40 := k4 40 rfl
      rw [fIs_out f4] at s40
      clear k4 f4
      exact rf_call hB rfl rfl (by unfold execOp; go_simp) ((lmOf_any ((K : Int)) w).mono fun e w' ⟨he, hb⟩ => ⟨_, he, hb, rfl⟩)
    · intro a w val own hB hf hown hk
      exact rf_call hB rfl rfl (by unfold execOp; go_simp) ((lmNum_any 44 w).mono fun e w' ⟨he, hb⟩ => ⟨_, he, hb, rfl⟩)
    · intro a w val own hB hf hown hk
      obtain ⟨k3, f3⟩ := hk 3 (show 3 ∈ [3, 4, 5, 6] by decide)
      have s39 := k3 39 rfl
      rw [fIs_out f3] at s39
      clear k3 f3
      obtain ⟨k5, f5⟩ := hk 5 (show 5 ∈ [3, 4, 5, 6] by decide)
      have s41 := k5 41 rfl
      rw [fIs_out f5] at s41
      clear k5 f5
      obtain ⟨k6, f6⟩ := hk 6 (show 6 ∈ [3, 4, 5, 6] by decide)
      have s42 := k6 42 rfl
      rw [fIs_out f6] at s42
      clear k6 f6
      exact rf_new (v := .slice (some ⟨w.heap.size, 0, none⟩) 3 3) (w' := w.alloc (.cells #[.int .i64 1, .int .i64 7, .int .i64 2, .int .i64 (K : Int), .int .i64 1, .int .i64 44] 37)) hB rfl rfl (by unfold execOp; go_simp) ((Below.refl _ _).alloc (Nat.le_refl _) _) ⟨_, rfl, Made.new fun w1 _ _ hr => (three_vals w 1 7 2 ((K : Int)) 1 44 37 3).of_block (hr _ (Nat.le_refl _) (by simp))⟩
    · intro a w val own hB hf hown hk
      obtain ⟨k0, f0⟩ := hk 0 (show 0 ∈ [0, 1, 2, 3, 4, 5, 6, 7] by decide)
      have s36 := k0 36 rfl
      rw [fIs_out f0] at s36
      clear k0 f0
      obtain ⟨k1, f1⟩ := hk 1 (show 1 ∈ [0, 1, 2, 3, 4, 5, 6, 7] by decide)
      have s37 := k1 37 rfl
      rw [fIs_out f1] at s37
      clear k1 f1
      obtain ⟨k2, f2⟩ := hk 2 (show 2 ∈ [0, 1, 2, 3, 4, 5, 6, 7] by decide)
      have s38 := k2 38 rfl
      rw [fIs_out f2] at s38
      clear k2 f2
      obtain ⟨k7, x7, e7, m7⟩ := hk 7 (show 7 ∈ [0, 1, 2, 3, 4, 5, 6, 7] by decide)
      have v7 := one_eq e7
      have s43 := k7 43 rfl
      rw [v7] at s43
      clear k7 e7
      exact rf_call hB rfl rfl (by unfold execOp hpCells; go_simp) (with_call (x := 0) (vc := .slice ac H.calls.length kc) HMH.out.1 HMH.out.2.1 hB (m7.here hB) hl1000 HPO.out (by simp))
    · intro a w val own hB hf hown hk
      have s44 := (hk 8 (show 8 ∈ [0, 1, 2, 3, 4, 5, 6, 7, 8] by decide)).1 44 rfl
      exact rf_pure (v := val 8) hB rfl rfl (by unfold execOp; go_simp) rfl
    · intro a w val own hB hf hown hk
      obtain ⟨k8, ⟨aq, cq, ag, kg, qs, g, ok⟩, ⟨e8, hX⟩, mX⟩ := hk 8 (show 8 ∈ [0, 1, 2, 3, 4, 5, 6, 7, 8, 9] by decide)
      have v8 := one_eq e8
      have s44 := k8 44 rfl
      unfold WG.val at v8
      dsimp only at v8 hX mX
      rw [v8] at s44
      clear k8 e8
      obtain ⟨k9, f9⟩ := hk 9 (show 9 ∈ [0, 1, 2, 3, 4, 5, 6, 7, 8, 9] by decide)
      have v9 : val 9 = _ := Eq.trans f9 v8
      have s35 := k9 35 rfl
      rw [v9] at s35
      clear k9 f9
      exact rf_pure (v := .agg #[.slice aq qs.length cq]) hB rfl rfl (by unfold execOp; go_simp) (by show _ = tget (val 9) 0; rw [v9]; rfl)
    · intro a w val own hB hf hown hk
      obtain ⟨k8, ⟨aq, cq, ag, kg, qs, g, ok⟩, ⟨e8, hX⟩, mX⟩ := hk 8 (show 8 ∈ [0, 1, 2, 3, 4, 5, 6, 7, 8, 9] by decide)
      have v8 := one_eq e8
      have s44 := k8 44 rfl
      unfold WG.val at v8
      dsimp only at v8 hX mX
      rw [v8] at s44
      clear k8 e8
      obtain ⟨k9, f9⟩ := hk 9 (show 9 ∈ [0, 1, 2, 3, 4, 5, 6, 7, 8, 9] by decide)
      have v9 : val 9 = _ := Eq.trans f9 v8
      have s35 := k9 35 rfl
      rw [v9] at s35
      clear k9 f9
      exact rf_pure (v := .agg #[.slice ag g.calls.length kg, .int .i64 g.now, .int .i64 g.born, .slice aD H.said.length kD, .int .i64 g.code]) hB rfl rfl (by unfold execOp; go_simp) (by show _ = tget (val 9) 1; rw [v9]; rfl)
    · intro a w val own hB hf hown hk
      obtain ⟨k8, ⟨aq, cq, ag, kg, qs, g, ok⟩, ⟨e8, hX⟩, mX⟩ := hk 8 (show 8 ∈ [0, 1, 2, 3, 4, 5, 6, 7, 8, 9] by decide)
      have v8 := one_eq e8
      have s44 := k8 44 rfl
      unfold WG.val at v8
      dsimp only at v8 hX mX
      rw [v8] at s44
      clear k8 e8
      obtain ⟨k9, f9⟩ := hk 9 (show 9 ∈ [0, 1, 2, 3, 4, 5, 6, 7, 8, 9] by decide)
      have v9 : val 9 = _ := Eq.trans f9 v8
      have s35 := k9 35 rfl
      rw [v9] at s35
      clear k9 f9
      exact rf_pure (v := .bool ok) hB rfl rfl (by unfold execOp; go_simp) (by show _ = tget (val 9) 2; rw [v9]; rfl)
    · intro a w val own hB hf hown hk
      exact rf_new (v := .pointer (some ⟨w.heap.size, 0, none⟩)) (w' := w.alloc (.cells #[.slice none 0 0] 25)) hB rfl rfl (by unfold execOp; go_simp) ((Below.refl _ _).alloc (Nat.le_refl _) _) (fBox_new hB #[.slice none 0 0])
    · intro a w val own hB hf hown hk
      exact rf_new (v := .pointer (some ⟨w.heap.size, 0, none⟩)) (w' := w.alloc (.cells #[.slice none 0 0, .int .i64 0, .int .i64 0, .slice none 0 0, .int .i64 0] 29)) hB rfl rfl (by unfold execOp; go_simp) ((Below.refl _ _).alloc (Nat.le_refl _) _) (fBox_new hB #[.slice none 0 0, .int .i64 0, .int .i64 0, .slice none 0 0, .int .i64 0])
    · intro a w val own hB hf hown hk
      obtain ⟨k13, bo13, g13, e13, ho13, hW13, r13⟩ := hk 13 (show 13 ∈ [0, 1, 2, 3, 4, 5, 6, 7, 8, 9, 10, 13, 14] by decide)
      have v13 := one_eq e13
      have s8 := k13 8 rfl
      rw [v13] at s8
      clear k13 e13
      obtain ⟨k8, ⟨aq, cq, ag, kg, qs, g, ok⟩, ⟨e8, hX⟩, mX⟩ := hk 8 (show 8 ∈ [0, 1, 2, 3, 4, 5, 6, 7, 8, 9, 10, 13, 14] by decide)
      have v8 := one_eq e8
      have s44 := k8 44 rfl
      unfold WG.val at v8
      dsimp only at v8 hX mX
      rw [v8] at s44
      clear k8 e8
      obtain ⟨k9, f9⟩ := hk 9 (show 9 ∈ [0, 1, 2, 3, 4, 5, 6, 7, 8, 9, 10, 13, 14] by decide)
      have v9 : val 9 = _ := Eq.trans f9 v8
      have s35 := k9 35 rfl
      rw [v9] at s35
      clear k9 f9
      obtain ⟨k10, f10⟩ := hk 10 (show 10 ∈ [0, 1, 2, 3, 4, 5, 6, 7, 8, 9, 10, 13, 14] by decide)
      have v10 : val 10 = .agg #[.slice aq qs.length cq] := by have e : val 10 = tget (val 9) 0 := f10; rw [e, v9]; rfl
      have s45 := k10 45 rfl
      rw [v10] at s45
      clear k10 f10
      have c0 := r13.cell (i := 0) (by decide)
      have z0 := r13.frozen 0
      exact rf_set (w' := setAll w bo13 0 [.slice aq qs.length cq]) rfl rfl (by unfold execOp; simp only [setAll]; go_simp) (setAll_does (show own bo13 ∈ [13] by rw [ho13]; decide) hW13 _ 0 hB) (fRow_set [.slice aq qs.length cq] r13 ho13 hW13 rfl ⟨v13, by show _ = fun q => (val 10).cells.toList.getD q undef; rw [v10]; rfl⟩)
    · intro a w val own hB hf hown hk
      obtain ⟨k14, bo14, g14, e14, ho14, hW14, r14⟩ := hk 14 (show 14 ∈ [0, 1, 2, 3, 4, 5, 6, 7, 8, 9, 10, 11, 13, 14, 15] by decide)
      have v14 := one_eq e14
      have s9 := k14 9 rfl
      rw [v14] at s9
      clear k14 e14
      obtain ⟨k8, ⟨aq, cq, ag, kg, qs, g, ok⟩, ⟨e8, hX⟩, mX⟩ := hk 8 (show 8 ∈ [0, 1, 2, 3, 4, 5, 6, 7, 8, 9, 10, 11, 13, 14, 15] by decide)
      have v8 := one_eq e8
      have s44 := k8 44 rfl
      unfold WG.val at v8
      dsimp only at v8 hX mX
      rw [v8] at s44
      clear k8 e8
      obtain ⟨k9, f9⟩ := hk 9 (show 9 ∈ [0, 1, 2, 3, 4, 5, 6, 7, 8, 9, 10, 11, 13, 14, 15] by decide)
      have v9 : val 9 = _ := Eq.trans f9 v8
      have s35 := k9 35 rfl
      rw [v9] at s35
      clear k9 f9
      obtain ⟨k11, f11⟩ := hk 11 (show 11 ∈ [0, 1, 2, 3, 4, 5, 6, 7, 8, 9, 10, 11, 13, 14, 15] by decide)
      have v11 : val 11 = .agg #[.slice ag g.calls.length kg, .int .i64 g.now, .int .i64 g.born, .slice aD H.said.length kD, .int .i64 g.code] := by have e : val 11 = tget (val 9) 1 := f11; rw [e, v9]; rfl
      have s46 := k11 46 rfl
      rw [v11] at s46
      clear k11 f11
      have c0 := r14.cell (i := 0) (by decide)
      have c1 := r14.cell (i := 1) (by decide)
      have c2 := r14.cell (i := 2) (by decide)
      have c3 := r14.cell (i := 3) (by decide)
      have c4 := r14.cell (i := 4) (by decide)
      have z0 := r14.frozen 0
      have z1 := r14.frozen 1
      have z2 := r14.frozen 2
      have z3 := r14.frozen 3
      have z4 := r14.frozen 4
      exact rf_set (w' := setAll w bo14 0 [.slice ag g.calls.length kg, .int .i64 g.now, .int .i64 g.born, .slice aD H.said.length kD, .int .i64 g.code]) rfl rfl (by unfold execOp; simp only [setAll]; go_simp) (setAll_does (show own bo14 ∈ [14] by rw [ho14]; decide) hW14 _ 0 hB) (fRow_set [.slice ag g.calls.length kg, .int .i64 g.now, .int .i64 g.born, .slice aD H.said.length kD, .int .i64 g.code] r14 ho14 hW14 rfl ⟨v14, by show _ = fun q => (val 11).cells.toList.getD q undef; rw [v11]; rfl⟩)
    · intro a w val own hB hf hown hk
      have s47 := (hk 12 (show 12 ∈ [0, 1, 2, 3, 4, 5, 6, 7, 8, 9, 10, 11, 12, 13, 14, 15, 16] by decide)).1 47 rfl
      exact rf_pure (v := val 12) hB rfl rfl (by unfold execOp; go_simp) rfl
  intro a w3 val own hB hf hown hk
  obtain ⟨k13, bo13, g13, e13, ho13, hW13, r13⟩ := hk 13 (by decide)
  have v13 := one_eq e13
  have s8 := k13 8 rfl
  rw [v13] at s8
  clear k13 e13
  obtain ⟨k8, ⟨aq, cq, ag, kg, qs, g, ok⟩, ⟨e8, hX⟩, mX⟩ := hk 8 (by decide)
  have v8 := one_eq e8
  have s44 := k8 44 rfl
  unfold WG.val at v8
  dsimp only at v8 hX mX
  rw [v8] at s44
  clear k8 e8
  obtain ⟨k9, f9⟩ := hk 9 (by decide)
  have v9 : val 9 = _ := Eq.trans f9 v8
  have s35 := k9 35 rfl
  rw [v9] at s35
  clear k9 f9
  obtain ⟨k10, f10⟩ := hk 10 (by decide)
  have v10 : val 10 = .agg #[.slice aq qs.length cq] := by have e : val 10 = tget (val 9) 0 := f10; rw [e, v9]; rfl
  have s45 := k10 45 rfl
  rw [v10] at s45
  clear k10 f10
  obtain ⟨_, bo15, g15, ⟨e15, hg15⟩, _, _, r15⟩ := hk 15 (by decide)
  have q15 : bo15 = bo13 := by have e : val 13 = _ := e15; rw [v13] at e; injection e with e; injection e with e; injection e with e; exact e.symm
  subst q15
  have hg15 : g15 = fun q => (val 10).cells.toList.getD q undef := hg15
  rw [v10] at hg15
  subst hg15
  have r15 : w3.rowIs bo15 _ _ (fun q => [.slice aq qs.length cq].getD q undef) := r15
  clear e15
  obtain ⟨k14, bo14, g14, e14, ho14, hW14, r14⟩ := hk 14 (by decide)
  have v14 := one_eq e14
  have s9 := k14 9 rfl
  rw [v14] at s9
  clear k14 e14
  obtain ⟨k11, f11⟩ := hk 11 (by decide)
  have v11 : val 11 = .agg #[.slice ag g.calls.length kg, .int .i64 g.now, .int .i64 g.born, .slice aD H.said.length kD, .int .i64 g.code] := by have e : val 11 = tget (val 9) 1 := f11; rw [e, v9]; rfl
  have s46 := k11 46 rfl
  rw [v11] at s46
  clear k11 f11
  obtain ⟨_, bo16, g16, ⟨e16, hg16⟩, _, _, r16⟩ := hk 16 (by decide)
  have q16 : bo16 = bo14 := by have e : val 14 = _ := e16; rw [v14] at e; injection e with e; injection e with e; injection e with e; exact e.symm
  subst q16
  have hg16 : g16 = fun q => (val 11).cells.toList.getD q undef := hg16
  rw [v11] at hg16
  subst hg16
  have r16 : w3.rowIs bo16 _ _ (fun q => [.slice ag g.calls.length kg, .int .i64 g.now, .int .i64 g.born, .slice aD H.said.length kD, .int .i64 g.code].getD q undef) := r16
  clear e16
  obtain ⟨k12, f12⟩ := hk 12 (by decide)
  have v12 : val 12 = .bool ok := by have e : val 12 = tget (val 9) 2 := f12; rw [e, v9]; rfl
  have s47 := k12 47 rfl
  rw [v12] at s47
  clear k12 f12
  obtain ⟨k17, f17⟩ := hk 17 (by decide)
  have v17 : val 17 = _ := Eq.trans f17 v12
  have s10 := k17 10 rfl
  rw [v17] at s10
  clear k17 f17
  have s5 := hf.at (d := 5) (v := .pointer (some ⟨w1.heap.size, 0, none⟩)) (by kernel_rfl) rfl
  have s6 := hf.at (d := 6) (v := .pointer (some ⟨w1.heap.size + 1, 0, none⟩)) (by kernel_rfl) rfl
  have s7 := hf.at (d := 7) (v := .int .i64 (K : Int)) (by kernel_rfl) rfl
  obtain ⟨u, hu0, hv⟩ := frame_any a.tmps (n := 126) hf.size
  have hu : a.tmps = (u 0 :: u 1 :: u 2 :: u 3 :: u 4 :: u 5 :: u 6 :: u 7 :: u 8 :: u 9 :: u 10 :: u 11 :: u 12 :: u 13 :: u 14 :: u 15 :: u 16 :: u 17 :: u 18 :: u 19 :: u 20 :: u 21 :: u 22 :: u 23 :: u 24 :: u 25 :: u 26 :: u 27 :: u 28 :: u 29 :: u 30 :: u 31 :: u 32 :: u 33 :: u 34 :: u 35 :: u 36 :: u 37 :: u 38 :: u 39 :: u 40 :: u 41 :: u 42 :: u 43 :: u 44 :: u 45 :: u 46 :: u 47 :: u 48 :: u 49 :: u 50 :: u 51 :: u 52 :: u 53 :: u 54 :: u 55 :: u 56 :: u 57 :: u 58 :: u 59 :: u 60 :: u 61 :: u 62 :: u 63 :: u 64 :: u 65 :: u 66 :: u 67 :: u 68 :: u 69 :: u 70 :: u 71 :: u 72 :: u 73 :: u 74 :: u 75 :: u 76 :: u 77 :: u 78 :: u 79 :: u 80 :: u 81 :: u 82 :: u 83 :: u 84 :: u 85 :: u 86 :: u 87 :: u 88 :: u 89 :: u 90 :: u 91 :: u 92 :: u 93 :: u 94 :: u 95 :: u 96 :: u 97 :: u 98 :: u 99 :: u 100 :: u 101 :: u 102 :: u 103 :: u 104 :: u 105 :: u 106 :: u 107 :: u 108 :: u 109 :: u 110 :: u 111 :: u 112 :: u 113 :: u 114 :: u 115 :: u 116 :: u 117 :: u 118 :: u 119 :: u 120 :: u 121 :: u 122 :: u 123 :: u 124 :: u 125 :: []).toArray := hu0
  rw [(hv 5).trans s5, (hv 6).trans s6, (hv 7).trans s7, (hv 8).trans s8, (hv 9).trans s9, (hv 10).trans s10] at hu
  obtain rfl := act_eq hu (show a.defers = [] from hf.defers)
  obtain ⟨hM3, hH3⟩ := mX.here hB
  have rq := row_one r15
  have rg := row_five r16
  have hB3 := hB
  clear hu hu0 hv hk hown hf mX hB s5 s6 s7 s8 s9 s10
  generalize bo15 = bq at *
  generalize bo16 = bg at *
  clear d0 d1 d2 d3 d4 dp rp rh
  have z3 := hB3.size
  have hlg : g.calls.length ≤ 1000 := by have := hX.l; omega
  have hsg : g.said.length ≤ 1048576 := by rw [hX.s]; omega
  have hT3 := HMH.out.2.2.below hB3
  have HI := implHeapStep_any _ _ _ qs g w3 hM3 hT3 hH3 hlg hsg
  have HMX : Hid (MethsAt w3 (.slice aq (List.length qs) cq) qs ∧ HeapAt w3 (.slice ag g.calls.length kg) (.slice aD H.said.length kD) g ∧ WithOk ms H 15 0 [(1, 7), (2, (K : Int)), (1, 44)] qs g ok) := ⟨hM3, hH3, hX⟩
  have HRE : Hid (ok = true → heapOk qs g = true ∧ hRun qs g 1 = (backH (afterH g [(1, 7)]) K (1, 44)) ∧ Good qs g ∧ ∃ j : Nat, g.now = (j : Int) ∧ ∃ hj : j < g.calls.length, 0 ≤ g.calls[j].pc ∧ g.calls[j].pc ≤ 1000) := fun e => by
    subst e
    obtain ⟨_, _, _, ho⟩ := hX.yes rfl
    have hA := with_at hX
    obtain ⟨hg, hc, hr, hs, j, m, pc, hj, hm, hpl, hn, hcur, hst, hme, hpc, hop⟩ := hA
    refine ⟨ho, ?_, hg, j, hn, hj, ?_⟩
    · have e := with_step hX (t := 2) (l := 1) rfl (by simp) rfl; rw [e]; rfl
    · have := (hg.cl j hj).pc
      have hp := hg.head.p
      unfold progOk at hp
      simp only [Bool.and_eq_true] at hp
      have ha := List.all_eq_true.1 hp.2 _ (List.getElem_mem hm)
      unfold methOk at ha
      simp only [Bool.and_eq_true, decide_eq_true_eq] at ha
      have h14 := ha.1.2
      rw [hpc]
      omega
  clear hM3 hH3 hX hT3
  generalize hRun qs g 1 = R at *
  obtain ⟨fb, hfb⟩ : ∃ fb, heapOk qs g = fb := ⟨_, rfl⟩
  rw [hfb] at HI
  have HFB : Hid (heapOk qs g = fb) := hfb
  clear hfb
  unfold hpCells at HI
  obtain ⟨⟨d0, d1, d2, d3, d4⟩, _⟩ := five_cells rg
  have dp := rq.cell (i := 0) (by decide)
  go_wp2_with fail
  refine HI.mono ?_
  rintro e w5 ⟨⟨vc5, vs5, V5, rfl, hO5⟩, hb5⟩
  obtain ⟨a5, k5, hv5⟩ := hO5.at.c.shape
  obtain ⟨b5, l5, hs5⟩ := hO5.at.s.shape
  subst hv5 hs5
  have z5 := hb5.size
  have rq5 := row_below hb5 rq
  have rg5 := row_below hb5 rg
  clear HI d0 d1 d2 d3 d4 dp rq rg
  go_upto_region 7 with fail
  have N6 : Below w5.heap.size w5 (w5.alloc (.cells #[.slice a5 R.calls.length k5, .int .i64 R.now, .int .i64 R.born, .slice b5 R.said.length l5, .int .i64 R.code] 29)) := (Below.refl _ _).alloc (Nat.le_refl _) _
  have rx6 := five_new w5 29 (.slice a5 R.calls.length k5) (.int .i64 R.now) (.int .i64 R.born) (.slice b5 R.said.length l5) (.int .i64 R.code)
  have rq6 := row_below N6 rq5
  have rg6 := row_below N6 rg5
  have b6 := hb5.trans (N6.mono z5)
  have HX6 : Hid (HeapAt (w5.alloc (.cells #[.slice a5 R.calls.length k5, .int .i64 R.now, .int .i64 R.born, .slice b5 R.said.length l5, .int .i64 R.code] 29)) (.slice a5 R.calls.length k5) (.slice b5 R.said.length l5) R) := hO5.at.below N6
  have HXO : Hid (OwnHeap w3.heap.size (w5.alloc (.cells #[.slice a5 R.calls.length k5, .int .i64 R.now, .int .i64 R.born, .slice b5 R.said.length l5, .int .i64 R.code] 29)) (.slice a5 R.calls.length k5) (.slice b5 R.said.length l5) R V5) := hO5.below N6
  clear hO5 rq5 rg5 N6
  generalize w5.alloc (.cells #[.slice a5 R.calls.length k5, .int .i64 R.now, .int .i64 R.born, .slice b5 R.said.length l5, .int .i64 R.code] 29) = W6 at *
  generalize w5.heap.size = bx at *
  have HM6 : Hid (MethsAt W6 (.slice aq (List.length qs) cq) qs ∧ HeapAt W6 (.slice ag g.calls.length kg) (.slice aD H.said.length kD) g) := ⟨HMX.out.1.below b6, HMX.out.2.1.below b6⟩
  have hB6 := (hB2.trans (hB3.mono z2)).trans (b6.mono (by have := hB2.size; omega))
  have z6 := hB6.size
  cases ok
  · have HOK := specHeapOk_any _ _ _ qs g W6 HM6.out.1 HM6.out.2 (by omega)
    rw [HFB.out] at HOK
    unfold hpCells at HOK
    obtain ⟨⟨d0, d1, d2, d3, d4⟩, _⟩ := five_cells rg6
    have dp := rq6.cell (i := 0) (by decide)
    go_wp2_with fail
    refine HOK.mono ?_
    rintro e w7 ⟨rfl, hb7⟩
    go_wp2
    go_ret
    exact ⟨ret_bool (by cases fb <;> rfl), hB6.trans (hb7.mono z6)⟩
  obtain ⟨hfb, hRE, hgd, j, hnj, hj, hpcj⟩ := HRE.out rfl
  have hfb2 : fb = true := by rw [← HFB.out]; exact hfb
  subst hfb2
  have HRA : Hid (R = (backH (afterH g [(1, 7)]) K (1, 44))) := hRE
  have HGN : Hid (Good qs g ∧ g.now = (j : Int) ∧ j < g.calls.length) := ⟨hgd, hnj, hj⟩
  clear hRE HRE hfb hnj hgd
  obtain ⟨A, hA⟩ : ∃ A : Hp, A = afterH g [(1, 7)] := ⟨_, rfl⟩
  have HAA : Hid (A = afterH g [(1, 7)]) := hA
  have HAn : Hid (A.now = (j : Int) ∧ A.calls.length = g.calls.length ∧ A.born = g.born ∧ A.said = g.said ∧ A.code = g.code) := by obtain ⟨x1, x2, x3, x4, x5⟩ := afterH_fields g [(1, 7)]; rw [hA]; exact ⟨x1.trans HGN.out.2.1, x2, x3, x4, x5⟩
  clear hA
  have HAF : Hid (∀ (W : World) (vk : Value), Below W6.heap.size W6 W → OpsAt W vk [(1, 7)] → Calls Tryz.prog 10 #[.agg #[.slice ag g.calls.length kg, .int .i64 g.now, .int .i64 g.born, .slice aD H.said.length kD, .int .i64 g.code], vk] W fun e w' => (∃ vc' vs' V', e = .returned (.agg (hpCells vc' vs' A)) ∧ OwnHeap W.heap.size w' vc' vs' A V') ∧ Below W.heap.size W w') := fun W vk hW hk => by
    rw [HAA.out]
    have hl := HGN.out.1.lens
    exact lmAfter_any _ _ vk g _ j W (HM6.out.2.below hW) hk HGN.out.2.1 hj hpcj (by simp) (by omega) (fun i hi => by have := hl.2 i hi; omega) (by omega)
  go_wp2_with fail
  refine wp_region_fs [[], [], [1], [0, 1, 2], [], [0, 1, 2, 3, 4]] [[0], [1], [2], [3], [4], [4, 3]] [[], [], [], [], [], [4]] [fIs (.agg #[.slice ag g.calls.length kg, .int .i64 g.now, .int .i64 g.born, .slice aD H.said.length kD, .int .i64 g.code]), fIs (.agg #[.int .i64 1, .int .i64 7]), fGh 2 (fun (x : Value) l => l = [x]) (fun x w1 => OpsAt w1 x [(1, 7)]), fAfter 3 A, fBox 4 29 5, fRow 4 29 5 fun b f l => l.getD 0 undef = .pointer (some ⟨b, 0, none⟩) ∧ f = fun q => (l.getD 1 undef).cells.toList.getD q undef] 6 rfl (by kernel_rfl) (by kernel_rfl) ?_ ?_
  · refine all_lt_succ (all_lt_succ (all_lt_succ (all_lt_succ (all_lt_succ (all_lt_succ (all_lt_zero) ?_) ?_) ?_) ?_) ?_) ?_
    · intro a w val own hB hf hown hk
      have s9 := hf.at (d := 9) (v := .pointer (some ⟨bg, 0, none⟩)) (by kernel_rfl) rfl
      obtain ⟨⟨c0, c1, c2, c3, c4⟩, _⟩ := five_cells (row_below hB rg6)
      exact rf_pure (v := .agg #[.slice ag g.calls.length kg, .int .i64 g.now, .int .i64 g.born, .slice aD H.said.length kD, .int .i64 g.code]) hB rfl rfl (by unfold execOp; go_simp) rfl
    · intro a w val own hB hf hown hk
      exact rf_call hB rfl rfl (by unfold execOp; go_simp) ((lmNum_any 7 w).mono fun e w' ⟨he, hb⟩ => ⟨_, he, hb, rfl⟩)
    · intro a w val own hB hf hown hk
      obtain ⟨k1, f1⟩ := hk 1 (show 1 ∈ [1] by decide)
      have s62 := k1 62 rfl
      rw [fIs_out f1] at s62
      clear k1 f1
      exact rf_new (v := .slice (some ⟨w.heap.size, 0, none⟩) 1 1) (w' := w.alloc (.cells #[.int .i64 1, .int .i64 7] 37)) hB rfl rfl (by unfold execOp; go_simp) ((Below.refl _ _).alloc (Nat.le_refl _) _) ⟨_, rfl, Made.new fun w1 _ _ hr => (one_vals w 1 7 37 1).of_block (hr _ (Nat.le_refl _) (by simp))⟩
    · intro a w val own hB hf hown hk
      obtain ⟨k0, f0⟩ := hk 0 (show 0 ∈ [0, 1, 2] by decide)
      have s61 := k0 61 rfl
      rw [fIs_out f0] at s61
      clear k0 f0
      obtain ⟨k2, x2, e2, m2⟩ := hk 2 (show 2 ∈ [0, 1, 2] by decide)
      have v2 := one_eq e2
      have s63 := k2 63 rfl
      rw [v2] at s63
      clear k2 e2
      exact rf_call hB rfl rfl (by unfold execOp; go_simp) (after_call hB (HAF.out w x2 hB (m2.here hB)))
    · intro a w val own hB hf hown hk
      exact rf_new (v := .pointer (some ⟨w.heap.size, 0, none⟩)) (w' := w.alloc (.cells #[.slice none 0 0, .int .i64 0, .int .i64 0, .slice none 0 0, .int .i64 0] 29)) hB rfl rfl (by unfold execOp; go_simp) ((Below.refl _ _).alloc (Nat.le_refl _) _) (fBox_new hB #[.slice none 0 0, .int .i64 0, .int .i64 0, .slice none 0 0, .int .i64 0])
    · intro a w val own hB hf hown hk
      obtain ⟨k4, bo4, g4, e4, ho4, hW4, r4⟩ := hk 4 (show 4 ∈ [0, 1, 2, 3, 4] by decide)
      have v4 := one_eq e4
      have s13 := k4 13 rfl
      rw [v4] at s13
      clear k4 e4
      obtain ⟨k3, ⟨aA, kA, bA, lA, VA⟩, e3, o3, m3⟩ := hk 3 (show 3 ∈ [0, 1, 2, 3, 4] by decide)
      have v3 : val 3 = .agg #[.slice aA A.calls.length kA, .int .i64 A.now, .int .i64 A.born, .slice bA A.said.length lA, .int .i64 A.code] := one_eq e3
      have s64 := k3 64 rfl
      rw [v3] at s64
      dsimp only at m3 o3
      clear k3 e3
      have c0 := r4.cell (i := 0) (by decide)
      have c1 := r4.cell (i := 1) (by decide)
      have c2 := r4.cell (i := 2) (by decide)
      have c3 := r4.cell (i := 3) (by decide)
      have c4 := r4.cell (i := 4) (by decide)
      have z0 := r4.frozen 0
      have z1 := r4.frozen 1
      have z2 := r4.frozen 2
      have z3 := r4.frozen 3
      have z4 := r4.frozen 4
      exact rf_set (w' := setAll w bo4 0 [.slice aA A.calls.length kA, .int .i64 A.now, .int .i64 A.born, .slice bA A.said.length lA, .int .i64 A.code]) rfl rfl (by unfold execOp; simp only [setAll]; go_simp) (setAll_does (show own bo4 ∈ [4] by rw [ho4]; decide) hW4 _ 0 hB) (fRow_set [.slice aA A.calls.length kA, .int .i64 A.now, .int .i64 A.born, .slice bA A.said.length lA, .int .i64 A.code] r4 ho4 hW4 rfl ⟨v4, by show _ = fun q => (val 3).cells.toList.getD q undef; rw [v3]; rfl⟩)
  intro a w9 val own hB hf hown hk
  obtain ⟨k4, bo4, g4, e4, ho4, hW4, r4⟩ := hk 4 (by decide)
  have v4 := one_eq e4
  have s13 := k4 13 rfl
  rw [v4] at s13
  clear k4 e4
  obtain ⟨k3, ⟨aA, kA, bA, lA, VA⟩, e3, o3, m3⟩ := hk 3 (by decide)
  have v3 : val 3 = .agg #[.slice aA A.calls.length kA, .int .i64 A.now, .int .i64 A.born, .slice bA A.said.length lA, .int .i64 A.code] := one_eq e3
  have s64 := k3 64 rfl
  rw [v3] at s64
  dsimp only at m3 o3
  clear k3 e3
  obtain ⟨_, bo5, g5, ⟨e5, hg5⟩, _, _, r5⟩ := hk 5 (by decide)
  have q5 : bo5 = bo4 := by have e : val 4 = _ := e5; rw [v4] at e; injection e with e; injection e with e; injection e with e; exact e.symm
  subst q5
  have hg5 : g5 = fun q => (val 3).cells.toList.getD q undef := hg5
  rw [v3] at hg5
  subst hg5
  have r5 : w9.rowIs bo5 _ _ (fun q => [.slice aA A.calls.length kA, .int .i64 A.now, .int .i64 A.born, .slice bA A.said.length lA, .int .i64 A.code].getD q undef) := r5
  clear e5
  have s5 := hf.at (d := 5) (v := .pointer (some ⟨w1.heap.size, 0, none⟩)) (by kernel_rfl) rfl
  have s6 := hf.at (d := 6) (v := .pointer (some ⟨w1.heap.size + 1, 0, none⟩)) (by kernel_rfl) rfl
  have s7 := hf.at (d := 7) (v := .int .i64 (K : Int)) (by kernel_rfl) rfl
  have s8 := hf.at (d := 8) (v := .pointer (some ⟨bq, 0, none⟩)) (by kernel_rfl) rfl
  have s9 := hf.at (d := 9) (v := .pointer (some ⟨bg, 0, none⟩)) (by kernel_rfl) rfl
  have s11 := hf.at (d := 11) (v := .pointer (some ⟨bx, 0, none⟩)) (by kernel_rfl) rfl
  have s12 := hf.at (d := 12) (v := .bool true) (by kernel_rfl) rfl
  obtain ⟨u, hu0, hv⟩ := frame_any a.tmps (n := 126) hf.size
  have hu : a.tmps = (u 0 :: u 1 :: u 2 :: u 3 :: u 4 :: u 5 :: u 6 :: u 7 :: u 8 :: u 9 :: u 10 :: u 11 :: u 12 :: u 13 :: u 14 :: u 15 :: u 16 :: u 17 :: u 18 :: u 19 :: u 20 :: u 21 :: u 22 :: u 23 :: u 24 :: u 25 :: u 26 :: u 27 :: u 28 :: u 29 :: u 30 :: u 31 :: u 32 :: u 33 :: u 34 :: u 35 :: u 36 :: u 37 :: u 38 :: u 39 :: u 40 :: u 41 :: u 42 :: u 43 :: u 44 :: u 45 :: u 46 :: u 47 :: u 48 :: u 49 :: u 50 :: u 51 :: u 52 :: u 53 :: u 54 :: u 55 :: u 56 :: u 57 :: u 58 :: u 59 :: u 60 :: u 61 :: u 62 :: u 63 :: u 64 :: u 65 :: u 66 :: u 67 :: u 68 :: u 69 :: u 70 :: u 71 :: u 72 :: u 73 :: u 74 :: u 75 :: u 76 :: u 77 :: u 78 :: u 79 :: u 80 :: u 81 :: u 82 :: u 83 :: u 84 :: u 85 :: u 86 :: u 87 :: u 88 :: u 89 :: u 90 :: u 91 :: u 92 :: u 93 :: u 94 :: u 95 :: u 96 :: u 97 :: u 98 :: u 99 :: u 100 :: u 101 :: u 102 :: u 103 :: u 104 :: u 105 :: u 106 :: u 107 :: u 108 :: u 109 :: u 110 :: u 111 :: u 112 :: u 113 :: u 114 :: u 115 :: u 116 :: u 117 :: u 118 :: u 119 :: u 120 :: u 121 :: u 122 :: u 123 :: u 124 :: u 125 :: []).toArray := hu0
  rw [(hv 5).trans s5, (hv 6).trans s6, (hv 7).trans s7, (hv 8).trans s8, (hv 9).trans s9, (hv 11).trans s11, (hv 12).trans s12, (hv 13).trans s13] at hu
  obtain rfl := act_eq hu (show a.defers = [] from hf.defers)
  have hOA := m3.here hB
  have rw9 := row_five r5
  have rx9 := row_below hB rx6
  have rg9 := row_below hB rg6
  have hwn : ¬ HeapBlocks (.slice aA A.calls.length kA) (.slice bA A.said.length lA) A.calls.length VA bo5 := fun e => by have e2 := (o3 _ e).1; rw [ho4] at e2; exact absurd e2 (by decide)
  have hw6 : W6.heap.size ≤ bo5 := hW4
  have HX9 : Hid (HeapAt w9 (.slice a5 R.calls.length k5) (.slice b5 R.said.length l5) R ∧ HeapAt w9 (.slice ag g.calls.length kg) (.slice aD H.said.length kD) g ∧ MethsAt w9 (.slice aq (List.length qs) cq) qs) := ⟨HX6.out.below hB, HM6.out.2.below hB, HM6.out.1.below hB⟩
  have hB9 := hB
  clear hu hu0 hv hk hown hf hB s5 s6 s7 s8 s9 s11 s12 s13 m3 o3 r5
  generalize bo5 = bw at *
  have hKg : K < g.calls.length := by have e1 := HMX.out.2.2.l; have e2 := HKb.out; omega
  have hKA : K < A.calls.length := by rw [HAn.out.2.1]; exact hKg
  have hjA : j < A.calls.length := by rw [HAn.out.2.1]; exact hj
  obtain ⟨gA, oA, cA, hvA, hgA, _⟩ := hOA.c.form (by omega)
  injection hvA with hvA1 _ hvA2
  subst hvA1 hvA2
  have hgw : gA ≠ bw := fun e => hwn (.inr (.inl (by rw [e]; rfl)))
  have hgx : gA ≠ bx := fun e => by have := rx6.lt; omega
  have hbx6 := rx6.lt
  obtain ⟨⟨q0, q1, q2, q3, q4, q5⟩, qf0, qf1, qf2, qf3, qf4, qf5⟩ := ocell_at hOA.c hKA
  obtain ⟨⟨y0, y1, y2, y3, y4⟩, yf0, yf1, yf2, yf3, yf4⟩ := five_cells rw9
  have hKz : (K : Int) < (A.calls.length : Int) := by omega
  have HRA2 : Hid (R = backH A K (1, 44)) := by show R = _; rw [HRA.out, ← HAA.out]
  clear q0 q1 q2 q3 q4 qf0 qf1 qf2 qf3 qf4 qf5
  by_cases hd : A.calls[K].dead = true
  case pos =>
    rw [hd] at q5
    go_upto_region 12 with fail
    have hbl : ∀ q, q ≠ bw → (w9.setCell ⟨bw, 4, none⟩ (.int .i64 2)).heap[q]? = w9.heap[q]? := fun q e => Below.heap_setCell _ _ _ _ e
    have rwE := five_set4 rw9 (.int .i64 2)
    have hOE := hOA.kept (w' := (w9.setCell ⟨bw, 4, none⟩ (.int .i64 2))) (by simp [World.setCell]) (fun q hq => hbl q (fun e => hwn (by rw [← e]; exact hq)))
    have rxE := rx9.of_block (hbl bx (by omega))
    have bE : Below W6.heap.size W6 (w9.setCell ⟨bw, 4, none⟩ (.int .i64 2)) := hB9.setCell (p := ⟨bw, 4, none⟩) hw6 _
    have HXE : Hid (HeapAt (w9.setCell ⟨bw, 4, none⟩ (.int .i64 2)) (.slice a5 R.calls.length k5) (.slice b5 R.said.length l5) R) := HX6.out.below bE
    have hRA : R = codeH A 2 := by
      rw [HRA2.out]
      unfold backH
      rw [show A.calls.getD K Cl.none = A.calls[K] by simp [hKA], if_pos hd]
    have HpE : Hid (HeapAt (w9.setCell ⟨bw, 4, none⟩ (.int .i64 2)) (.slice (some ⟨gA, oA, none⟩) R.calls.length kA) (.slice bA R.said.length lA) R) := by
      show HeapAt _ _ _ _
      rw [hRA]
      exact ⟨hOE.at.c, hOE.at.s⟩
    clear hbl rw9 rx9 hOE hOA q5 y0 y1 y2 y3 y4 yf0 yf1 yf2 yf3 yf4 hd
    generalize (w9.setCell ⟨bw, 4, none⟩ (.int .i64 2)) = WE at *
    have hRw : R.calls.length = A.calls.length ∧ R.now = A.now ∧ R.born = A.born ∧ R.said.length = A.said.length ∧ R.code = 2 := by rw [hRA]; exact ⟨rfl, rfl, rfl, rfl, rfl⟩
    obtain ⟨hR0, hR1, hR2, hR3, hR4⟩ := hRw
    clear hRA
    obtain ⟨⟨x0, x1, x2, x3, x4⟩, _⟩ := five_cells rxE
    obtain ⟨⟨y0, y1, y2, y3, y4⟩, _⟩ := five_cells rwE
    rw [← hR0] at y0
    rw [← hR1] at y1
    rw [← hR2] at y2
    rw [← hR3] at y3
    rw [← hR4] at y4
    have HLM := lmHeap_same R _ _ _ _ WE HXE.out HpE.out
    unfold hpCells at HLM
    clear hR0 hR1 hR2 hR3 hR4 rxE rwE
    go_wp2_with fail
    refine HLM.mono ?_
    rintro e wZ ⟨rfl, hbZ⟩
    go_wp2
    go_ret
    exact ⟨ret_bool (by first | rfl | simp), (hB6.trans (bE.mono z6)).trans (hbZ.mono (by have := bE.size; omega))⟩
  have hd0 : A.calls[K].dead = false := by simpa using hd
  rw [hd0] at q5
  have hWA : ∃ l, Waits A.calls A.now l := by
    obtain ⟨l, hw⟩ := HGN.out.1.w
    rw [HGN.out.2.1] at hw
    have e := hw.set_cur hj { g.calls[j] with stack := [(1, 7)], pc := g.calls[j].pc + 1 } rfl rfl
    refine ⟨l, ?_⟩
    rw [HAn.out.1]
    have e2 : A.calls = g.calls.set j { g.calls[j] with stack := [(1, 7)], pc := g.calls[j].pc + 1 } := by rw [HAA.out]; unfold afterH; rw [setH_at HGN.out.2.1 hj, curC_at HGN.out.2.1 hj]
    rw [e2]
    exact e
  have hSA : ∀ i, (hi : i < A.calls.length) → A.calls[i].stack.length ≤ 100 := fun i hi => by
    have hig : i < g.calls.length := by rw [← HAn.out.2.1]; exact hi
    have e2 := after_at HGN.out.2.1 hj [(1, 7)] hig
    rw [← HAA.out] at e2
    have h6 := (HGN.out.1.cl i hig).s
    have e3 : A.calls[i] = A.calls.getD i Cl.none := by simp [hi]
    rw [e3, e2]
    split <;> simp <;> omega
  obtain ⟨l0, hW0⟩ := hWA
  obtain ⟨BB, hBB⟩ : ∃ BB, backTo A.calls.length A K = BB := ⟨_, rfl⟩
  have HRB : Hid (R = pushH BB (1, 44)) := by
    show R = _
    rw [HRA2.out]
    unfold backH
    rw [show A.calls.getD K Cl.none = A.calls[K] by simp [hKA], if_neg (by rw [hd0]; decide), hBB]
  have HI0 : Hid (Waits A.calls A.now l0 ∧ K ∈ l0 ∧ l0.length ≤ A.calls.length ∧ backTo A.calls.length A K = BB) := ⟨hW0, hW0.all K hKA hd0, hW0.len, hBB⟩
  clear hW0 hBB hd hd0 HRA2
  go_upto_region 13 with fail
  clear q5 y0 y1 y2 y3 y4 yf0 yf1 yf2 yf3 yf4 rx9 rg9
  go_wp2_with fail
  go_loopg [14] l0.length (fun gm _ wr => ∃ (D : Hp) (VD : Nat → Value × Value) (l : List Nat) (fc : Nat), gm = l.length ∧ Hid (Waits D.calls D.now l ∧ K ∈ l ∧ l.length ≤ fc ∧ backTo fc D K = BB ∧ D.calls.length = A.calls.length ∧ D.said = A.said ∧ D.born = A.born ∧ D.code = A.code) ∧ (∀ i, (hi : i < D.calls.length) → D.calls[i].stack.length ≤ 100) ∧ OwnHeap W6.heap.size wr (.slice (some ⟨gA, oA, none⟩) A.calls.length kA) (.slice bA A.said.length lA) D VD ∧ wr.rowIs bw 29 5 (five (.slice (some ⟨gA, oA, none⟩) A.calls.length kA) (.int .i64 D.now) (.int .i64 A.born) (.slice bA A.said.length lA) (.int .i64 A.code)) ∧ ¬ HeapBlocks (.slice (some ⟨gA, oA, none⟩) A.calls.length kA) (.slice bA A.said.length lA) A.calls.length VD bw ∧ Below W6.heap.size W6 wr)
  case atStart => exact ⟨A, VA, l0, A.calls.length, rfl, ⟨HI0.out.1, HI0.out.2.1, HI0.out.2.2.1, HI0.out.2.2.2, rfl, rfl, rfl, rfl⟩, hSA, hOA, rw9, hwn, hB9⟩
  case round =>
    obtain ⟨D, VD, l, fc, rfl, HI, hSD, hOD, rwD, hwnD, hBD⟩ := hrel
    clear hOA rw9 hwn hB9 HX9
    have hbwr := rwD.lt
    obtain ⟨⟨y0, y1, y2, y3, y4⟩, yf0, yf1, yf2, yf3, yf4⟩ := five_cells rwD
    obtain ⟨c, hcn⟩ : ∃ c : Nat, D.now = (c : Int) := by
      obtain ⟨hw, hk, _⟩ := HI.out
      obtain ⟨f0, hf0⟩ := hw.ch
      by_cases e : D.now < 0
      · rw [walkC_neg e] at hf0
        injection hf0 with hf0
        rw [← hf0] at hk
        cases hk
      · exact ⟨D.now.toNat, by omega⟩
    rw [hcn] at y1
    have HCN : Hid (D.now = (c : Int)) := hcn
    have hcD : c < D.calls.length := by
      have hw := HI.out.1
      rw [hcn] at hw
      exact hw.head.1
    have hcA : (c : Int) < (A.calls.length : Int) := by have := HI.out.2.2.2.2.1; omega
    clear hcn
    by_cases hcK : c = K
    case neg =>
      have hcKz : ¬ (c : Int) = (K : Int) := by omega
      obtain ⟨⟨q0, q1, q2, q3, q4, q5⟩, qf0, qf1, qf2, qf3, qf4, qf5⟩ := ocell_at hOD.c hcD
      have hgl : gA < wr.heap.size := (hOD.c.lt (g := gA) (.inl rfl)).2
      obtain ⟨sd, hsd⟩ : ∃ sd : Int, D.calls[c].sender = sd := ⟨_, rfl⟩
      rw [hsd] at q4
      have hlen := HI.out.2.2.2.2.1
      have hOL := own_leave hOD HCN.out hcD (by rw [hlen]; exact hwnD) (.int .i64 sd)
      have hwL := blocks_nil (c := c) hwnD
      have hSL := leave_stack HCN.out hcD hSD
      have hbl : ∀ q, q ≠ gA → ((((wr.setCell ⟨bw, 1, none⟩ (.int .i64 sd)).setCell ⟨gA, oA + c * 6 + 5, none⟩ (.bool true)).setCell ⟨gA, oA + c * 6 + 4, none⟩ (.int .i64 (-1))).setCell ⟨gA, oA + c * 6 + 3, none⟩ (.slice none 0 0)).heap[q]? = (wr.setCell ⟨bw, 1, none⟩ (.int .i64 sd)).heap[q]? := fun q e => ((Below.heap_setCell _ _ _ _ e).trans (Below.heap_setCell _ _ _ _ e)).trans (Below.heap_setCell _ _ _ _ e)
      have rwL0 := (five_set1 rwD (.int .i64 sd)).of_block (hbl bw (Ne.symm hgw))
      have eL : (leaveH D).now = sd := by unfold leaveH; rw [curC_at HCN.out hcD]; exact hsd
      have rwL : ((((wr.setCell ⟨bw, 1, none⟩ (.int .i64 sd)).setCell ⟨gA, oA + c * 6 + 5, none⟩ (.bool true)).setCell ⟨gA, oA + c * 6 + 4, none⟩ (.int .i64 (-1))).setCell ⟨gA, oA + c * 6 + 3, none⟩ (.slice none 0 0)).rowIs bw 29 5 (five (.slice (some ⟨gA, oA, none⟩) A.calls.length kA) (.int .i64 (leaveH D).now) (.int .i64 A.born) (.slice bA A.said.length lA) (.int .i64 A.code)) := by rw [eL]; exact rwL0
      clear rwL0
      have hBL : Below W6.heap.size W6 ((((wr.setCell ⟨bw, 1, none⟩ (.int .i64 sd)).setCell ⟨gA, oA + c * 6 + 5, none⟩ (.bool true)).setCell ⟨gA, oA + c * 6 + 4, none⟩ (.int .i64 (-1))).setCell ⟨gA, oA + c * 6 + 3, none⟩ (.slice none 0 0)) := (((hBD.setCell (p := ⟨bw, 1, none⟩) hw6 _).setCell (p := ⟨gA, oA + c * 6 + 5, none⟩) hgA _).setCell (p := ⟨gA, oA + c * 6 + 4, none⟩) hgA _).setCell (p := ⟨gA, oA + c * 6 + 3, none⟩) hgA _
      have HL : ∃ l' fc', l'.length < l.length ∧ Hid (Waits (leaveH D).calls (leaveH D).now l' ∧ K ∈ l' ∧ l'.length ≤ fc' ∧ backTo fc' (leaveH D) K = BB ∧ (leaveH D).calls.length = A.calls.length ∧ (leaveH D).said = A.said ∧ (leaveH D).born = A.born ∧ (leaveH D).code = A.code) := by
        obtain ⟨hw, hk, hfc, hbt, h1, h2, h3, h4⟩ := HI.out
        rw [HCN.out] at hw
        obtain ⟨t, ht, hw', _⟩ := hw.leave hcD (dieC D.calls[c]) rfl
        have ec : (leaveH D).calls = D.calls.set c (dieC D.calls[c]) := by unfold leaveH; rw [curC_at HCN.out hcD, setH_at HCN.out hcD]
        have hnk : ¬ D.now = ((K : Nat) : Int) := by rw [HCN.out]; exact hcKz
        cases fc with
        | zero => rw [ht] at hfc; simp at hfc
        | succ fc =>
          rw [backTo_on hnk] at hbt
          refine ⟨t, fc, by rw [ht]; simp, ?_, ?_, ?_, hbt, ?_, h2, h3, h4⟩
          · rw [ec, eL, ← hsd]; exact hw'
          · rw [ht] at hk
            rcases List.mem_cons.1 hk with e | e
            · exact absurd e.symm hcK
            · exact e
          · rw [ht] at hfc; simpa using hfc
          · rw [ec, List.length_set]; exact h1
      obtain ⟨l', fc', hll, HL'⟩ := HL
      clear hsd eL hbl hOD rwD hwnD hBD HI hlen
      go_wp2
      go_roundg l'.length
      case measure => exact hll
      case rel => exact ⟨leaveH D, _, l', fc', rfl, HL', hSL, hOL, rwL, hwL, hBL⟩
    have hcK2 : K = c := hcK.symm
    subst hcK2
    obtain ⟨hl1, hl2, hl3, hl4⟩ := HI.out.2.2.2.2
    have hRD : R = pushH D (1, 44) := by
      obtain ⟨hw, hk, hfc, hbt, _⟩ := HI.out
      have e : BB = D := by
        rw [← hbt]
        cases fc with
        | zero => rfl
        | succ fc => exact backTo_here HCN.out
      rw [HRB.out, e]
    have hTD : K < D.calls.length := hcD
    have hRA : R = { D with calls := D.calls.set K { D.calls[K] with stack := D.calls[K].stack ++ [(1, 44)] } } := by
      rw [hRD]
      unfold pushH setH curC
      rw [HCN.out, Int.toNat_natCast]
      simp [hTD]
    have hTs : D.calls[K].stack.length ≤ 100 := hSD K hTD
    have rw0 : wr.rowIs bw 29 5 (five (.slice (some ⟨gA, oA, none⟩) D.calls.length kA) (.int .i64 D.now) (.int .i64 D.born) (.slice bA D.said.length lA) (.int .i64 D.code)) := by rw [hl1, hl2, hl3, hl4]; exact rwD
    have hODD : OwnHeap W6.heap.size wr (.slice (some ⟨gA, oA, none⟩) D.calls.length kA) (.slice bA D.said.length lA) D VD := by rw [hl1, hl2]; exact hOD
    have hwnDD : ¬ HeapBlocks (.slice (some ⟨gA, oA, none⟩) D.calls.length kA) (.slice bA D.said.length lA) D.calls.length VD bw := by rw [hl1, hl2]; exact hwnD
    have rxD := row_below hBD rx6
    have HXD : Hid (OwnHeap w3.heap.size wr (.slice a5 R.calls.length k5) (.slice b5 R.said.length l5) R V5) := HXO.out.below hBD
    have bDw : Below w.heap.size w wr := hB6.trans (hBD.mono z6)
    have hzD : W6.heap.size ≤ wr.heap.size := hBD.size
    obtain ⟨⟨p0, p1, p2, p3, p4, p5⟩, pf0, pf1, pf2, pf3, pf4, pf5⟩ := ocell_at hODD.c hTD
    have hPT := (hODD.c.lists K hTD).2
    obtain ⟨aT, cT, hvT, _⟩ := hPT.slice
    rw [hvT] at p3 hPT
    have HVT : Hid ((VD K).2 = .slice aT D.calls[K].stack.length cT) := hvT
    have HRAh : Hid (R = { D with calls := D.calls.set K { D.calls[K] with stack := D.calls[K].stack ++ [(1, 44)] } }) := hRA
    have hgAl : gA < wr.heap.size := (hODD.c.lt (g := gA) (.inl rfl)).2
    have hnT : ∀ q, (Value.slice aT D.calls[K].stack.length cT).ownBlock = some q → W6.heap.size ≤ q := fun q e => (hPT.lt q e).1
    have hap := hODD.c.apart (K * 2 + 1) (by omega)
    have hnA : (Value.slice aT D.calls[K].stack.length cT).ownBlock ≠ some gA := fun e => (hap gA (by rw [lst_1, HVT.out]; exact e)).1 rfl
    have hnw : (Value.slice aT D.calls[K].stack.length cT).ownBlock ≠ some bw := fun e => hwnDD (.inr (.inr ⟨K * 2 + 1, by omega, by rw [lst_1, HVT.out]; exact e⟩))
    have HOD : Hid (OwnHeap W6.heap.size wr (.slice (some ⟨gA, oA, none⟩) D.calls.length kA) (.slice bA D.said.length lA) D VD) := hODD
    have hbwl := hbwr
    go_upto_region 19 with fail
    clear hODD hap y0 y1 y2 y3 y4 yf0 yf1 yf2 yf3 yf4 hvT p0 p1 p2 p4 p5 pf0 pf1 pf2 pf4 pf5 hRA hRD hl1 hl2 hl3 hl4 rwD hOD hwnD hwnDD hBD HI hSD
    obtain ⟨⟨y0, y1, y2, y3, y4⟩, yf0, yf1, yf2, yf3, yf4⟩ := five_cells rw0
    clear y1 y2 y3 y4 yf0 yf1 yf2 yf3 yf4
    have hTz : (K : Int) < (D.calls.length : Int) := by omega
    have hgA6 : W6.heap.size ≤ gA := hgA
    have hBW : W6.heap.size ≤ wr.heap.size := hzD
    obtain ⟨own0, h901, h902, h903⟩ : ∃ own0 : Nat → Nat, (∀ r, (Value.slice aT D.calls[K].stack.length cT).ownBlock = some r → own0 r = 901) ∧ own0 gA = 902 ∧ (∀ r, r ≠ gA → (Value.slice aT D.calls[K].stack.length cT).ownBlock ≠ some r → own0 r = 903) := ⟨fun r => if (Value.slice aT D.calls[K].stack.length cT).ownBlock = some r then 901 else if r = gA then 902 else 903, fun r e => if_pos e, by dsimp only; rw [if_neg hnA, if_pos rfl], fun r e1 e2 => by dsimp only; rw [if_neg e2, if_neg e1]⟩
    have hln : D.calls[K].stack.length + [((1 : Int), (44 : Int))].length ≤ 3000000 := by simp; omega
    refine wp_region_fx W6.heap.size own0 [iRest wr gA (.slice aT D.calls[K].stack.length cT), iRow wr gA, iList (.slice aT D.calls[K].stack.length cT) D.calls[K].stack] [[], [0], [], [], [3], [], [3, 4, 5], [3, 4, 5, 6], [3, 4, 5, 6, 7], [], [9], [3, 4, 5, 6, 7, 8, 9, 10], [0, 1, 2, 3, 4, 5, 6, 7, 8, 9, 10, 11], [0, 1, 2, 3, 4, 5, 6, 7, 8, 9, 10, 11, 12], [0, 1, 2, 3, 4, 5, 6, 7, 8, 9, 10, 11, 12, 13]] [[0], [1], [2], [3], [4], [5], [6], [7], [8], [9], [10], [11], [12], [13], [11]] [[], [], [], [], [], [], [], [], [], [], [], [901], [], [], [902]] [fIs (.pointer (some ⟨bw, 0, none⟩)), fIs (.slice (some ⟨gA, oA, none⟩) D.calls.length kA), fIs (.int .i64 (K : Int)), fIs (.pointer (some ⟨bw, 0, none⟩)), fIs (.slice (some ⟨gA, oA, none⟩) D.calls.length kA), fIs (.int .i64 (K : Int)), fIs (.pointer (some ⟨gA, oA + K * 6, none⟩)), fIs (.pointer (some ⟨gA, oA + K * 6 + 3, none⟩)), fIs (.slice aT D.calls[K].stack.length cT), fIs (.agg #[.int .i64 1, .int .i64 44]), fGh 10 (fun (x : Value) l => l = [x]) (fun x w1 => OpsAt w1 x [(1, 44)]), fApp 901 11 (D.calls[K].stack ++ [(1, 44)]).length (D.calls[K].stack ++ [(1, 44)]), fIs (.pointer (some ⟨gA, oA + K * 6, none⟩)), fIs (.pointer (some ⟨gA, oA + K * 6 + 3, none⟩)), fSet 902 gA wr (oA + K * 6 + 3)] 15 rfl (by kernel_rfl) (by kernel_rfl) ?_ ?_ ?_
    · intro f hf
      rcases List.mem_cons.1 hf with rfl | hf
      · exact ⟨fun r hr => ⟨h903 r hr.2.1 hr.2.2, hr.1⟩, Nat.le_refl _, fun _ _ _ _ => rfl⟩
      rcases List.mem_cons.1 hf with rfl | hf
      · exact ⟨fun r hr => by rw [show r = gA from hr]; exact ⟨h902, hgAl⟩, rfl⟩
      obtain rfl := List.mem_singleton.1 hf
      exact ⟨fun r hr => ⟨h901 r hr, (hPT.lt r hr).2⟩, hPT.below (Below.refl _ _).drew⟩
    · refine all_lt_succ (all_lt_succ (all_lt_succ (all_lt_succ (all_lt_succ (all_lt_succ (all_lt_succ (all_lt_succ (all_lt_succ (all_lt_succ (all_lt_succ (all_lt_succ (all_lt_succ (all_lt_succ (all_lt_succ (all_lt_zero) ?_) ?_) ?_) ?_) ?_) ?_) ?_) ?_) ?_) ?_) ?_) ?_) ?_) ?_) ?_
      · intro a w val own hB hf hown hk hin
        have s13 := hf.at (d := 13) (v := .pointer (some ⟨bw, 0, none⟩)) (by kernel_rfl) rfl
        exact rf_pure (v := .pointer (some ⟨bw, 0, none⟩)) hB rfl rfl (by unfold execOp; go_simp) rfl
      · intro a w val own hB hf hown hk hin
        obtain ⟨k0, f0⟩ := hk 0 (show 0 ∈ [0] by decide)
        have s106 := k0 106 rfl
        rw [fIs_out f0] at s106
        clear k0 f0
        have q0 := iRest_out (hin (iRest wr gA (.slice aT D.calls[K].stack.length cT)) (List.mem_cons_self ..) (by kernel_rfl))
        have c0 := (World.cell?_of_block (a := ⟨bw, 0, none⟩) (q0.2 bw hbwl hgw.symm hnw)).trans y0
        exact rf_pure (v := .slice (some ⟨gA, oA, none⟩) D.calls.length kA) hB rfl rfl (by unfold execOp; go_simp) rfl
      · intro a w val own hB hf hown hk hin
        have s7 := hf.at (d := 7) (v := .int .i64 (K : Int)) (by kernel_rfl) rfl
        exact rf_pure (v := .int .i64 (K : Int)) hB rfl rfl (by unfold execOp; go_simp) rfl
      · intro a w val own hB hf hown hk hin
        have s13 := hf.at (d := 13) (v := .pointer (some ⟨bw, 0, none⟩)) (by kernel_rfl) rfl
        exact rf_pure (v := .pointer (some ⟨bw, 0, none⟩)) hB rfl rfl (by unfold execOp; go_simp) rfl
      · intro a w val own hB hf hown hk hin
        obtain ⟨k3, f3⟩ := hk 3 (show 3 ∈ [3] by decide)
        have s109 := k3 109 rfl
        rw [fIs_out f3] at s109
        clear k3 f3
        have q0 := iRest_out (hin (iRest wr gA (.slice aT D.calls[K].stack.length cT)) (List.mem_cons_self ..) (by kernel_rfl))
        have c0 := (World.cell?_of_block (a := ⟨bw, 0, none⟩) (q0.2 bw hbwl hgw.symm hnw)).trans y0
        exact rf_pure (v := .slice (some ⟨gA, oA, none⟩) D.calls.length kA) hB rfl rfl (by unfold execOp; go_simp) rfl
      · intro a w val own hB hf hown hk hin
        have s7 := hf.at (d := 7) (v := .int .i64 (K : Int)) (by kernel_rfl) rfl
        exact rf_pure (v := .int .i64 (K : Int)) hB rfl rfl (by unfold execOp; go_simp) rfl
      · intro a w val own hB hf hown hk hin
        obtain ⟨k4, f4⟩ := hk 4 (show 4 ∈ [3, 4, 5] by decide)
        have s110 := k4 110 rfl
        rw [fIs_out f4] at s110
        clear k4 f4
        obtain ⟨k5, f5⟩ := hk 5 (show 5 ∈ [3, 4, 5] by decide)
        have s111 := k5 111 rfl
        rw [fIs_out f5] at s111
        clear k5 f5
        have hTz2 : (K : Int) < (D.calls.length : Int) := hTz
        exact rf_pure (v := .pointer (some ⟨gA, oA + K * 6, none⟩)) hB rfl rfl (by unfold execOp; go_simp) rfl
      · intro a w val own hB hf hown hk hin
        obtain ⟨k6, f6⟩ := hk 6 (show 6 ∈ [3, 4, 5, 6] by decide)
        have s112 := k6 112 rfl
        rw [fIs_out f6] at s112
        clear k6 f6
        exact rf_pure (v := .pointer (some ⟨gA, oA + K * 6 + 3, none⟩)) hB rfl rfl (by unfold execOp; go_simp) rfl
      · intro a w val own hB hf hown hk hin
        obtain ⟨k7, f7⟩ := hk 7 (show 7 ∈ [3, 4, 5, 6, 7] by decide)
        have s113 := k7 113 rfl
        rw [fIs_out f7] at s113
        clear k7 f7
        have q1 := iRow_out (hin (iRow wr gA) (List.mem_cons_of_mem _ (List.mem_cons_self ..)) (by kernel_rfl))
        have c0 := (World.cell?_of_block (a := ⟨gA, oA + K * 6 + 3, none⟩) q1.2.2).trans p3
        exact rf_pure (v := .slice aT D.calls[K].stack.length cT) hB rfl rfl (by unfold execOp; go_simp) rfl
      · intro a w val own hB hf hown hk hin
        exact rf_callB hBW hB rfl rfl (by unfold execOp; go_simp) ((lmNum_any 44 w).mono fun e w' ⟨he, hb⟩ => ⟨_, he, hb, rfl⟩)
      · intro a w val own hB hf hown hk hin
        obtain ⟨k9, f9⟩ := hk 9 (show 9 ∈ [9] by decide)
        have s115 := k9 115 rfl
        rw [fIs_out f9] at s115
        clear k9 f9
        exact rf_newB hBW (v := .slice (some ⟨w.heap.size, 0, none⟩) 1 1) (w' := w.alloc (.cells #[.int .i64 1, .int .i64 44] 37)) hB rfl rfl (by unfold execOp; go_simp) ((Below.refl _ _).alloc (Nat.le_refl _) _) ⟨_, rfl, Made.new fun w1 _ _ hr => (one_vals w 1 44 37 1).of_block (hr _ (Nat.le_refl _) (by simp))⟩
      · intro a w val own hB hf hown hk hin
        obtain ⟨k8, f8⟩ := hk 8 (show 8 ∈ [3, 4, 5, 6, 7, 8, 9, 10] by decide)
        have s114 := k8 114 rfl
        rw [fIs_out f8] at s114
        clear k8 f8
        obtain ⟨k10, x10, e10, m10⟩ := hk 10 (show 10 ∈ [3, 4, 5, 6, 7, 8, 9, 10] by decide)
        have v10 := one_eq e10
        have s116 := k10 116 rfl
        rw [v10] at s116
        clear k10 e10
        have q2 := iList_out (hin (iList (.slice aT D.calls[K].stack.length cT) D.calls[K].stack) (List.mem_cons_of_mem _ (List.mem_cons_of_mem _ (List.mem_cons_self ..))) (by kernel_rfl))
        exact rfx_append (v := .slice aT D.calls[K].stack.length cT) (xv := x10) hBW hB rfl rfl rfl (by go_simp) (by go_simp) q2.1 q2.2 (m10.here hB) hln rfl (fun y w' h1 h2 => ⟨y, rfl, h1, h2⟩)
      · intro a w val own hB hf hown hk hin
        obtain ⟨k1, f1⟩ := hk 1 (show 1 ∈ [0, 1, 2, 3, 4, 5, 6, 7, 8, 9, 10, 11] by decide)
        have s107 := k1 107 rfl
        rw [fIs_out f1] at s107
        clear k1 f1
        obtain ⟨k2, f2⟩ := hk 2 (show 2 ∈ [0, 1, 2, 3, 4, 5, 6, 7, 8, 9, 10, 11] by decide)
        have s108 := k2 108 rfl
        rw [fIs_out f2] at s108
        clear k2 f2
        have hTz2 : (K : Int) < (D.calls.length : Int) := hTz
        exact rf_pure (v := .pointer (some ⟨gA, oA + K * 6, none⟩)) hB rfl rfl (by unfold execOp; go_simp) rfl
      · intro a w val own hB hf hown hk hin
        obtain ⟨k12, f12⟩ := hk 12 (show 12 ∈ [0, 1, 2, 3, 4, 5, 6, 7, 8, 9, 10, 11, 12] by decide)
        have s118 := k12 118 rfl
        rw [fIs_out f12] at s118
        clear k12 f12
        exact rf_pure (v := .pointer (some ⟨gA, oA + K * 6 + 3, none⟩)) hB rfl rfl (by unfold execOp; go_simp) rfl
      · intro a w val own hB hf hown hk hin
        obtain ⟨k13, f13⟩ := hk 13 (show 13 ∈ [0, 1, 2, 3, 4, 5, 6, 7, 8, 9, 10, 11, 12, 13] by decide)
        have s119 := k13 119 rfl
        rw [fIs_out f13] at s119
        clear k13 f13
        obtain ⟨k11, y11, e11, o11, P11⟩ := hk 11 (show 11 ∈ [0, 1, 2, 3, 4, 5, 6, 7, 8, 9, 10, 11, 12, 13] by decide)
        have v11 := one_eq e11
        have s117 := k11 117 rfl
        rw [v11] at s117
        clear k11 e11
        have q1 := iRow_out (hin (iRow wr gA) (List.mem_cons_of_mem _ (List.mem_cons_self ..)) (by kernel_rfl))
        have c0 := (World.cell?_of_block (a := ⟨gA, oA + K * 6 + 3, none⟩) q1.2.2).trans p3
        have z0 := (World.frozen?_of_block (a := ⟨gA, oA + K * 6 + 3, none⟩) q1.2.2).trans pf3
        exact rf_set (w' := w.setCell ⟨gA, oA + K * 6 + 3, none⟩ (.slice y11.1 (D.calls[K].stack ++ [(1, 44)]).length y11.2)) rfl rfl (by unfold execOp; go_simp) (Does.set hB (show own gA ∈ [902] by rw [q1.1]; decide) hgA6 _ _) ⟨(if_pos q1.2.1).trans q1.1, by simpa [World.setCell] using q1.2.1, by show _ = (wr.setCell ⟨gA, oA + K * 6 + 3, none⟩ (val 11)).heap[gA]?; rw [v11]; exact set_block q1.2.2 _ _⟩
    intro a wE val own hB hf hown hk hin
    obtain ⟨k11, y11, e11, o11, P11⟩ := hk 11 (by decide)
    have v11 := one_eq e11
    have s117 := k11 117 rfl
    rw [v11] at s117
    clear k11 e11
    obtain ⟨_, g14, g14l, g14h⟩ := hk 14 (by decide)
    have h14 : wE.heap[gA]? = (wr.setCell ⟨gA, oA + K * 6 + 3, none⟩ (val 11)).heap[gA]? := g14h
    rw [v11] at h14
    have q0 := iRest_out (hin (iRest wr gA (.slice aT D.calls[K].stack.length cT)) (List.mem_cons_self ..) (show ∀ k, k < 15 → ∀ x ∈ ([[], [], [], [], [], [], [], [], [], [], [], [901], [], [], [902]] : List (List Nat)).getD k [], x ∉ [903] by decide))
    clear g14h g14 g14l
    have s7 := hf.at (d := 7) (v := .int .i64 (K : Int)) (by kernel_rfl) rfl
    have s11 := hf.at (d := 11) (v := .pointer (some ⟨bx, 0, none⟩)) (by kernel_rfl) rfl
    have s12 := hf.at (d := 12) (v := .bool true) (by kernel_rfl) rfl
    have s13 := hf.at (d := 13) (v := .pointer (some ⟨bw, 0, none⟩)) (by kernel_rfl) rfl
    obtain ⟨u', hu0, hv⟩ := frame_any a.tmps (n := 126) hf.size
    have hu : a.tmps = (u' 0 :: u' 1 :: u' 2 :: u' 3 :: u' 4 :: u' 5 :: u' 6 :: u' 7 :: u' 8 :: u' 9 :: u' 10 :: u' 11 :: u' 12 :: u' 13 :: u' 14 :: u' 15 :: u' 16 :: u' 17 :: u' 18 :: u' 19 :: u' 20 :: u' 21 :: u' 22 :: u' 23 :: u' 24 :: u' 25 :: u' 26 :: u' 27 :: u' 28 :: u' 29 :: u' 30 :: u' 31 :: u' 32 :: u' 33 :: u' 34 :: u' 35 :: u' 36 :: u' 37 :: u' 38 :: u' 39 :: u' 40 :: u' 41 :: u' 42 :: u' 43 :: u' 44 :: u' 45 :: u' 46 :: u' 47 :: u' 48 :: u' 49 :: u' 50 :: u' 51 :: u' 52 :: u' 53 :: u' 54 :: u' 55 :: u' 56 :: u' 57 :: u' 58 :: u' 59 :: u' 60 :: u' 61 :: u' 62 :: u' 63 :: u' 64 :: u' 65 :: u' 66 :: u' 67 :: u' 68 :: u' 69 :: u' 70 :: u' 71 :: u' 72 :: u' 73 :: u' 74 :: u' 75 :: u' 76 :: u' 77 :: u' 78 :: u' 79 :: u' 80 :: u' 81 :: u' 82 :: u' 83 :: u' 84 :: u' 85 :: u' 86 :: u' 87 :: u' 88 :: u' 89 :: u' 90 :: u' 91 :: u' 92 :: u' 93 :: u' 94 :: u' 95 :: u' 96 :: u' 97 :: u' 98 :: u' 99 :: u' 100 :: u' 101 :: u' 102 :: u' 103 :: u' 104 :: u' 105 :: u' 106 :: u' 107 :: u' 108 :: u' 109 :: u' 110 :: u' 111 :: u' 112 :: u' 113 :: u' 114 :: u' 115 :: u' 116 :: u' 117 :: u' 118 :: u' 119 :: u' 120 :: u' 121 :: u' 122 :: u' 123 :: u' 124 :: u' 125 :: []).toArray := hu0
    rw [(hv 7).trans s7, (hv 11).trans s11, (hv 12).trans s12, (hv 13).trans s13] at hu
    obtain rfl := act_eq hu (show a.defers = [] from hf.defers)
    have hown0 := hown
    have hBE := hB
    clear hu hu0 hv hk hown hf hB hin s7 s11 s12 s13 s117
    have HOW : Hid (∀ r, r < wr.heap.size → own r = own0 r) := hown0
    have hzE : wr.heap.size ≤ wE.heap.size := q0.1
    have hlow : ∀ q, q < W6.heap.size → wE.heap[q]? = wr.heap[q]? := fun q hq => q0.2 q (by omega) (by omega) (fun e => by have := hnT q e; omega)
    have hO' := HOD.out.put hTD (put_stackB HOD.out.c hTD (.slice y11.1 (D.calls[K].stack ++ [(1, 44)]).length y11.2) (D.calls[K].stack ++ [(1, 44)]) hzE h14 (fun k h1 h2 h3 => q0.2 k h1 h2 (by rw [← HVT.out]; exact h3)) P11 (fun q e => by
      by_cases hq : q < wr.heap.size
      · left
        rw [HVT.out]
        obtain ⟨h5, _⟩ := o11 q e
        rw [HOW.out q hq] at h5
        by_cases hs : (Value.slice aT D.calls[K].stack.length cT).ownBlock = some q
        · exact hs
        · exfalso
          by_cases hg : q = gA
          · subst hg
            rw [h902] at h5
            omega
          · rw [h903 q hg hs] at h5
            omega
      · exact .inr (by omega)))
    have rwE := rw0.of_block (q0.2 bw hbwl hgw.symm hnw)
    have rxE := rxD.of_block (hlow bx hbx6)
    have HXE : Hid (HeapAt wE (.slice a5 R.calls.length k5) (.slice b5 R.said.length l5) R) := (HXD.out.kept hzE (fun q hq => hlow q (HXO.out.lt hq).2)).at
    have bEw : Below w.heap.size w wE := bDw.trans (hBE.mono hB6.size)
    have hRA := HRAh.out
    have HpE : Hid (HeapAt wE (.slice (some ⟨gA, oA, none⟩) R.calls.length kA) (.slice bA R.said.length lA) R) := by
      show HeapAt _ _ _ _
      rw [hRA]
      exact ⟨by simpa using hO'.c.at, by simpa using hO'.s.at⟩
    clear hO' hlow h14 P11 o11 hzE q0 rw0 rxD HXD bDw hzD hBE h901 h902 h903 HOW
    have hRw : R.calls.length = D.calls.length ∧ R.now = D.now ∧ R.born = D.born ∧ R.said.length = D.said.length ∧ R.code = D.code := by rw [hRA]; exact ⟨by simp, rfl, rfl, rfl, rfl⟩
    obtain ⟨hR0, hR1, hR2, hR3, hR4⟩ := hRw
    clear hRA
    obtain ⟨⟨x0, x1, x2, x3, x4⟩, _⟩ := five_cells rxE
    obtain ⟨⟨y0, y1, y2, y3, y4⟩, _⟩ := five_cells rwE
    rw [← hR0] at y0
    rw [← hR1] at y1
    rw [← hR2] at y2
    rw [← hR3] at y3
    rw [← hR4] at y4
    have HLM := lmHeap_same R _ _ _ _ wE HXE.out HpE.out
    unfold hpCells at HLM
    clear hR0 hR1 hR2 hR3 hR4 rxE rwE
    go_wp2_with fail
    refine HLM.mono ?_
    rintro e wZ ⟨rfl, hbZ⟩
    go_wp2
    go_ret
    exact ⟨ret_bool (by first | rfl | simp), bEw.trans (hbZ.mono bEw.size)⟩
end Go.Proofs.YtlpbklgkafjfmaaGreatDoor
