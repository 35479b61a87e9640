/-
  The law FnHeapPoke, walked: whatever bytes come in, it answers true and writes to nothing that was there, where the table opForms lies as its text lays it.
-/
import Derived.Test.YtoaalcijdcmboabGreatDoorDrawHeap
import Derived.Test.YtoaalcijdcmboabGreatDoorHStep
import Derived.Test.YtoaalcijdcmboabGreatDoorHSame
import Derived.Lib.MinMax
import Derived.Test.YtoaalcijdcmboabGreatDoorRFL

namespace Go.Proofs.YtoaalcijdcmboabGreatDoor
open Go.RowKit
set_option maxRecDepth 100000 in
set_option maxHeartbeats 4000000 in
theorem lawHeapPoke_any (w : World) (a : Option Addr) (len cap : Nat) (a2 : Option Addr) (len2 cap2 : Nat) (h : BytesAt w a len cap) (hc2 : len2 ≤ 9223372036854775807) (hT : TabAt w) :
    Calls Tryz.prog 12 #[.slice a len cap, .slice a2 len2 cap2] w fun e w' => e = .returned (.bool true) ∧ Below w.heap.size w w' := by
  have hc := h.1
  have hm := h.2.1
  unfold maxLen at hm
  have HB : Hid (BytesAt w a len cap) := h
  have HT : Hid (TabAt w) := hT
  clear h hT
  by_cases hl : 1048576 < len
  · have hlz : (1048576 : Int) < (len : Int) := by omega
    go_enter Tryz.func12, Tryz.ntmps12
    go_wp2
    go_ret
    exact ⟨rfl, Below.refl _ _⟩
  have hlz : (len : Int) ≤ 1048576 := by omega
  by_cases hl2 : 1048576 < len2
  · have hlz2 : (1048576 : Int) < (len2 : Int) := by omega
    go_enter Tryz.func12, Tryz.ntmps12
    go_wp2
    go_ret
    exact ⟨rfl, Below.refl _ _⟩
  have hlz2 : (len2 : Int) ≤ 1048576 := by omega
  go_enter Tryz.func12, Tryz.ntmps12
  go_wp2_with fail
  refine (drawHeapStep_any _ a len cap HB.out).mono ?_
  rintro e w1 ⟨v, vc, vs, ms, H, rfl, hD, hB1⟩
  obtain ⟨hM1, hH1⟩ := hD.st.here
  have l30 := hD.fine.l30
  have sd100 := hD.fine.sd
  have HPO : Hid (progOk ms = true) := hD.ok
  clear hD
  obtain ⟨aV, cV, hvV, _⟩ := id hM1
  obtain ⟨ac, kc, hvc⟩ := hH1.c.shape
  obtain ⟨aD, kD, hvs⟩ := hH1.s.shape
  subst hvV hvc hvs
  have z1 := hB1.size
  clear HB
  unfold hpCells
  go_upto_region 4 with fail
  have N2 : Below w1.heap.size w1 ((w1.alloc (.cells #[.slice aV ms.length cV] 25)).alloc (.cells #[.slice ac H.calls.length kc, .int .i64 H.now, .int .i64 H.born, .slice aD H.said.length kD, .int .i64 H.code] 29)) := ((Below.refl _ _).alloc (Nat.le_refl _) _).alloc (by simp) _
  have rp := (pbox_new w1 (.slice aV ms.length cV)).alloc (.cells #[.slice ac H.calls.length kc, .int .i64 H.now, .int .i64 H.born, .slice aD H.said.length kD, .int .i64 H.code] 29)
  have rh := five_new (w1.alloc (.cells #[.slice aV ms.length cV] 25)) 29 (.slice ac H.calls.length kc) (.int .i64 H.now) (.int .i64 H.born) (.slice aD H.said.length kD) (.int .i64 H.code)
  simp only [World.size_alloc] at rh
  generalize (w1.alloc (.cells #[.slice aV ms.length cV] 25)).alloc (.cells #[.slice ac H.calls.length kc, .int .i64 H.now, .int .i64 H.born, .slice aD H.said.length kD, .int .i64 H.code] 29) = W2 at *
  have hB2 := hB1.trans (N2.mono z1)
  have z2 := hB2.size
  have HMH : Hid (MethsAt W2 (.slice aV ms.length cV) ms ∧ HeapAt W2 (.slice ac H.calls.length kc) (.slice aD H.said.length kD) H ∧ TabAt W2) := ⟨hM1.below N2, hH1.below N2, HT.out.below hB2⟩
  clear hM1 hH1 hB1 N2 HT
  obtain ⟨⟨d0, d1, d2, d3, d4⟩, _⟩ := five_cells rh
  have dp := rp.cell (i := 0) (by decide)
  have hl1000 : H.calls.length ≤ 1000 := by omega
  go_upto_region 6 with fail
  obtain ⟨K, hK⟩ : ∃ K : Nat, (len2 : Int) % max (H.calls.length : Int) 1 = (K : Int) := ⟨((len2 : Int) % max (H.calls.length : Int) 1).toNat, (Int.toNat_of_nonneg (Int.emod_nonneg _ (by omega))).symm⟩
  have HKb : Hid ((K : Int) < max (H.calls.length : Int) 1) := by show (K : Int) < _; rw [← hK]; exact Int.emod_lt_of_pos _ (by omega)
  rw [hK]
  clear hK
  obtain ⟨nn, hnn⟩ : ∃ nn : Int, (len2 : Int) / 2 % 4 = nn := ⟨_, rfl⟩
  rw [hnn]
  have hnnb : 0 ≤ nn ∧ nn < 4 := by omega
  have Hnn : Hid ((len2 : Int) / 2 % 4 = nn) := hnn
  clear hnn
  refine wp_region_fs [[], [], [], [2], [], [], [4, 5], [4, 5, 6], [4, 5, 6, 7], [0, 1, 2, 3, 4, 5, 6, 7, 8], [0, 1, 2, 3, 4, 5, 6, 7, 8, 9], [0, 1, 2, 3, 4, 5, 6, 7, 8, 9, 10], [0, 1, 2, 3, 4, 5, 6, 7, 8, 9, 10], [0, 1, 2, 3, 4, 5, 6, 7, 8, 9, 10], [], [], [0, 1, 2, 3, 4, 5, 6, 7, 8, 9, 10, 11, 14, 15], [0, 1, 2, 3, 4, 5, 6, 7, 8, 9, 10, 11, 12, 14, 15, 16], [0, 1, 2, 3, 4, 5, 6, 7, 8, 9, 10, 11, 12, 13, 14, 15, 16, 17]] [[0], [1], [2], [3], [4], [5], [6], [7], [8], [9], [10, 9], [11, 10], [12, 10], [13, 10], [14], [15], [14, 11], [15, 12], [18, 13]] [[], [], [], [], [], [], [], [], [], [], [], [], [], [], [], [], [14], [15], []] [fIs (.agg #[.slice aV ms.length cV]), fIs (.agg #[.slice ac H.calls.length kc, .int .i64 H.now, .int .i64 H.born, .slice aD H.said.length kD, .int .i64 H.code]), fIs (.int .i64 nn), fIs (.agg #[.int .i64 14, .int .i64 nn]), fIs (.agg #[.int .i64 1, .int .i64 7]), fIs (.int .i64 (K : Int)), fIs (.agg #[.int .i64 2, .int .i64 (K : Int)]), fIs (.agg #[.int .i64 1, .int .i64 44]), fGh 8 (fun (x : Value) l => l = [x]) (fun x w1 => OpsAt w1 x [(1, 7), (2, (K : Int)), (1, 44)]), fWith 9 ms H 14 (nn) [(1, 7), (2, (K : Int)), (1, 44)] (.slice aD H.said.length kD), fOf fun l => l.getD 0 undef = l.getD 1 undef, fOf fun l => l.getD 0 undef = tget (l.getD 1 undef) 0, fOf fun l => l.getD 0 undef = tget (l.getD 1 undef) 1, fOf fun l => l.getD 0 undef = tget (l.getD 1 undef) 2, fBox 14 25 1, fBox 15 29 5, fRow 14 25 1 fun b f l => l.getD 0 undef = .pointer (some ⟨b, 0, none⟩) ∧ f = fun q => (l.getD 1 undef).cells.toList.getD q undef, fRow 15 29 5 fun b f l => l.getD 0 undef = .pointer (some ⟨b, 0, none⟩) ∧ f = fun q => (l.getD 1 undef).cells.toList.getD q undef, fOf fun l => l.getD 0 undef = l.getD 1 undef] 19 rfl (by kernel_rfl) (by kernel_rfl) ?_ ?_
  · refine all_lt_succ (all_lt_succ (all_lt_succ (all_lt_succ (all_lt_succ (all_lt_succ (all_lt_succ (all_lt_succ (all_lt_succ (all_lt_succ (all_lt_succ (all_lt_succ (all_lt_succ (all_lt_succ (all_lt_succ (all_lt_succ (all_lt_succ (all_lt_succ (all_lt_succ (all_lt_zero) ?_) ?_) ?_) ?_) ?_) ?_) ?_) ?_) ?_) ?_) ?_) ?_) ?_) ?_) ?_) ?_) ?_) ?_) ?_
    · intro a w val own hB hf hown hk
      have s5 := hf.at (d := 5) (v := .pointer (some ⟨w1.heap.size, 0, none⟩)) (by kernel_rfl) rfl
      have c0 := cell_below hB dp
      exact rf_pure (v := .agg #[.slice aV ms.length cV]) hB rfl rfl (by unfold execOp; go_simp) rfl
    · intro a w val own hB hf hown hk
      have s6 := hf.at (d := 6) (v := .pointer (some ⟨w1.heap.size + 1, 0, none⟩)) (by kernel_rfl) rfl
      obtain ⟨c0, c1, c2, c3, c4⟩ : _ ∧ _ ∧ _ ∧ _ ∧ _ := ⟨cell_below hB d0, cell_below hB d1, cell_below hB d2, cell_below hB d3, cell_below hB d4⟩
      exact rf_pure (v := .agg #[.slice ac H.calls.length kc, .int .i64 H.now, .int .i64 H.born, .slice aD H.said.length kD, .int .i64 H.code]) hB rfl rfl (by unfold execOp; go_simp) rfl
    · intro a w val own hB hf hown hk
      have s8 := hf.at (d := 8) (v := .int .i64 nn) (by kernel_rfl) rfl
      exact rf_pure (v := .int .i64 nn) hB rfl rfl (by unfold execOp; go_simp) rfl
    · intro a w val own hB hf hown hk
      obtain ⟨k2, f2⟩ := hk 2 (show 2 ∈ [2] by decide)
      have s42 := k2 42 rfl
      rw [fIs_out f2] at s42
      clear k2 f2
      exact rf_pure (v := .agg #[.int .i64 14, .int .i64 nn]) hB rfl rfl (by unfold execOp; go_simp) rfl
    · intro a w val own hB hf hown hk
      exact rf_call hB rfl rfl (by unfold execOp; go_simp) ((lmNum_any 7 w).mono fun e w' ⟨he, hb⟩ => ⟨_, he, hb, rfl⟩)
    · intro a w val own hB hf hown hk
      have s7 := hf.at (d := 7) (v := .int .i64 (K : Int)) (by kernel_rfl) rfl
      exact rf_pure (v := .int .i64 (K : Int)) hB rfl rfl (by unfold execOp; go_simp) rfl
    · intro a w val own hB hf hown hk
      obtain ⟨k5, f5⟩ := hk 5 (show 5 ∈ [4, 5] by decide)
      have s45 := k5 45 rfl
      rw [fIs_out f5] at s45
      clear k5 f5
      exact rf_call hB rfl rfl (by unfold execOp; go_simp) ((lmOf_any ((K : Int)) w).mono fun e w' ⟨he, hb⟩ => ⟨_, he, hb, rfl⟩)
    · intro a w val own hB hf hown hk
      exact rf_call hB rfl rfl (by unfold execOp; go_simp) ((lmNum_any 44 w).mono fun e w' ⟨he, hb⟩ => ⟨_, he, hb, rfl⟩)
    · intro a w val own hB hf hown hk
      obtain ⟨k4, f4⟩ := hk 4 (show 4 ∈ [4, 5, 6, 7] by decide)
      have s44 := k4 44 rfl
      rw [fIs_out f4] at s44
      clear k4 f4
      obtain ⟨k6, f6⟩ := hk 6 (show 6 ∈ [4, 5, 6, 7] by decide)
      have s46 := k6 46 rfl
      rw [fIs_out f6] at s46
      clear k6 f6
      obtain ⟨k7, f7⟩ := hk 7 (show 7 ∈ [4, 5, 6, 7] by decide)
      have s47 := k7 47 rfl
      rw [fIs_out f7] at s47
      clear k7 f7
      exact rf_new (v := .slice (some ⟨w.heap.size, 0, none⟩) 3 3) (w' := w.alloc (.cells #[.int .i64 1, .int .i64 7, .int .i64 2, .int .i64 (K : Int), .int .i64 1, .int .i64 44] 37)) hB rfl rfl (by unfold execOp; go_simp) ((Below.refl _ _).alloc (Nat.le_refl _) _) ⟨_, rfl, Made.new fun w1 _ _ hr => (three_vals w 1 7 2 ((K : Int)) 1 44 37 3).of_block (hr _ (Nat.le_refl _) (by simp))⟩
    · intro a w val own hB hf hown hk
      obtain ⟨k0, f0⟩ := hk 0 (show 0 ∈ [0, 1, 2, 3, 4, 5, 6, 7, 8] by decide)
      have s40 := k0 40 rfl
      rw [fIs_out f0] at s40
      clear k0 f0
      obtain ⟨k1, f1⟩ := hk 1 (show 1 ∈ [0, 1, 2, 3, 4, 5, 6, 7, 8] by decide)
      have s41 := k1 41 rfl
      rw [fIs_out f1] at s41
      clear k1 f1
      obtain ⟨k3, f3⟩ := hk 3 (show 3 ∈ [0, 1, 2, 3, 4, 5, 6, 7, 8] by decide)
      have s43 := k3 43 rfl
      rw [fIs_out f3] at s43
      clear k3 f3
      obtain ⟨k8, x8, e8, m8⟩ := hk 8 (show 8 ∈ [0, 1, 2, 3, 4, 5, 6, 7, 8] by decide)
      have v8 := one_eq e8
      have s48 := k8 48 rfl
      rw [v8] at s48
      clear k8 e8
      exact rf_call hB rfl rfl (by unfold execOp hpCells; go_simp) (with_call (x := nn) (vc := .slice ac H.calls.length kc) HMH.out.1 HMH.out.2.1 hB (m8.here hB) hl1000 HPO.out (by simp))
    · intro a w val own hB hf hown hk
      have s49 := (hk 9 (show 9 ∈ [0, 1, 2, 3, 4, 5, 6, 7, 8, 9] by decide)).1 49 rfl
      exact rf_pure (v := val 9) hB rfl rfl (by unfold execOp; go_simp) rfl
    · intro a w val own hB hf hown hk
      obtain ⟨k9, ⟨aq, cq, ag, kg, qs, g, ok⟩, ⟨e9, hX⟩, mX⟩ := hk 9 (show 9 ∈ [0, 1, 2, 3, 4, 5, 6, 7, 8, 9, 10] by decide)
      have v9 := one_eq e9
      have s49 := k9 49 rfl
      unfold WG.val at v9
      dsimp only at v9 hX mX
      rw [v9] at s49
      clear k9 e9
      obtain ⟨k10, f10⟩ := hk 10 (show 10 ∈ [0, 1, 2, 3, 4, 5, 6, 7, 8, 9, 10] by decide)
      have v10 : val 10 = _ := Eq.trans f10 v9
      have s39 := k10 39 rfl
      rw [v10] at s39
      clear k10 f10
      exact rf_pure (v := .agg #[.slice aq qs.length cq]) hB rfl rfl (by unfold execOp; go_simp) (by show _ = tget (val 10) 0; rw [v10]; rfl)
    · intro a w val own hB hf hown hk
      obtain ⟨k9, ⟨aq, cq, ag, kg, qs, g, ok⟩, ⟨e9, hX⟩, mX⟩ := hk 9 (show 9 ∈ [0, 1, 2, 3, 4, 5, 6, 7, 8, 9, 10] by decide)
      have v9 := one_eq e9
      have s49 := k9 49 rfl
      unfold WG.val at v9
      dsimp only at v9 hX mX
      rw [v9] at s49
      clear k9 e9
      obtain ⟨k10, f10⟩ := hk 10 (show 10 ∈ [0, 1, 2, 3, 4, 5, 6, 7, 8, 9, 10] by decide)
      have v10 : val 10 = _ := Eq.trans f10 v9
      have s39 := k10 39 rfl
      rw [v10] at s39
      clear k10 f10
      exact rf_pure (v := .agg #[.slice ag g.calls.length kg, .int .i64 g.now, .int .i64 g.born, .slice aD H.said.length kD, .int .i64 g.code]) hB rfl rfl (by unfold execOp; go_simp) (by show _ = tget (val 10) 1; rw [v10]; rfl)
    · intro a w val own hB hf hown hk
      obtain ⟨k9, ⟨aq, cq, ag, kg, qs, g, ok⟩, ⟨e9, hX⟩, mX⟩ := hk 9 (show 9 ∈ [0, 1, 2, 3, 4, 5, 6, 7, 8, 9, 10] by decide)
      have v9 := one_eq e9
      have s49 := k9 49 rfl
      unfold WG.val at v9
      dsimp only at v9 hX mX
      rw [v9] at s49
      clear k9 e9
      obtain ⟨k10, f10⟩ := hk 10 (show 10 ∈ [0, 1, 2, 3, 4, 5, 6, 7, 8, 9, 10] by decide)
      have v10 : val 10 = _ := Eq.trans f10 v9
      have s39 := k10 39 rfl
      rw [v10] at s39
      clear k10 f10
      exact rf_pure (v := .bool ok) hB rfl rfl (by unfold execOp; go_simp) (by show _ = tget (val 10) 2; rw [v10]; rfl)
    · intro a w val own hB hf hown hk
      exact rf_new (v := .pointer (some ⟨w.heap.size, 0, none⟩)) (w' := w.alloc (.cells #[.slice none 0 0] 25)) hB rfl rfl (by unfold execOp; go_simp) ((Below.refl _ _).alloc (Nat.le_refl _) _) (fBox_new hB #[.slice none 0 0])
    · intro a w val own hB hf hown hk
      exact rf_new (v := .pointer (some ⟨w.heap.size, 0, none⟩)) (w' := w.alloc (.cells #[.slice none 0 0, .int .i64 0, .int .i64 0, .slice none 0 0, .int .i64 0] 29)) hB rfl rfl (by unfold execOp; go_simp) ((Below.refl _ _).alloc (Nat.le_refl _) _) (fBox_new hB #[.slice none 0 0, .int .i64 0, .int .i64 0, .slice none 0 0, .int .i64 0])
    · intro a w val own hB hf hown hk
      obtain ⟨k14, bo14, g14, e14, ho14, hW14, r14⟩ := hk 14 (show 14 ∈ [0, 1, 2, 3, 4, 5, 6, 7, 8, 9, 10, 11, 14, 15] by decide)
      have v14 := one_eq e14
      have s9 := k14 9 rfl
      rw [v14] at s9
      clear k14 e14
      obtain ⟨k9, ⟨aq, cq, ag, kg, qs, g, ok⟩, ⟨e9, hX⟩, mX⟩ := hk 9 (show 9 ∈ [0, 1, 2, 3, 4, 5, 6, 7, 8, 9, 10, 11, 14, 15] by decide)
      have v9 := one_eq e9
      have s49 := k9 49 rfl
      unfold WG.val at v9
      dsimp only at v9 hX mX
      rw [v9] at s49
      clear k9 e9
      obtain ⟨k10, f10⟩ := hk 10 (show 10 ∈ [0, 1, 2, 3, 4, 5, 6, 7, 8, 9, 10, 11, 14, 15] by decide)
      have v10 : val 10 = _ := Eq.trans f10 v9
      have s39 := k10 39 rfl
      rw [v10] at s39
      clear k10 f10
      obtain ⟨k11, f11⟩ := hk 11 (show 11 ∈ [0, 1, 2, 3, 4, 5, 6, 7, 8, 9, 10, 11, 14, 15] by decide)
      have v11 : val 11 = .agg #[.slice aq qs.length cq] := by have e : val 11 = tget (val 10) 0 := f11; rw [e, v10]; rfl
      have s50 := k11 50 rfl
      rw [v11] at s50
      clear k11 f11
      have c0 := r14.cell (i := 0) (by decide)
      have z0 := r14.frozen 0
      exact rf_set (w' := setAll w bo14 0 [.slice aq qs.length cq]) rfl rfl (by unfold execOp; simp only [setAll]; go_simp) (setAll_does (show own bo14 ∈ [14] by rw [ho14]; decide) hW14 _ 0 hB) (fRow_set [.slice aq qs.length cq] r14 ho14 hW14 rfl ⟨v14, by show _ = fun q => (val 11).cells.toList.getD q undef; rw [v11]; rfl⟩)
    · intro a w val own hB hf hown hk
      obtain ⟨k15, bo15, g15, e15, ho15, hW15, r15⟩ := hk 15 (show 15 ∈ [0, 1, 2, 3, 4, 5, 6, 7, 8, 9, 10, 11, 12, 14, 15, 16] by decide)
      have v15 := one_eq e15
      have s10 := k15 10 rfl
      rw [v15] at s10
      clear k15 e15
      obtain ⟨k9, ⟨aq, cq, ag, kg, qs, g, ok⟩, ⟨e9, hX⟩, mX⟩ := hk 9 (show 9 ∈ [0, 1, 2, 3, 4, 5, 6, 7, 8, 9, 10, 11, 12, 14, 15, 16] by decide)
      have v9 := one_eq e9
      have s49 := k9 49 rfl
      unfold WG.val at v9
      dsimp only at v9 hX mX
      rw [v9] at s49
      clear k9 e9
      obtain ⟨k10, f10⟩ := hk 10 (show 10 ∈ [0, 1, 2, 3, 4, 5, 6, 7, 8, 9, 10, 11, 12, 14, 15, 16] by decide)
      have v10 : val 10 = _ := Eq.trans f10 v9
      have s39 := k10 39 rfl
      rw [v10] at s39
      clear k10 f10
      obtain ⟨k12, f12⟩ := hk 12 (show 12 ∈ [0, 1, 2, 3, 4, 5, 6, 7, 8, 9, 10, 11, 12, 14, 15, 16] by decide)
      have v12 : val 12 = .agg #[.slice ag g.calls.length kg, .int .i64 g.now, .int .i64 g.born, .slice aD H.said.length kD, .int .i64 g.code] := by have e : val 12 = tget (val 10) 1 := f12; rw [e, v10]; rfl
      have s51 := k12 51 rfl
      rw [v12] at s51
      clear k12 f12
      have c0 := r15.cell (i := 0) (by decide)
      have c1 := r15.cell (i := 1) (by decide)
      have c2 := r15.cell (i := 2) (by decide)
      have c3 := r15.cell (i := 3) (by decide)
      have c4 := r15.cell (i := 4) (by decide)
      have z0 := r15.frozen 0
      have z1 := r15.frozen 1
      have z2 := r15.frozen 2
      have z3 := r15.frozen 3
      have z4 := r15.frozen 4
      exact rf_set (w' := setAll w bo15 0 [.slice ag g.calls.length kg, .int .i64 g.now, .int .i64 g.born, .slice aD H.said.length kD, .int .i64 g.code]) rfl rfl (by unfold execOp; simp only [setAll]; go_simp) (setAll_does (show own bo15 ∈ [15] by rw [ho15]; decide) hW15 _ 0 hB) (fRow_set [.slice ag g.calls.length kg, .int .i64 g.now, .int .i64 g.born, .slice aD H.said.length kD, .int .i64 g.code] r15 ho15 hW15 rfl ⟨v15, by show _ = fun q => (val 12).cells.toList.getD q undef; rw [v12]; rfl⟩)
    · intro a w val own hB hf hown hk
      have s52 := (hk 13 (show 13 ∈ [0, 1, 2, 3, 4, 5, 6, 7, 8, 9, 10, 11, 12, 13, 14, 15, 16, 17] by decide)).1 52 rfl
      exact rf_pure (v := val 13) hB rfl rfl (by unfold execOp; go_simp) rfl
  intro a w3 val own hB hf hown hk
  obtain ⟨k14, bo14, g14, e14, ho14, hW14, r14⟩ := hk 14 (by decide)
  have v14 := one_eq e14
  have s9 := k14 9 rfl
  rw [v14] at s9
  clear k14 e14
  obtain ⟨k9, ⟨aq, cq, ag, kg, qs, g, ok⟩, ⟨e9, hX⟩, mX⟩ := hk 9 (by decide)
  have v9 := one_eq e9
  have s49 := k9 49 rfl
  unfold WG.val at v9
  dsimp only at v9 hX mX
  rw [v9] at s49
  clear k9 e9
  obtain ⟨k10, f10⟩ := hk 10 (by decide)
  have v10 : val 10 = _ := Eq.trans f10 v9
  have s39 := k10 39 rfl
  rw [v10] at s39
  clear k10 f10
  obtain ⟨k11, f11⟩ := hk 11 (by decide)
  have v11 : val 11 = .agg #[.slice aq qs.length cq] := by have e : val 11 = tget (val 10) 0 := f11; rw [e, v10]; rfl
  have s50 := k11 50 rfl
  rw [v11] at s50
  clear k11 f11
  obtain ⟨_, bo16, g16, ⟨e16, hg16⟩, _, _, r16⟩ := hk 16 (by decide)
  have q16 : bo16 = bo14 := by have e : val 14 = _ := e16; rw [v14] at e; injection e with e; injection e with e; injection e with e; exact e.symm
  subst q16
  have hg16 : g16 = fun q => (val 11).cells.toList.getD q undef := hg16
  rw [v11] at hg16
  subst hg16
  have r16 : w3.rowIs bo16 _ _ (fun q => [.slice aq qs.length cq].getD q undef) := r16
  clear e16
  obtain ⟨k15, bo15, g15, e15, ho15, hW15, r15⟩ := hk 15 (by decide)
  have v15 := one_eq e15
  have s10 := k15 10 rfl
  rw [v15] at s10
  clear k15 e15
  obtain ⟨k12, f12⟩ := hk 12 (by decide)
  have v12 : val 12 = .agg #[.slice ag g.calls.length kg, .int .i64 g.now, .int .i64 g.born, .slice aD H.said.length kD, .int .i64 g.code] := by have e : val 12 = tget (val 10) 1 := f12; rw [e, v10]; rfl
  have s51 := k12 51 rfl
  rw [v12] at s51
  clear k12 f12
  obtain ⟨_, bo17, g17, ⟨e17, hg17⟩, _, _, r17⟩ := hk 17 (by decide)
  have q17 : bo17 = bo15 := by have e : val 15 = _ := e17; rw [v15] at e; injection e with e; injection e with e; injection e with e; exact e.symm
  subst q17
  have hg17 : g17 = fun q => (val 12).cells.toList.getD q undef := hg17
  rw [v12] at hg17
  subst hg17
  have r17 : w3.rowIs bo17 _ _ (fun q => [.slice ag g.calls.length kg, .int .i64 g.now, .int .i64 g.born, .slice aD H.said.length kD, .int .i64 g.code].getD q undef) := r17
  clear e17
  obtain ⟨k13, f13⟩ := hk 13 (by decide)
  have v13 : val 13 = .bool ok := by have e : val 13 = tget (val 10) 2 := f13; rw [e, v10]; rfl
  have s52 := k13 52 rfl
  rw [v13] at s52
  clear k13 f13
  obtain ⟨k18, f18⟩ := hk 18 (by decide)
  have v18 : val 18 = _ := Eq.trans f18 v13
  have s11 := k18 11 rfl
  rw [v18] at s11
  clear k18 f18
  have s5 := hf.at (d := 5) (v := .pointer (some ⟨w1.heap.size, 0, none⟩)) (by kernel_rfl) rfl
  have s6 := hf.at (d := 6) (v := .pointer (some ⟨w1.heap.size + 1, 0, none⟩)) (by kernel_rfl) rfl
  have s7 := hf.at (d := 7) (v := .int .i64 (K : Int)) (by kernel_rfl) rfl
  have s8 := hf.at (d := 8) (v := .int .i64 nn) (by kernel_rfl) rfl
  obtain ⟨u, hu0, hv⟩ := frame_any a.tmps (n := 94) hf.size
  have hu : a.tmps = (u 0 :: u 1 :: u 2 :: u 3 :: u 4 :: u 5 :: u 6 :: u 7 :: u 8 :: u 9 :: u 10 :: u 11 :: u 12 :: u 13 :: u 14 :: u 15 :: u 16 :: u 17 :: u 18 :: u 19 :: u 20 :: u 21 :: u 22 :: u 23 :: u 24 :: u 25 :: u 26 :: u 27 :: u 28 :: u 29 :: u 30 :: u 31 :: u 32 :: u 33 :: u 34 :: u 35 :: u 36 :: u 37 :: u 38 :: u 39 :: u 40 :: u 41 :: u 42 :: u 43 :: u 44 :: u 45 :: u 46 :: u 47 :: u 48 :: u 49 :: u 50 :: u 51 :: u 52 :: u 53 :: u 54 :: u 55 :: u 56 :: u 57 :: u 58 :: u 59 :: u 60 :: u 61 :: u 62 :: u 63 :: u 64 :: u 65 :: u 66 :: u 67 :: u 68 :: u 69 :: u 70 :: u 71 :: u 72 :: u 73 :: u 74 :: u 75 :: u 76 :: u 77 :: u 78 :: u 79 :: u 80 :: u 81 :: u 82 :: u 83 :: u 84 :: u 85 :: u 86 :: u 87 :: u 88 :: u 89 :: u 90 :: u 91 :: u 92 :: u 93 :: []).toArray := hu0
  rw [(hv 5).trans s5, (hv 6).trans s6, (hv 7).trans s7, (hv 8).trans s8, (hv 9).trans s9, (hv 10).trans s10, (hv 11).trans s11] at hu
  obtain rfl := act_eq hu (show a.defers = [] from hf.defers)
  obtain ⟨hM3, hH3⟩ := mX.here hB
  have rq := row_one r16
  have rg := row_five r17
  have hB3 := hB
  clear hu hu0 hv hk hown hf mX hB s5 s6 s7 s8 s9 s10 s11
  generalize bo16 = bq at *
  generalize bo17 = bg at *
  clear d0 d1 d2 d3 d4 dp rp rh
  have z3 := hB3.size
  have hlg : g.calls.length ≤ 1000 := by have := hX.l; omega
  have hsg : g.said.length ≤ 800000 := by rw [hX.s]; omega
  have hT3 := HMH.out.2.2.below hB3
  have HI := implHeapStep_any _ _ _ qs g w3 hM3 hT3 hH3 hlg hsg
  have HMX : Hid (MethsAt w3 (.slice aq (List.length qs) cq) qs ∧ HeapAt w3 (.slice ag g.calls.length kg) (.slice aD H.said.length kD) g ∧ WithOk ms H 14 (nn) [(1, 7), (2, (K : Int)), (1, 44)] qs g ok) := ⟨hM3, hH3, hX⟩
  have HRE : Hid (ok = true → heapOk qs g = true ∧ hRun qs g 1 = (pokeH (afterH g [(1, 7)]) K nn (1, 44)) ∧ Good qs g ∧ ∃ j : Nat, g.now = (j : Int) ∧ ∃ hj : j < g.calls.length, 0 ≤ g.calls[j].pc ∧ g.calls[j].pc ≤ 1000) := fun e => by
    subst e
    obtain ⟨_, _, _, ho⟩ := hX.yes rfl
    have hA := with_at hX
    obtain ⟨hg, hc, hr, hs, j, m, pc, hj, hm, hpl, hn, hcur, hst, hme, hpc, hop⟩ := hA
    refine ⟨ho, ?_, hg, j, hn, hj, ?_⟩
    · have e := with_step hX (t := 2) (l := 0) rfl (by simp) rfl; rw [e]; rfl
    · have := (hg.cl j hj).pc
      have hp := hg.head.p
      unfold progOk at hp
      simp only [Bool.and_eq_true] at hp
      have ha := List.all_eq_true.1 hp.2 _ (List.getElem_mem hm)
      unfold methOk at ha
      simp only [Bool.and_eq_true, decide_eq_true_eq] at ha
      have h14 := ha.1.2
      rw [hpc]
      omega
  clear hM3 hH3 hX hT3
  generalize hRun qs g 1 = R at *
  obtain ⟨fb, hfb⟩ : ∃ fb, heapOk qs g = fb := ⟨_, rfl⟩
  rw [hfb] at HI
  have HFB : Hid (heapOk qs g = fb) := hfb
  clear hfb
  unfold hpCells at HI
  obtain ⟨⟨d0, d1, d2, d3, d4⟩, _⟩ := five_cells rg
  have dp := rq.cell (i := 0) (by decide)
  go_wp2_with fail
  refine HI.mono ?_
  rintro e w5 ⟨⟨vc5, vs5, V5, rfl, hO5⟩, hb5⟩
  obtain ⟨a5, k5, hv5⟩ := hO5.at.c.shape
  obtain ⟨b5, l5, hs5⟩ := hO5.at.s.shape
  subst hv5 hs5
  have z5 := hb5.size
  have rq5 := row_below hb5 rq
  have rg5 := row_below hb5 rg
  clear HI d0 d1 d2 d3 d4 dp rq rg
  go_upto_region 8 with fail
  have N6 : Below w5.heap.size w5 (w5.alloc (.cells #[.slice a5 R.calls.length k5, .int .i64 R.now, .int .i64 R.born, .slice b5 R.said.length l5, .int .i64 R.code] 29)) := (Below.refl _ _).alloc (Nat.le_refl _) _
  have rx6 := five_new w5 29 (.slice a5 R.calls.length k5) (.int .i64 R.now) (.int .i64 R.born) (.slice b5 R.said.length l5) (.int .i64 R.code)
  have rq6 := row_below N6 rq5
  have rg6 := row_below N6 rg5
  have b6 := hb5.trans (N6.mono z5)
  have HX6 : Hid (HeapAt (w5.alloc (.cells #[.slice a5 R.calls.length k5, .int .i64 R.now, .int .i64 R.born, .slice b5 R.said.length l5, .int .i64 R.code] 29)) (.slice a5 R.calls.length k5) (.slice b5 R.said.length l5) R) := hO5.at.below N6
  have HXO : Hid (OwnHeap w3.heap.size (w5.alloc (.cells #[.slice a5 R.calls.length k5, .int .i64 R.now, .int .i64 R.born, .slice b5 R.said.length l5, .int .i64 R.code] 29)) (.slice a5 R.calls.length k5) (.slice b5 R.said.length l5) R V5) := hO5.below N6
  clear hO5 rq5 rg5 N6
  generalize w5.alloc (.cells #[.slice a5 R.calls.length k5, .int .i64 R.now, .int .i64 R.born, .slice b5 R.said.length l5, .int .i64 R.code] 29) = W6 at *
  generalize w5.heap.size = bx at *
  have HM6 : Hid (MethsAt W6 (.slice aq (List.length qs) cq) qs ∧ HeapAt W6 (.slice ag g.calls.length kg) (.slice aD H.said.length kD) g) := ⟨HMX.out.1.below b6, HMX.out.2.1.below b6⟩
  have hB6 := (hB2.trans (hB3.mono z2)).trans (b6.mono (by have := hB2.size; omega))
  have z6 := hB6.size
  cases ok
  · have HOK := specHeapOk_any _ _ _ qs g W6 HM6.out.1 HM6.out.2 (by omega)
    rw [HFB.out] at HOK
    unfold hpCells at HOK
    obtain ⟨⟨d0, d1, d2, d3, d4⟩, _⟩ := five_cells rg6
    have dp := rq6.cell (i := 0) (by decide)
    go_wp2_with fail
    refine HOK.mono ?_
    rintro e w7 ⟨rfl, hb7⟩
    go_wp2
    go_ret
    exact ⟨ret_bool (by cases fb <;> rfl), hB6.trans (hb7.mono z6)⟩
  obtain ⟨hfb, hRE, hgd, j, hnj, hj, hpcj⟩ := HRE.out rfl
  have hfb2 : fb = true := by rw [← HFB.out]; exact hfb
  subst hfb2
  have HRA : Hid (R = (pokeH (afterH g [(1, 7)]) K nn (1, 44))) := hRE
  have HGN : Hid (Good qs g ∧ g.now = (j : Int) ∧ j < g.calls.length) := ⟨hgd, hnj, hj⟩
  clear hRE HRE hfb hnj hgd
  have hKg : K < g.calls.length := by have e1 := HMX.out.2.2.l; have e2 := HKb.out; omega
  obtain ⟨I, hI⟩ := Int.eq_ofNat_of_zero_le hnnb.1
  have HNI : Hid (nn = (I : Int)) := hI
  obtain ⟨A, hA⟩ : ∃ A : Hp, A = afterH g [(1, 7)] := ⟨_, rfl⟩
  have HAA : Hid (A = afterH g [(1, 7)]) := hA
  have HAn : Hid (A.now = (j : Int) ∧ A.calls.length = g.calls.length ∧ A.born = g.born ∧ A.said = g.said ∧ A.code = g.code) := by obtain ⟨x1, x2, x3, x4, x5⟩ := afterH_fields g [(1, 7)]; rw [hA]; exact ⟨x1.trans HGN.out.2.1, x2, x3, x4, x5⟩
  clear hA
  have HAF : Hid (∀ (W : World) (vk : Value), Below W6.heap.size W6 W → OpsAt W vk [(1, 7)] → Calls Tryz.prog 22 #[.agg #[.slice ag g.calls.length kg, .int .i64 g.now, .int .i64 g.born, .slice aD H.said.length kD, .int .i64 g.code], vk] W fun e w' => (∃ vc' vs' V', e = .returned (.agg (hpCells vc' vs' A)) ∧ OwnHeap W.heap.size w' vc' vs' A V') ∧ Below W.heap.size W w') := fun W vk hW hk => by
    rw [HAA.out]
    have hl := HGN.out.1.lens
    exact lmAfter_any _ _ vk g _ j W (HM6.out.2.below hW) hk HGN.out.2.1 hj hpcj (by simp) (by omega) (fun i hi => by have := hl.2 i hi; omega) (by omega)
  go_wp2_with fail
  refine wp_region_fs [[], [], [1], [0, 1, 2], [], [0, 1, 2, 3, 4]] [[0], [1], [2], [3], [4], [4, 3]] [[], [], [], [], [], [4]] [fIs (.agg #[.slice ag g.calls.length kg, .int .i64 g.now, .int .i64 g.born, .slice aD H.said.length kD, .int .i64 g.code]), fIs (.agg #[.int .i64 1, .int .i64 7]), fGh 2 (fun (x : Value) l => l = [x]) (fun x w1 => OpsAt w1 x [(1, 7)]), fAfter 3 A, fBox 4 29 5, fRow 4 29 5 fun b f l => l.getD 0 undef = .pointer (some ⟨b, 0, none⟩) ∧ f = fun q => (l.getD 1 undef).cells.toList.getD q undef] 6 rfl (by kernel_rfl) (by kernel_rfl) ?_ ?_
  · refine all_lt_succ (all_lt_succ (all_lt_succ (all_lt_succ (all_lt_succ (all_lt_succ (all_lt_zero) ?_) ?_) ?_) ?_) ?_) ?_
    · intro a w val own hB hf hown hk
      have s10 := hf.at (d := 10) (v := .pointer (some ⟨bg, 0, none⟩)) (by kernel_rfl) rfl
      obtain ⟨⟨c0, c1, c2, c3, c4⟩, _⟩ := five_cells (row_below hB rg6)
      exact rf_pure (v := .agg #[.slice ag g.calls.length kg, .int .i64 g.now, .int .i64 g.born, .slice aD H.said.length kD, .int .i64 g.code]) hB rfl rfl (by unfold execOp; go_simp) rfl
    · intro a w val own hB hf hown hk
      exact rf_call hB rfl rfl (by unfold execOp; go_simp) ((lmNum_any 7 w).mono fun e w' ⟨he, hb⟩ => ⟨_, he, hb, rfl⟩)
    · intro a w val own hB hf hown hk
      obtain ⟨k1, f1⟩ := hk 1 (show 1 ∈ [1] by decide)
      have s67 := k1 67 rfl
      rw [fIs_out f1] at s67
      clear k1 f1
      exact rf_new (v := .slice (some ⟨w.heap.size, 0, none⟩) 1 1) (w' := w.alloc (.cells #[.int .i64 1, .int .i64 7] 37)) hB rfl rfl (by unfold execOp; go_simp) ((Below.refl _ _).alloc (Nat.le_refl _) _) ⟨_, rfl, Made.new fun w1 _ _ hr => (one_vals w 1 7 37 1).of_block (hr _ (Nat.le_refl _) (by simp))⟩
    · intro a w val own hB hf hown hk
      obtain ⟨k0, f0⟩ := hk 0 (show 0 ∈ [0, 1, 2] by decide)
      have s66 := k0 66 rfl
      rw [fIs_out f0] at s66
      clear k0 f0
      obtain ⟨k2, x2, e2, m2⟩ := hk 2 (show 2 ∈ [0, 1, 2] by decide)
      have v2 := one_eq e2
      have s68 := k2 68 rfl
      rw [v2] at s68
      clear k2 e2
      exact rf_call hB rfl rfl (by unfold execOp; go_simp) (after_call hB (HAF.out w x2 hB (m2.here hB)))
    · intro a w val own hB hf hown hk
      exact rf_new (v := .pointer (some ⟨w.heap.size, 0, none⟩)) (w' := w.alloc (.cells #[.slice none 0 0, .int .i64 0, .int .i64 0, .slice none 0 0, .int .i64 0] 29)) hB rfl rfl (by unfold execOp; go_simp) ((Below.refl _ _).alloc (Nat.le_refl _) _) (fBox_new hB #[.slice none 0 0, .int .i64 0, .int .i64 0, .slice none 0 0, .int .i64 0])
    · intro a w val own hB hf hown hk
      obtain ⟨k4, bo4, g4, e4, ho4, hW4, r4⟩ := hk 4 (show 4 ∈ [0, 1, 2, 3, 4] by decide)
      have v4 := one_eq e4
      have s14 := k4 14 rfl
      rw [v4] at s14
      clear k4 e4
      obtain ⟨k3, ⟨aA, kA, bA, lA, VA⟩, e3, o3, m3⟩ := hk 3 (show 3 ∈ [0, 1, 2, 3, 4] by decide)
      have v3 : val 3 = .agg #[.slice aA A.calls.length kA, .int .i64 A.now, .int .i64 A.born, .slice bA A.said.length lA, .int .i64 A.code] := one_eq e3
      have s69 := k3 69 rfl
      rw [v3] at s69
      dsimp only at m3 o3
      clear k3 e3
      have c0 := r4.cell (i := 0) (by decide)
      have c1 := r4.cell (i := 1) (by decide)
      have c2 := r4.cell (i := 2) (by decide)
      have c3 := r4.cell (i := 3) (by decide)
      have c4 := r4.cell (i := 4) (by decide)
      have z0 := r4.frozen 0
      have z1 := r4.frozen 1
      have z2 := r4.frozen 2
      have z3 := r4.frozen 3
      have z4 := r4.frozen 4
      exact rf_set (w' := setAll w bo4 0 [.slice aA A.calls.length kA, .int .i64 A.now, .int .i64 A.born, .slice bA A.said.length lA, .int .i64 A.code]) rfl rfl (by unfold execOp; simp only [setAll]; go_simp) (setAll_does (show own bo4 ∈ [4] by rw [ho4]; decide) hW4 _ 0 hB) (fRow_set [.slice aA A.calls.length kA, .int .i64 A.now, .int .i64 A.born, .slice bA A.said.length lA, .int .i64 A.code] r4 ho4 hW4 rfl ⟨v4, by show _ = fun q => (val 3).cells.toList.getD q undef; rw [v3]; rfl⟩)
  intro a w9 val own hB hf hown hk
  obtain ⟨k4, bo4, g4, e4, ho4, hW4, r4⟩ := hk 4 (by decide)
  have v4 := one_eq e4
  have s14 := k4 14 rfl
  rw [v4] at s14
  clear k4 e4
  obtain ⟨k3, ⟨aA, kA, bA, lA, VA⟩, e3, o3, m3⟩ := hk 3 (by decide)
  have v3 : val 3 = .agg #[.slice aA A.calls.length kA, .int .i64 A.now, .int .i64 A.born, .slice bA A.said.length lA, .int .i64 A.code] := one_eq e3
  have s69 := k3 69 rfl
  rw [v3] at s69
  dsimp only at m3 o3
  clear k3 e3
  obtain ⟨_, bo5, g5, ⟨e5, hg5⟩, _, _, r5⟩ := hk 5 (by decide)
  have q5 : bo5 = bo4 := by have e : val 4 = _ := e5; rw [v4] at e; injection e with e; injection e with e; injection e with e; exact e.symm
  subst q5
  have hg5 : g5 = fun q => (val 3).cells.toList.getD q undef := hg5
  rw [v3] at hg5
  subst hg5
  have r5 : w9.rowIs bo5 _ _ (fun q => [.slice aA A.calls.length kA, .int .i64 A.now, .int .i64 A.born, .slice bA A.said.length lA, .int .i64 A.code].getD q undef) := r5
  clear e5
  have s5 := hf.at (d := 5) (v := .pointer (some ⟨w1.heap.size, 0, none⟩)) (by kernel_rfl) rfl
  have s6 := hf.at (d := 6) (v := .pointer (some ⟨w1.heap.size + 1, 0, none⟩)) (by kernel_rfl) rfl
  have s7 := hf.at (d := 7) (v := .int .i64 (K : Int)) (by kernel_rfl) rfl
  have s8 := hf.at (d := 8) (v := .int .i64 nn) (by kernel_rfl) rfl
  have s9 := hf.at (d := 9) (v := .pointer (some ⟨bq, 0, none⟩)) (by kernel_rfl) rfl
  have s10 := hf.at (d := 10) (v := .pointer (some ⟨bg, 0, none⟩)) (by kernel_rfl) rfl
  have s12 := hf.at (d := 12) (v := .pointer (some ⟨bx, 0, none⟩)) (by kernel_rfl) rfl
  have s13 := hf.at (d := 13) (v := .bool true) (by kernel_rfl) rfl
  obtain ⟨u, hu0, hv⟩ := frame_any a.tmps (n := 94) hf.size
  have hu : a.tmps = (u 0 :: u 1 :: u 2 :: u 3 :: u 4 :: u 5 :: u 6 :: u 7 :: u 8 :: u 9 :: u 10 :: u 11 :: u 12 :: u 13 :: u 14 :: u 15 :: u 16 :: u 17 :: u 18 :: u 19 :: u 20 :: u 21 :: u 22 :: u 23 :: u 24 :: u 25 :: u 26 :: u 27 :: u 28 :: u 29 :: u 30 :: u 31 :: u 32 :: u 33 :: u 34 :: u 35 :: u 36 :: u 37 :: u 38 :: u 39 :: u 40 :: u 41 :: u 42 :: u 43 :: u 44 :: u 45 :: u 46 :: u 47 :: u 48 :: u 49 :: u 50 :: u 51 :: u 52 :: u 53 :: u 54 :: u 55 :: u 56 :: u 57 :: u 58 :: u 59 :: u 60 :: u 61 :: u 62 :: u 63 :: u 64 :: u 65 :: u 66 :: u 67 :: u 68 :: u 69 :: u 70 :: u 71 :: u 72 :: u 73 :: u 74 :: u 75 :: u 76 :: u 77 :: u 78 :: u 79 :: u 80 :: u 81 :: u 82 :: u 83 :: u 84 :: u 85 :: u 86 :: u 87 :: u 88 :: u 89 :: u 90 :: u 91 :: u 92 :: u 93 :: []).toArray := hu0
  rw [(hv 5).trans s5, (hv 6).trans s6, (hv 7).trans s7, (hv 8).trans s8, (hv 9).trans s9, (hv 10).trans s10, (hv 12).trans s12, (hv 13).trans s13, (hv 14).trans s14] at hu
  obtain rfl := act_eq hu (show a.defers = [] from hf.defers)
  have hOA := m3.here hB
  have rw9 := row_five r5
  have rx9 := row_below hB rx6
  have rg9 := row_below hB rg6
  have hwn : ¬ HeapBlocks (.slice aA A.calls.length kA) (.slice bA A.said.length lA) A.calls.length VA bo5 := fun e => by have e2 := (o3 _ e).1; rw [ho4] at e2; exact absurd e2 (by decide)
  have hw6 : W6.heap.size ≤ bo5 := hW4
  have HX9 : Hid (HeapAt w9 (.slice a5 R.calls.length k5) (.slice b5 R.said.length l5) R ∧ HeapAt w9 (.slice ag g.calls.length kg) (.slice aD H.said.length kD) g ∧ MethsAt w9 (.slice aq (List.length qs) cq) qs) := ⟨HX6.out.below hB, HM6.out.2.below hB, HM6.out.1.below hB⟩
  have hB9 := hB
  clear hu hu0 hv hk hown hf hB s5 s6 s7 s8 s9 s10 s12 s13 s14 m3 o3 r5
  generalize bo5 = bw at *
  have hjA : j < A.calls.length := by rw [HAn.out.2.1]; exact hj
  have hKA : K < A.calls.length := by rw [HAn.out.2.1]; exact hKg
  obtain ⟨gA, oA, cA, hvA, hgA, _⟩ := hOA.c.form (by omega)
  injection hvA with hvA1 _ hvA2
  subst hvA1 hvA2
  have hgw : gA ≠ bw := fun e => hwn (.inr (.inl (by rw [e]; rfl)))
  have hgx : gA ≠ bx := fun e => by have := rx6.lt; omega
  obtain ⟨⟨q0, q1, q2, q3, q4, q5⟩, qf0, qf1, qf2, qf3, qf4, qf5⟩ := ocell_at hOA.c hKA
  obtain ⟨⟨y0, y1, y2, y3, y4⟩, yf0, yf1, yf2, yf3, yf4⟩ := five_cells rw9
  rw [HAn.out.1] at y1
  have hVt := (hOA.c.lists K hKA).1
  obtain ⟨at_, ct, hvt, _⟩ := hVt.slice
  rw [hvt] at q2
  have HVT : Hid ((VA K).1 = .slice at_ A.calls[K].temps.length ct) := hvt
  have HOA : Hid (OwnHeap W6.heap.size w9 (.slice (some ⟨gA, oA, none⟩) A.calls.length kA) (.slice bA A.said.length lA) A VA) := hOA
  clear hVt hOA q0 q1 q3 q4 q5 qf0 qf1 qf2 qf3 qf4 qf5 y2 y3 y4 yf0 yf1 yf2 yf3 yf4
  have HPK : Hid (R = { A with calls := A.calls.set K { A.calls[K] with temps := A.calls[K].temps.set I (1, 44) } }) := by show R = _; rw [HRA.out, ← HAA.out]; unfold pokeH; rw [HNI.out, Int.toNat_natCast]; simp [hKA]
  by_cases hIl : I < A.calls[K].temps.length
  case pos =>
    have hVt := (HOA.out.c.lists K hKA).1
    rw [hvt] at hVt
    obtain ⟨gt, ot, ct2, hvt2, hgt1, hgt2⟩ := hVt.form (by omega)
    injection hvt2 with hat _ _
    subst hat
    have HVt : Hid (PairRow W6.heap.size w9 (.slice (some ⟨gt, ot, none⟩) A.calls[K].temps.length ct) A.calls[K].temps) := hVt
    have hgtw : gt ≠ bw := fun e => hwn (.inr (.inr ⟨K * 2, by omega, by rw [lst_0, hvt, e]; rfl⟩))
    have hgtx : gt ≠ bx := fun e => by have := rx6.lt; omega
    have hIz : (I : Int) < (A.calls[K].temps.length : Int) := by omega
    clear hvt hVt
    go_upto_region 12 with fail
    clear hI hIz
    refine wp_region_fl [[], [0], [], [0, 1, 2], [0, 1, 2, 3], [0, 1, 2, 3, 4], [], [], [0, 1, 2, 3, 4, 5, 6, 7], [0, 1, 2, 3, 4, 5, 6, 7, 8]] [[0], [1], [2], [3], [4], [5], [6], [7], [8], []] [[], [], [], [], [], [], [], [], [], []] [fIs (.pointer (some ⟨bw, 0, none⟩)), fIs (.slice (some ⟨gA, oA, none⟩) A.calls.length kA), fIs (.int .i64 (K : Int)), fIs (.pointer (some ⟨gA, oA + K * 6, none⟩)), fIs (.pointer (some ⟨gA, oA + K * 6 + 2, none⟩)), fIs (.slice (some ⟨gt, ot, none⟩) A.calls[K].temps.length ct), fIs (.int .i64 nn), fIs (.agg #[.int .i64 1, .int .i64 44]), fIs (.pointer (some ⟨gt, ot + I * 2, none⟩)), fOf fun _ => True] 9 rfl (by kernel_rfl) (by kernel_rfl) (by kernel_rfl) ?_ ?_
    · refine all_lt_succ (all_lt_succ (all_lt_succ (all_lt_succ (all_lt_succ (all_lt_succ (all_lt_succ (all_lt_succ (all_lt_succ (all_lt_zero) ?_) ?_) ?_) ?_) ?_) ?_) ?_) ?_) ?_
      · intro a w val own hB hf hown hk
        have s14 := hf.at (d := 14) (v := .pointer (some ⟨bw, 0, none⟩)) (by kernel_rfl) rfl
        exact rf_pure (v := .pointer (some ⟨bw, 0, none⟩)) hB rfl rfl (by unfold execOp; go_simp) rfl
      · intro a w val own hB hf hown hk
        obtain ⟨k0, f0⟩ := hk 0 (show 0 ∈ [0] by decide)
        have s79 := k0 79 rfl
        rw [fIs_out f0] at s79
        clear k0 f0
        have cy0 := cell_below hB y0
        exact rf_pure (v := .slice (some ⟨gA, oA, none⟩) A.calls.length kA) hB rfl rfl (by unfold execOp; go_simp) rfl
      · intro a w val own hB hf hown hk
        have s7 := hf.at (d := 7) (v := .int .i64 (K : Int)) (by kernel_rfl) rfl
        exact rf_pure (v := .int .i64 (K : Int)) hB rfl rfl (by unfold execOp; go_simp) rfl
      · intro a w val own hB hf hown hk
        obtain ⟨k1, f1⟩ := hk 1 (show 1 ∈ [0, 1, 2] by decide)
        have s80 := k1 80 rfl
        rw [fIs_out f1] at s80
        clear k1 f1
        obtain ⟨k2, f2⟩ := hk 2 (show 2 ∈ [0, 1, 2] by decide)
        have s81 := k2 81 rfl
        rw [fIs_out f2] at s81
        clear k2 f2
        exact rf_pure (v := .pointer (some ⟨gA, oA + K * 6, none⟩)) hB rfl rfl (by unfold execOp; go_simp) rfl
      · intro a w val own hB hf hown hk
        obtain ⟨k3, f3⟩ := hk 3 (show 3 ∈ [0, 1, 2, 3] by decide)
        have s82 := k3 82 rfl
        rw [fIs_out f3] at s82
        clear k3 f3
        exact rf_pure (v := .pointer (some ⟨gA, oA + K * 6 + 2, none⟩)) hB rfl rfl (by unfold execOp; go_simp) rfl
      · intro a w val own hB hf hown hk
        obtain ⟨k4, f4⟩ := hk 4 (show 4 ∈ [0, 1, 2, 3, 4] by decide)
        have s83 := k4 83 rfl
        rw [fIs_out f4] at s83
        clear k4 f4
        have cq2 := cell_below hB q2
        exact rf_pure (v := .slice (some ⟨gt, ot, none⟩) A.calls[K].temps.length ct) hB rfl rfl (by unfold execOp; go_simp) rfl
      · intro a w val own hB hf hown hk
        have s8 := hf.at (d := 8) (v := .int .i64 nn) (by kernel_rfl) rfl
        exact rf_pure (v := .int .i64 nn) hB rfl rfl (by unfold execOp; go_simp) rfl
      · intro a w val own hB hf hown hk
        exact rf_call hB rfl rfl (by unfold execOp; go_simp) ((lmNum_any 44 w).mono fun e w' ⟨he, hb⟩ => ⟨_, he, hb, rfl⟩)
      · intro a w val own hB hf hown hk
        obtain ⟨k5, f5⟩ := hk 5 (show 5 ∈ [0, 1, 2, 3, 4, 5, 6, 7] by decide)
        have s84 := k5 84 rfl
        rw [fIs_out f5] at s84
        clear k5 f5
        obtain ⟨k6, f6⟩ := hk 6 (show 6 ∈ [0, 1, 2, 3, 4, 5, 6, 7] by decide)
        have s85 := k6 85 rfl
        rw [fIs_out f6] at s85
        clear k6 f6
        have hnI := HNI.out
        exact rf_pure (v := .pointer (some ⟨gt, ot + I * 2, none⟩)) hB rfl rfl (by unfold execOp; go_simp) rfl
    intro a w10 val own hB hf hown hk
    obtain ⟨k8, f8⟩ := hk 8 (by decide)
    have s87 := k8 87 rfl
    rw [fIs_out f8] at s87
    clear k8 f8
    obtain ⟨k7, f7⟩ := hk 7 (by decide)
    have s86 := k7 86 rfl
    rw [fIs_out f7] at s86
    clear k7 f7
    have s5 := hf.at (d := 5) (v := .pointer (some ⟨w1.heap.size, 0, none⟩)) (by kernel_rfl) rfl
    have s6 := hf.at (d := 6) (v := .pointer (some ⟨w1.heap.size + 1, 0, none⟩)) (by kernel_rfl) rfl
    have s7 := hf.at (d := 7) (v := .int .i64 (K : Int)) (by kernel_rfl) rfl
    have s8 := hf.at (d := 8) (v := .int .i64 nn) (by kernel_rfl) rfl
    have s9 := hf.at (d := 9) (v := .pointer (some ⟨bq, 0, none⟩)) (by kernel_rfl) rfl
    have s10 := hf.at (d := 10) (v := .pointer (some ⟨bg, 0, none⟩)) (by kernel_rfl) rfl
    have s12 := hf.at (d := 12) (v := .pointer (some ⟨bx, 0, none⟩)) (by kernel_rfl) rfl
    have s13 := hf.at (d := 13) (v := .bool true) (by kernel_rfl) rfl
    have s14 := hf.at (d := 14) (v := .pointer (some ⟨bw, 0, none⟩)) (by kernel_rfl) rfl
    obtain ⟨⟨z0, z1⟩, zf0, zf1⟩ := (HVt.out.below hB).cell hIl
    refine wpOp_skip (w' := setAll w10 gt (ot + I * 2) [.int .i64 1, .int .i64 44]) rfl rfl (by unfold execOp; simp only [setAll]; go_simp) ?_
    simp only [Act.put, setAll]
    obtain ⟨u, hu0, hv⟩ := frame_any a.tmps (n := 94) hf.size
    have hu : a.tmps = (u 0 :: u 1 :: u 2 :: u 3 :: u 4 :: u 5 :: u 6 :: u 7 :: u 8 :: u 9 :: u 10 :: u 11 :: u 12 :: u 13 :: u 14 :: u 15 :: u 16 :: u 17 :: u 18 :: u 19 :: u 20 :: u 21 :: u 22 :: u 23 :: u 24 :: u 25 :: u 26 :: u 27 :: u 28 :: u 29 :: u 30 :: u 31 :: u 32 :: u 33 :: u 34 :: u 35 :: u 36 :: u 37 :: u 38 :: u 39 :: u 40 :: u 41 :: u 42 :: u 43 :: u 44 :: u 45 :: u 46 :: u 47 :: u 48 :: u 49 :: u 50 :: u 51 :: u 52 :: u 53 :: u 54 :: u 55 :: u 56 :: u 57 :: u 58 :: u 59 :: u 60 :: u 61 :: u 62 :: u 63 :: u 64 :: u 65 :: u 66 :: u 67 :: u 68 :: u 69 :: u 70 :: u 71 :: u 72 :: u 73 :: u 74 :: u 75 :: u 76 :: u 77 :: u 78 :: u 79 :: u 80 :: u 81 :: u 82 :: u 83 :: u 84 :: u 85 :: u 86 :: u 87 :: u 88 :: u 89 :: u 90 :: u 91 :: u 92 :: u 93 :: []).toArray := hu0
    rw [(hv 5).trans s5, (hv 6).trans s6, (hv 7).trans s7, (hv 8).trans s8, (hv 9).trans s9, (hv 10).trans s10, (hv 12).trans s12, (hv 13).trans s13, (hv 14).trans s14] at hu
    obtain rfl := act_eq hu (show a.defers = [] from hf.defers)
    clear hu hu0 hv hk hown hf s5 s6 s7 s8 s9 s10 s12 s13 s14 s86 s87
    have hO10 := HOA.out.below hB
    have hpu := hO10.put hKA (put_temp hO10.c hKA HVT.out I hIl 1 44)
    have hbl : ∀ q, q ≠ gt → ((w10.setCell ⟨gt, ot + I * 2, none⟩ (.int .i64 1)).setCell ⟨gt, ot + I * 2 + 1, none⟩ (.int .i64 44)).heap[q]? = w10.heap[q]? := fun q e => (Below.heap_setCell _ _ _ _ e).trans (Below.heap_setCell _ _ _ _ e)
    have rwE := (row_below hB rw9).of_block (hbl bw (Ne.symm hgtw))
    have rxE := (row_below hB rx9).of_block (hbl bx (Ne.symm hgtx))
    have b10 := hB9.trans (hB.mono hB9.size)
    have bE : Below W6.heap.size W6 ((w10.setCell ⟨gt, ot + I * 2, none⟩ (.int .i64 1)).setCell ⟨gt, ot + I * 2 + 1, none⟩ (.int .i64 44)) := (b10.setCell (p := ⟨gt, ot + I * 2, none⟩) hgt1 _).setCell (p := ⟨gt, ot + I * 2 + 1, none⟩) hgt1 _
    have HXE : Hid (HeapAt ((w10.setCell ⟨gt, ot + I * 2, none⟩ (.int .i64 1)).setCell ⟨gt, ot + I * 2 + 1, none⟩ (.int .i64 44)) (.slice a5 R.calls.length k5) (.slice b5 R.said.length l5) R) := HX6.out.below bE
    have hRA := HPK.out
    have HpE : Hid (HeapAt ((w10.setCell ⟨gt, ot + I * 2, none⟩ (.int .i64 1)).setCell ⟨gt, ot + I * 2 + 1, none⟩ (.int .i64 44)) (.slice (some ⟨gA, oA, none⟩) R.calls.length kA) (.slice bA R.said.length lA) R) := by
      show HeapAt _ _ _ _
      rw [hRA]
      simpa using hpu.at
    clear hpu hO10 hbl rw9 rx9 q2 y0 y1 z0 z1 zf0 zf1 b10 hB
    generalize ((w10.setCell ⟨gt, ot + I * 2, none⟩ (.int .i64 1)).setCell ⟨gt, ot + I * 2 + 1, none⟩ (.int .i64 44)) = WE at *
    have hRw : R.calls.length = A.calls.length ∧ R.now = A.now ∧ R.born = A.born ∧ R.said.length = A.said.length ∧ R.code = A.code := by rw [hRA]; exact ⟨by simp, rfl, rfl, rfl, rfl⟩
    obtain ⟨hR0, hR1, hR2, hR3, hR4⟩ := hRw
    clear hRA
    obtain ⟨⟨x0, x1, x2, x3, x4⟩, _⟩ := five_cells rxE
    obtain ⟨⟨y0, y1, y2, y3, y4⟩, _⟩ := five_cells rwE
    rw [← hR0] at y0
    rw [← hR1] at y1
    rw [← hR2] at y2
    rw [← hR3] at y3
    rw [← hR4] at y4
    have HLM := lmHeap_same R _ _ _ _ WE HXE.out HpE.out
    unfold hpCells at HLM
    clear hR0 hR1 hR2 hR3 hR4 rxE rwE
    go_wp2_with fail
    refine HLM.mono ?_
    rintro e wZ ⟨rfl, hbZ⟩
    go_wp2
    go_ret
    exact ⟨ret_bool (by first | rfl | simp), (hB6.trans (bE.mono z6)).trans (hbZ.mono (by have := bE.size; omega))⟩
  case neg =>
    have hIz : ¬ (I : Int) < (A.calls[K].temps.length : Int) := by omega
    go_upto_region 13 with fail
    clear hI hIz
    have rwE := rw9
    have rxE := rx9
    have HXE : Hid (HeapAt w9 (.slice a5 R.calls.length k5) (.slice b5 R.said.length l5) R) := HX6.out.below hB9
    have hRA : R = A := by rw [HPK.out, List.set_eq_of_length_le (Nat.not_lt.1 hIl)]; show ({ A with calls := A.calls.set K A.calls[K] } : Hp) = A; rw [List.set_getElem_self]
    have HpE : Hid (HeapAt w9 (.slice (some ⟨gA, oA, none⟩) R.calls.length kA) (.slice bA R.said.length lA) R) := by rw [hRA]; exact HOA.out.at
    clear rw9 rx9 q2 y0 y1 hvt
    have hRw : R.calls.length = A.calls.length ∧ R.now = A.now ∧ R.born = A.born ∧ R.said.length = A.said.length ∧ R.code = A.code := by rw [hRA]; exact ⟨rfl, rfl, rfl, rfl, rfl⟩
    obtain ⟨hR0, hR1, hR2, hR3, hR4⟩ := hRw
    clear hRA
    obtain ⟨⟨x0, x1, x2, x3, x4⟩, _⟩ := five_cells rxE
    obtain ⟨⟨y0, y1, y2, y3, y4⟩, _⟩ := five_cells rwE
    rw [← hR0] at y0
    rw [← hR1] at y1
    rw [← hR2] at y2
    rw [← hR3] at y3
    rw [← hR4] at y4
    have HLM := lmHeap_same R _ _ _ _ w9 HXE.out HpE.out
    unfold hpCells at HLM
    clear hR0 hR1 hR2 hR3 hR4 rxE rwE
    go_wp2_with fail
    refine HLM.mono ?_
    rintro e wZ ⟨rfl, hbZ⟩
    go_wp2
    go_ret
    exact ⟨ret_bool (by first | rfl | simp), (hB6.trans (hB9.mono z6)).trans (hbZ.mono (by have := hB9.size; omega))⟩
end Go.Proofs.YtoaalcijdcmboabGreatDoor
