/-
  The law FnHeapCall, walked: whatever bytes come in, it answers true and writes to nothing that was there, where the table opForms lies as its text lays it.
-/
import Derived.Test.YtfpodljalccpnaaGreatDoorDrawHeapStep
import Derived.Test.YtfpodljalccpnaaGreatDoorCallL
import Derived.Test.YtfpodljalccpnaaGreatDoorLmHeap
import Derived.Test.YtfpodljalccpnaaGreatDoorLWalk14
import Derived.Test.YtfpodljalccpnaaGreatDoorDraw6
import Derived.Deep.RegionHeld3
import Derived.Lib.MinMax

namespace Go.Proofs.YtfpodljalccpnaaGreatDoor
open Go.RowKit
set_option maxRecDepth 100000 in
set_option maxHeartbeats 4000000 in
theorem lawHeapCall_any (w : World) (a : Option Addr) (len cap : Nat) (a2 : Option Addr) (len2 cap2 : Nat) (h : BytesAt w a len cap) (hc2 : len2 ≤ 9223372036854775807) (hT : TabAt w) :
    Calls Tryz.prog 5 #[.slice a len cap, .slice a2 len2 cap2] w fun e w' => e = .returned (.bool true) ∧ Below w.heap.size w w' := by
  have hc := h.1
  have hm := h.2.1
  unfold maxLen at hm
  have HB : Hid (BytesAt w a len cap) := h
  have HT : Hid (TabAt w) := hT
  clear h hT
  by_cases hl : 1048576 < len
  · have hlz : (1048576 : Int) < (len : Int) := by omega
    go_enter Tryz.func5, Tryz.ntmps5
    go_wp2
    go_ret
    exact ⟨rfl, Below.refl _ _⟩
  have hlz : (len : Int) ≤ 1048576 := by omega
  by_cases hl2 : 1048576 < len2
  · have hlz2 : (1048576 : Int) < (len2 : Int) := by omega
    go_enter Tryz.func5, Tryz.ntmps5
    go_wp2
    go_ret
    exact ⟨rfl, Below.refl _ _⟩
  have hlz2 : (len2 : Int) ≤ 1048576 := by omega
  go_enter Tryz.func5, Tryz.ntmps5
  go_wp2_with fail
  refine (drawHeapStep_any _ a len cap HB.out).mono ?_
  rintro e w1 ⟨v, vc, vs, ms, H, rfl, hD, hB1⟩
  obtain ⟨hM1, hH1⟩ := hD.st.here
  have l30 := hD.fine.l30
  have sd100 := hD.fine.sd
  have HPO : Hid (progOk ms = true) := hD.ok
  clear hD
  obtain ⟨aV, cV, hvV, _⟩ := id hM1
  obtain ⟨ac, kc, hvc⟩ := hH1.c.shape
  obtain ⟨aD, kD, hvs⟩ := hH1.s.shape
  subst hvV hvc hvs
  have z1 := hB1.size
  clear HB
  unfold hpCells
  go_upto_region 4 with fail
  have N2 : Below w1.heap.size w1 ((w1.alloc (.cells #[.slice aV ms.length cV] 25)).alloc (.cells #[.slice ac H.calls.length kc, .int .i64 H.now, .int .i64 H.born, .slice aD H.said.length kD, .int .i64 H.code] 29)) := ((Below.refl _ _).alloc (Nat.le_refl _) _).alloc (by simp) _
  have rp := (pbox_new w1 (.slice aV ms.length cV)).alloc (.cells #[.slice ac H.calls.length kc, .int .i64 H.now, .int .i64 H.born, .slice aD H.said.length kD, .int .i64 H.code] 29)
  have rh := five_new (w1.alloc (.cells #[.slice aV ms.length cV] 25)) 29 (.slice ac H.calls.length kc) (.int .i64 H.now) (.int .i64 H.born) (.slice aD H.said.length kD) (.int .i64 H.code)
  simp only [World.size_alloc] at rh
  generalize (w1.alloc (.cells #[.slice aV ms.length cV] 25)).alloc (.cells #[.slice ac H.calls.length kc, .int .i64 H.now, .int .i64 H.born, .slice aD H.said.length kD, .int .i64 H.code] 29) = W2 at *
  have hB2 := hB1.trans (N2.mono z1)
  have z2 := hB2.size
  have HMH : Hid (MethsAt W2 (.slice aV ms.length cV) ms ∧ HeapAt W2 (.slice ac H.calls.length kc) (.slice aD H.said.length kD) H ∧ TabAt W2) := ⟨hM1.below N2, hH1.below N2, HT.out.below hB2⟩
  clear hM1 hH1 hB1 N2 HT
  obtain ⟨⟨d0, d1, d2, d3, d4⟩, _⟩ := five_cells rh
  have dp := rp.cell (i := 0) (by decide)
  have hl1000 : H.calls.length ≤ 1000 := by omega
  go_upto_region 5 with fail
  obtain ⟨K, hK⟩ : ∃ K : Nat, (len2 : Int) % 4 = (K : Int) := ⟨((len2 : Int) % 4).toNat, (Int.toNat_of_nonneg (Int.emod_nonneg _ (by omega))).symm⟩
  have hK4 : K < 4 := by omega
  rw [hK]
  clear hK
  refine wp_region_fs [[], [], [], [2], [], [4], [4, 5], [4, 5, 6], [0, 1, 2, 3, 4, 5, 6, 7], [0, 1, 2, 3, 4, 5, 6, 7, 8], [0, 1, 2, 3, 4, 5, 6, 7, 8, 9], [0, 1, 2, 3, 4, 5, 6, 7, 8, 9], [0, 1, 2, 3, 4, 5, 6, 7, 8, 9], [], [], [0, 1, 2, 3, 4, 5, 6, 7, 8, 9, 10, 13, 14], [0, 1, 2, 3, 4, 5, 6, 7, 8, 9, 10, 11, 13, 14, 15], [0, 1, 2, 3, 4, 5, 6, 7, 8, 9, 10, 11, 12, 13, 14, 15, 16]] [[0], [1], [2], [3], [4], [5], [6], [7], [8], [9, 8], [10, 9], [11, 9], [12, 9], [13], [14], [13, 10], [14, 11], [17, 12]] [[], [], [], [], [], [], [], [], [], [], [], [], [], [], [], [13], [14], []] [fIs (.agg #[.slice aV ms.length cV]), fIs (.agg #[.slice ac H.calls.length kc, .int .i64 H.now, .int .i64 H.born, .slice aD H.said.length kD, .int .i64 H.code]), fIs (.int .i64 (K : Int)), fIs (.agg #[.int .i64 9, .int .i64 (K : Int)]), fIs (.agg #[.int .i64 1, .int .i64 7]), fIs (.agg #[.int .i64 1, .int .i64 8]), fIs (.agg #[.int .i64 1, .int .i64 9]), fGh 7 (fun (x : Value) l => l = [x]) (fun x w1 => OpsAt w1 x [(1, 7), (1, 8), (1, 9)]), fWith 8 ms H 9 ((K : Int)) [(1, 7), (1, 8), (1, 9)] (.slice aD H.said.length kD), fOf fun l => l.getD 0 undef = l.getD 1 undef, fOf fun l => l.getD 0 undef = tget (l.getD 1 undef) 0, fOf fun l => l.getD 0 undef = tget (l.getD 1 undef) 1, fOf fun l => l.getD 0 undef = tget (l.getD 1 undef) 2, fBox 13 25 1, fBox 14 29 5, fRow 13 25 1 fun b f l => l.getD 0 undef = .pointer (some ⟨b, 0, none⟩) ∧ f = fun q => (l.getD 1 undef).cells.toList.getD q undef, fRow 14 29 5 fun b f l => l.getD 0 undef = .pointer (some ⟨b, 0, none⟩) ∧ f = fun q => (l.getD 1 undef).cells.toList.getD q undef, fOf fun l => l.getD 0 undef = l.getD 1 undef] 18 rfl (by kernel_rfl) (by kernel_rfl) ?_ ?_
  · refine all_lt_succ (all_lt_succ (all_lt_succ (all_lt_succ (all_lt_succ (all_lt_succ (all_lt_succ (all_lt_succ (all_lt_succ (all_lt_succ (all_lt_succ (all_lt_succ (all_lt_succ (all_lt_succ (all_lt_succ (all_lt_succ (all_lt_succ (all_lt_succ (all_lt_zero) ?_) ?_) ?_) ?_) ?_) ?_) ?_) ?_) ?_) ?_) ?_) ?_) ?_) ?_) ?_) ?_) ?_) ?_
    · intro a w val own hB hf hown hk
      have s5 := hf.at (d := 5) (v := .pointer (some ⟨w1.heap.size, 0, none⟩)) (by kernel_rfl) rfl
      have c0 := cell_below hB dp
      exact rf_pure (v := .agg #[.slice aV ms.length cV]) hB rfl rfl (by unfold execOp; go_simp) rfl
    · intro a w val own hB hf hown hk
      have s6 := hf.at (d := 6) (v := .pointer (some ⟨w1.heap.size + 1, 0, none⟩)) (by kernel_rfl) rfl
      obtain ⟨c0, c1, c2, c3, c4⟩ : _ ∧ _ ∧ _ ∧ _ ∧ _ := ⟨cell_below hB d0, cell_below hB d1, cell_below hB d2, cell_below hB d3, cell_below hB d4⟩
      exact rf_pure (v := .agg #[.slice ac H.calls.length kc, .int .i64 H.now, .int .i64 H.born, .slice aD H.said.length kD, .int .i64 H.code]) hB rfl rfl (by unfold execOp; go_simp) rfl
    · intro a w val own hB hf hown hk
      have s7 := hf.at (d := 7) (v := .int .i64 (K : Int)) (by kernel_rfl) rfl
      exact rf_pure (v := .int .i64 (K : Int)) hB rfl rfl (by unfold execOp; go_simp) rfl
    · intro a w val own hB hf hown hk
      obtain ⟨k2, f2⟩ := hk 2 (show 2 ∈ [2] by decide)
      have s36 := k2 36 rfl
      rw [fIs_out f2] at s36
      clear k2 f2
      exact rf_pure (v := .agg #[.int .i64 9, .int .i64 (K : Int)]) hB rfl rfl (by unfold execOp; go_simp) rfl
    · intro a w val own hB hf hown hk
      exact rf_call hB rfl rfl (by unfold execOp; go_simp) ((lmNum_any 7 w).mono fun e w' ⟨he, hb⟩ => ⟨_, he, hb, rfl⟩)
    · intro a w val own hB hf hown hk
      exact rf_call hB rfl rfl (by unfold execOp; go_simp) ((lmNum_any 8 w).mono fun e w' ⟨he, hb⟩ => ⟨_, he, hb, rfl⟩)
    · intro a w val own hB hf hown hk
      exact rf_call hB rfl rfl (by unfold execOp; go_simp) ((lmNum_any 9 w).mono fun e w' ⟨he, hb⟩ => ⟨_, he, hb, rfl⟩)
    · intro a w val own hB hf hown hk
      obtain ⟨k4, f4⟩ := hk 4 (show 4 ∈ [4, 5, 6] by decide)
      have s38 := k4 38 rfl
      rw [fIs_out f4] at s38
      clear k4 f4
      obtain ⟨k5, f5⟩ := hk 5 (show 5 ∈ [4, 5, 6] by decide)
      have s39 := k5 39 rfl
      rw [fIs_out f5] at s39
      clear k5 f5
      obtain ⟨k6, f6⟩ := hk 6 (show 6 ∈ [4, 5, 6] by decide)
      have s40 := k6 40 rfl
      rw [fIs_out f6] at s40
      clear k6 f6
      exact rf_new (v := .slice (some ⟨w.heap.size, 0, none⟩) 3 3) (w' := w.alloc (.cells #[.int .i64 1, .int .i64 7, .int .i64 1, .int .i64 8, .int .i64 1, .int .i64 9] 51)) hB rfl rfl (by unfold execOp; go_simp) ((Below.refl _ _).alloc (Nat.le_refl _) _) ⟨_, rfl, Made.new fun w1 _ _ hr => (three_vals w 1 7 1 8 1 9 51 3).of_block (hr _ (Nat.le_refl _) (by simp))⟩
    · intro a w val own hB hf hown hk
      obtain ⟨k0, f0⟩ := hk 0 (show 0 ∈ [0, 1, 2, 3, 4, 5, 6, 7] by decide)
      have s34 := k0 34 rfl
      rw [fIs_out f0] at s34
      clear k0 f0
      obtain ⟨k1, f1⟩ := hk 1 (show 1 ∈ [0, 1, 2, 3, 4, 5, 6, 7] by decide)
      have s35 := k1 35 rfl
      rw [fIs_out f1] at s35
      clear k1 f1
      obtain ⟨k3, f3⟩ := hk 3 (show 3 ∈ [0, 1, 2, 3, 4, 5, 6, 7] by decide)
      have s37 := k3 37 rfl
      rw [fIs_out f3] at s37
      clear k3 f3
      obtain ⟨k7, x7, e7, m7⟩ := hk 7 (show 7 ∈ [0, 1, 2, 3, 4, 5, 6, 7] by decide)
      have v7 := one_eq e7
      have s41 := k7 41 rfl
      rw [v7] at s41
      clear k7 e7
      exact rf_call hB rfl rfl (by unfold execOp hpCells; go_simp) (with_call (x := (K : Int)) (vc := .slice ac H.calls.length kc) HMH.out.1 HMH.out.2.1 hB (m7.here hB) hl1000 HPO.out (by simp))
    · intro a w val own hB hf hown hk
      have s42 := (hk 8 (show 8 ∈ [0, 1, 2, 3, 4, 5, 6, 7, 8] by decide)).1 42 rfl
      exact rf_pure (v := val 8) hB rfl rfl (by unfold execOp; go_simp) rfl
    · intro a w val own hB hf hown hk
      obtain ⟨k8, ⟨aq, cq, ag, kg, qs, g, ok⟩, ⟨e8, hX⟩, mX⟩ := hk 8 (show 8 ∈ [0, 1, 2, 3, 4, 5, 6, 7, 8, 9] by decide)
      have v8 := one_eq e8
      have s42 := k8 42 rfl
      unfold WG.val at v8
      dsimp only at v8 hX mX
      rw [v8] at s42
      clear k8 e8
      obtain ⟨k9, f9⟩ := hk 9 (show 9 ∈ [0, 1, 2, 3, 4, 5, 6, 7, 8, 9] by decide)
      have v9 : val 9 = _ := Eq.trans f9 v8
      have s33 := k9 33 rfl
      rw [v9] at s33
      clear k9 f9
      exact rf_pure (v := .agg #[.slice aq qs.length cq]) hB rfl rfl (by unfold execOp; go_simp) (by show _ = tget (val 9) 0; rw [v9]; rfl)
    · intro a w val own hB hf hown hk
      obtain ⟨k8, ⟨aq, cq, ag, kg, qs, g, ok⟩, ⟨e8, hX⟩, mX⟩ := hk 8 (show 8 ∈ [0, 1, 2, 3, 4, 5, 6, 7, 8, 9] by decide)
      have v8 := one_eq e8
      have s42 := k8 42 rfl
      unfold WG.val at v8
      dsimp only at v8 hX mX
      rw [v8] at s42
      clear k8 e8
      obtain ⟨k9, f9⟩ := hk 9 (show 9 ∈ [0, 1, 2, 3, 4, 5, 6, 7, 8, 9] by decide)
      have v9 : val 9 = _ := Eq.trans f9 v8
      have s33 := k9 33 rfl
      rw [v9] at s33
      clear k9 f9
      exact rf_pure (v := .agg #[.slice ag g.calls.length kg, .int .i64 g.now, .int .i64 g.born, .slice aD H.said.length kD, .int .i64 g.code]) hB rfl rfl (by unfold execOp; go_simp) (by show _ = tget (val 9) 1; rw [v9]; rfl)
    · intro a w val own hB hf hown hk
      obtain ⟨k8, ⟨aq, cq, ag, kg, qs, g, ok⟩, ⟨e8, hX⟩, mX⟩ := hk 8 (show 8 ∈ [0, 1, 2, 3, 4, 5, 6, 7, 8, 9] by decide)
      have v8 := one_eq e8
      have s42 := k8 42 rfl
      unfold WG.val at v8
      dsimp only at v8 hX mX
      rw [v8] at s42
      clear k8 e8
      obtain ⟨k9, f9⟩ := hk 9 (show 9 ∈ [0, 1, 2, 3, 4, 5, 6, 7, 8, 9] by decide)
      have v9 : val 9 = _ := Eq.trans f9 v8
      have s33 := k9 33 rfl
      rw [v9] at s33
      clear k9 f9
      exact rf_pure (v := .bool ok) hB rfl rfl (by unfold execOp; go_simp) (by show _ = tget (val 9) 2; rw [v9]; rfl)
    · intro a w val own hB hf hown hk
      exact rf_new (v := .pointer (some ⟨w.heap.size, 0, none⟩)) (w' := w.alloc (.cells #[.slice none 0 0] 25)) hB rfl rfl (by unfold execOp; go_simp) ((Below.refl _ _).alloc (Nat.le_refl _) _) (fBox_new hB #[.slice none 0 0])
    · intro a w val own hB hf hown hk
      exact rf_new (v := .pointer (some ⟨w.heap.size, 0, none⟩)) (w' := w.alloc (.cells #[.slice none 0 0, .int .i64 0, .int .i64 0, .slice none 0 0, .int .i64 0] 29)) hB rfl rfl (by unfold execOp; go_simp) ((Below.refl _ _).alloc (Nat.le_refl _) _) (fBox_new hB #[.slice none 0 0, .int .i64 0, .int .i64 0, .slice none 0 0, .int .i64 0])
    · intro a w val own hB hf hown hk
      obtain ⟨k13, bo13, g13, e13, ho13, hW13, r13⟩ := hk 13 (show 13 ∈ [0, 1, 2, 3, 4, 5, 6, 7, 8, 9, 10, 13, 14] by decide)
      have v13 := one_eq e13
      have s8 := k13 8 rfl
      rw [v13] at s8
      clear k13 e13
      obtain ⟨k8, ⟨aq, cq, ag, kg, qs, g, ok⟩, ⟨e8, hX⟩, mX⟩ := hk 8 (show 8 ∈ [0, 1, 2, 3, 4, 5, 6, 7, 8, 9, 10, 13, 14] by decide)
      have v8 := one_eq e8
      have s42 := k8 42 rfl
      unfold WG.val at v8
      dsimp only at v8 hX mX
      rw [v8] at s42
      clear k8 e8
      obtain ⟨k9, f9⟩ := hk 9 (show 9 ∈ [0, 1, 2, 3, 4, 5, 6, 7, 8, 9, 10, 13, 14] by decide)
      have v9 : val 9 = _ := Eq.trans f9 v8
      have s33 := k9 33 rfl
      rw [v9] at s33
      clear k9 f9
      obtain ⟨k10, f10⟩ := hk 10 (show 10 ∈ [0, 1, 2, 3, 4, 5, 6, 7, 8, 9, 10, 13, 14] by decide)
      have v10 : val 10 = .agg #[.slice aq qs.length cq] := by have e : val 10 = tget (val 9) 0 := f10; rw [e, v9]; rfl
      have s43 := k10 43 rfl
      rw [v10] at s43
      clear k10 f10
      have c0 := r13.cell (i := 0) (by decide)
      have z0 := r13.frozen 0
      exact rf_set (w' := setAll w bo13 0 [.slice aq qs.length cq]) rfl rfl (by unfold execOp; simp only [setAll]; go_simp) (setAll_does (show own bo13 ∈ [13] by rw [ho13]; decide) hW13 _ 0 hB) (fRow_set [.slice aq qs.length cq] r13 ho13 hW13 rfl ⟨v13, by show _ = fun q => (val 10).cells.toList.getD q undef; rw [v10]; rfl⟩)
    · intro a w val own hB hf hown hk
      obtain ⟨k14, bo14, g14, e14, ho14, hW14, r14⟩ := hk 14 (show 14 ∈ [0, 1, 2, 3, 4, 5, 6, 7, 8, 9, 10, 11, 13, 14, 15] by decide)
      have v14 := one_eq e14
      have s9 := k14 9 rfl
      rw [v14] at s9
      clear k14 e14
      obtain ⟨k8, ⟨aq, cq, ag, kg, qs, g, ok⟩, ⟨e8, hX⟩, mX⟩ := hk 8 (show 8 ∈ [0, 1, 2, 3, 4, 5, 6, 7, 8, 9, 10, 11, 13, 14, 15] by decide)
      have v8 := one_eq e8
      have s42 := k8 42 rfl
      unfold WG.val at v8
      dsimp only at v8 hX mX
      rw [v8] at s42
      clear k8 e8
      obtain ⟨k9, f9⟩ := hk 9 (show 9 ∈ [0, 1, 2, 3, 4, 5, 6, 7, 8, 9, 10, 11, 13, 14, 15] by decide)
      have v9 : val 9 = _ := Eq.trans f9 v8
      have s33 := k9 33 rfl
      rw [v9] at s33
      clear k9 f9
      obtain ⟨k11, f11⟩ := hk 11 (show 11 ∈ [0, 1, 2, 3, 4, 5, 6, 7, 8, 9, 10, 11, 13, 14, 15] by decide)
      have v11 : val 11 = .agg #[.slice ag g.calls.length kg, .int .i64 g.now, .int .i64 g.born, .slice aD H.said.length kD, .int .i64 g.code] := by have e : val 11 = tget (val 9) 1 := f11; rw [e, v9]; rfl
      have s44 := k11 44 rfl
      rw [v11] at s44
      clear k11 f11
      have c0 := r14.cell (i := 0) (by decide)
      have c1 := r14.cell (i := 1) (by decide)
      have c2 := r14.cell (i := 2) (by decide)
      have c3 := r14.cell (i := 3) (by decide)
      have c4 := r14.cell (i := 4) (by decide)
      have z0 := r14.frozen 0
      have z1 := r14.frozen 1
      have z2 := r14.frozen 2
      have z3 := r14.frozen 3
      have z4 := r14.frozen 4
      exact rf_set (w' := setAll w bo14 0 [.slice ag g.calls.length kg, .int .i64 g.now, .int .i64 g.born, .slice aD H.said.length kD, .int .i64 g.code]) rfl rfl (by unfold execOp; simp only [setAll]; go_simp) (setAll_does (show own bo14 ∈ [14] by rw [ho14]; decide) hW14 _ 0 hB) (fRow_set [.slice ag g.calls.length kg, .int .i64 g.now, .int .i64 g.born, .slice aD H.said.length kD, .int .i64 g.code] r14 ho14 hW14 rfl ⟨v14, by show _ = fun q => (val 11).cells.toList.getD q undef; rw [v11]; rfl⟩)
    · intro a w val own hB hf hown hk
      have s45 := (hk 12 (show 12 ∈ [0, 1, 2, 3, 4, 5, 6, 7, 8, 9, 10, 11, 12, 13, 14, 15, 16] by decide)).1 45 rfl
      exact rf_pure (v := val 12) hB rfl rfl (by unfold execOp; go_simp) rfl
  intro a w3 val own hB hf hown hk
  obtain ⟨k13, bo13, g13, e13, ho13, hW13, r13⟩ := hk 13 (by decide)
  have v13 := one_eq e13
  have s8 := k13 8 rfl
  rw [v13] at s8
  clear k13 e13
  obtain ⟨k8, ⟨aq, cq, ag, kg, qs, g, ok⟩, ⟨e8, hX⟩, mX⟩ := hk 8 (by decide)
  have v8 := one_eq e8
  have s42 := k8 42 rfl
  unfold WG.val at v8
  dsimp only at v8 hX mX
  rw [v8] at s42
  clear k8 e8
  obtain ⟨k9, f9⟩ := hk 9 (by decide)
  have v9 : val 9 = _ := Eq.trans f9 v8
  have s33 := k9 33 rfl
  rw [v9] at s33
  clear k9 f9
  obtain ⟨k10, f10⟩ := hk 10 (by decide)
  have v10 : val 10 = .agg #[.slice aq qs.length cq] := by have e : val 10 = tget (val 9) 0 := f10; rw [e, v9]; rfl
  have s43 := k10 43 rfl
  rw [v10] at s43
  clear k10 f10
  obtain ⟨_, bo15, g15, ⟨e15, hg15⟩, _, _, r15⟩ := hk 15 (by decide)
  have q15 : bo15 = bo13 := by have e : val 13 = _ := e15; rw [v13] at e; injection e with e; injection e with e; injection e with e; exact e.symm
  subst q15
  have hg15 : g15 = fun q => (val 10).cells.toList.getD q undef := hg15
  rw [v10] at hg15
  subst hg15
  have r15 : w3.rowIs bo15 _ _ (fun q => [.slice aq qs.length cq].getD q undef) := r15
  clear e15
  obtain ⟨k14, bo14, g14, e14, ho14, hW14, r14⟩ := hk 14 (by decide)
  have v14 := one_eq e14
  have s9 := k14 9 rfl
  rw [v14] at s9
  clear k14 e14
  obtain ⟨k11, f11⟩ := hk 11 (by decide)
  have v11 : val 11 = .agg #[.slice ag g.calls.length kg, .int .i64 g.now, .int .i64 g.born, .slice aD H.said.length kD, .int .i64 g.code] := by have e : val 11 = tget (val 9) 1 := f11; rw [e, v9]; rfl
  have s44 := k11 44 rfl
  rw [v11] at s44
  clear k11 f11
  obtain ⟨_, bo16, g16, ⟨e16, hg16⟩, _, _, r16⟩ := hk 16 (by decide)
  have q16 : bo16 = bo14 := by have e : val 14 = _ := e16; rw [v14] at e; injection e with e; injection e with e; injection e with e; exact e.symm
  subst q16
  have hg16 : g16 = fun q => (val 11).cells.toList.getD q undef := hg16
  rw [v11] at hg16
  subst hg16
  have r16 : w3.rowIs bo16 _ _ (fun q => [.slice ag g.calls.length kg, .int .i64 g.now, .int .i64 g.born, .slice aD H.said.length kD, .int .i64 g.code].getD q undef) := r16
  clear e16
  obtain ⟨k12, f12⟩ := hk 12 (by decide)
  have v12 : val 12 = .bool ok := by have e : val 12 = tget (val 9) 2 := f12; rw [e, v9]; rfl
  have s45 := k12 45 rfl
  rw [v12] at s45
  clear k12 f12
  obtain ⟨k17, f17⟩ := hk 17 (by decide)
  have v17 : val 17 = _ := Eq.trans f17 v12
  have s10 := k17 10 rfl
  rw [v17] at s10
  clear k17 f17
  have s5 := hf.at (d := 5) (v := .pointer (some ⟨w1.heap.size, 0, none⟩)) (by kernel_rfl) rfl
  have s6 := hf.at (d := 6) (v := .pointer (some ⟨w1.heap.size + 1, 0, none⟩)) (by kernel_rfl) rfl
  have s7 := hf.at (d := 7) (v := .int .i64 (K : Int)) (by kernel_rfl) rfl
  obtain ⟨u, hu0, hv⟩ := frame_any a.tmps (n := 129) hf.size
  have hu : a.tmps = (u 0 :: u 1 :: u 2 :: u 3 :: u 4 :: u 5 :: u 6 :: u 7 :: u 8 :: u 9 :: u 10 :: u 11 :: u 12 :: u 13 :: u 14 :: u 15 :: u 16 :: u 17 :: u 18 :: u 19 :: u 20 :: u 21 :: u 22 :: u 23 :: u 24 :: u 25 :: u 26 :: u 27 :: u 28 :: u 29 :: u 30 :: u 31 :: u 32 :: u 33 :: u 34 :: u 35 :: u 36 :: u 37 :: u 38 :: u 39 :: u 40 :: u 41 :: u 42 :: u 43 :: u 44 :: u 45 :: u 46 :: u 47 :: u 48 :: u 49 :: u 50 :: u 51 :: u 52 :: u 53 :: u 54 :: u 55 :: u 56 :: u 57 :: u 58 :: u 59 :: u 60 :: u 61 :: u 62 :: u 63 :: u 64 :: u 65 :: u 66 :: u 67 :: u 68 :: u 69 :: u 70 :: u 71 :: u 72 :: u 73 :: u 74 :: u 75 :: u 76 :: u 77 :: u 78 :: u 79 :: u 80 :: u 81 :: u 82 :: u 83 :: u 84 :: u 85 :: u 86 :: u 87 :: u 88 :: u 89 :: u 90 :: u 91 :: u 92 :: u 93 :: u 94 :: u 95 :: u 96 :: u 97 :: u 98 :: u 99 :: u 100 :: u 101 :: u 102 :: u 103 :: u 104 :: u 105 :: u 106 :: u 107 :: u 108 :: u 109 :: u 110 :: u 111 :: u 112 :: u 113 :: u 114 :: u 115 :: u 116 :: u 117 :: u 118 :: u 119 :: u 120 :: u 121 :: u 122 :: u 123 :: u 124 :: u 125 :: u 126 :: u 127 :: u 128 :: []).toArray := hu0
  rw [(hv 5).trans s5, (hv 6).trans s6, (hv 7).trans s7, (hv 8).trans s8, (hv 9).trans s9, (hv 10).trans s10] at hu
  obtain rfl := act_eq hu (show a.defers = [] from hf.defers)
  obtain ⟨hM3, hH3⟩ := mX.here hB
  have rq := row_one r15
  have rg := row_five r16
  have hB3 := hB
  clear hu hu0 hv hk hown hf mX hB s5 s6 s7 s8 s9 s10
  generalize bo15 = bq at *
  generalize bo16 = bg at *
  clear d0 d1 d2 d3 d4 dp rp rh
  have z3 := hB3.size
  have hlg : g.calls.length ≤ 1000 := by have := hX.l; omega
  have hsg : g.said.length ≤ 1048576 := by rw [hX.s]; omega
  have hT3 := HMH.out.2.2.below hB3
  have HI := implHeapStep_any _ _ _ qs g w3 hM3 hT3 hH3 hlg hsg
  have HMX : Hid (MethsAt w3 (.slice aq (List.length qs) cq) qs ∧ HeapAt w3 (.slice ag g.calls.length kg) (.slice aD H.said.length kD) g ∧ WithOk ms H 9 ((K : Int)) [(1, 7), (1, 8), (1, 9)] qs g ok) := ⟨hM3, hH3, hX⟩
  have HRE : Hid (ok = true → heapOk qs g = true ∧ hRun qs g 1 = (callH qs (afterH g ([((1 : Int), (7 : Int)), (1, 8), (1, 9)].take (3 - (qs.getD K (0, 0, [])).1).toNat)) (K : Int) ([((1 : Int), (7 : Int)), (1, 8), (1, 9)].drop (3 - (qs.getD K (0, 0, [])).1).toNat)) ∧ Good qs g ∧ ∃ j : Nat, g.now = (j : Int) ∧ ∃ hj : j < g.calls.length, 0 ≤ g.calls[j].pc ∧ g.calls[j].pc ≤ 1000) := fun e => by
    subst e
    obtain ⟨_, _, _, ho⟩ := hX.yes rfl
    have hA := with_at hX
    obtain ⟨hg, hc, hr, hs, j, m, pc, hj, hm, hpl, hn, hcur, hst, hme, hpc, hop⟩ := hA
    refine ⟨ho, ?_, hg, j, hn, hj, ?_⟩
    · have hKq : K < qs.length := by
        have ho := (prog_meth hg.head.p hm).ops _ (List.getElem_mem hpl)
        rw [hop] at ho
        dsimp only at ho
        unfold opOk at ho
        rw [if_neg (by decide), if_neg (by decide), if_neg (by decide), if_pos rfl, inR_true] at ho
        omega
      have hMP := (prog_meth hg.head.p hKq).args
      have e := with_step hX (t := qs[K].1) (l := 1) (takesOf_call hKq) (by simp; omega) (by simp [kindsOk])
      rw [e, show qs.getD K (0, 0, []) = qs[K] by simp [hKq]]
      rfl
    · have := (hg.cl j hj).pc
      have hp := hg.head.p
      unfold progOk at hp
      simp only [Bool.and_eq_true] at hp
      have ha := List.all_eq_true.1 hp.2 _ (List.getElem_mem hm)
      unfold methOk at ha
      simp only [Bool.and_eq_true, decide_eq_true_eq] at ha
      have h14 := ha.1.2
      rw [hpc]
      omega
  clear hM3 hH3 hX hT3
  generalize hRun qs g 1 = R at *
  obtain ⟨fb, hfb⟩ : ∃ fb, heapOk qs g = fb := ⟨_, rfl⟩
  rw [hfb] at HI
  have HFB : Hid (heapOk qs g = fb) := hfb
  clear hfb
  unfold hpCells at HI
  obtain ⟨⟨d0, d1, d2, d3, d4⟩, _⟩ := five_cells rg
  have dp := rq.cell (i := 0) (by decide)
  go_wp2_with fail
  refine HI.mono ?_
  rintro e w5 ⟨⟨vc5, vs5, V5, rfl, hO5⟩, hb5⟩
  obtain ⟨a5, k5, hv5⟩ := hO5.at.c.shape
  obtain ⟨b5, l5, hs5⟩ := hO5.at.s.shape
  subst hv5 hs5
  have z5 := hb5.size
  have rq5 := row_below hb5 rq
  have rg5 := row_below hb5 rg
  clear HI d0 d1 d2 d3 d4 dp rq rg
  go_upto_region 7 with fail
  have N6 : Below w5.heap.size w5 (w5.alloc (.cells #[.slice a5 R.calls.length k5, .int .i64 R.now, .int .i64 R.born, .slice b5 R.said.length l5, .int .i64 R.code] 29)) := (Below.refl _ _).alloc (Nat.le_refl _) _
  have rx6 := five_new w5 29 (.slice a5 R.calls.length k5) (.int .i64 R.now) (.int .i64 R.born) (.slice b5 R.said.length l5) (.int .i64 R.code)
  have rq6 := row_below N6 rq5
  have rg6 := row_below N6 rg5
  have b6 := hb5.trans (N6.mono z5)
  have HX6 : Hid (HeapAt (w5.alloc (.cells #[.slice a5 R.calls.length k5, .int .i64 R.now, .int .i64 R.born, .slice b5 R.said.length l5, .int .i64 R.code] 29)) (.slice a5 R.calls.length k5) (.slice b5 R.said.length l5) R) := hO5.at.below N6
  have HXO : Hid (OwnHeap w3.heap.size (w5.alloc (.cells #[.slice a5 R.calls.length k5, .int .i64 R.now, .int .i64 R.born, .slice b5 R.said.length l5, .int .i64 R.code] 29)) (.slice a5 R.calls.length k5) (.slice b5 R.said.length l5) R V5) := hO5.below N6
  clear hO5 rq5 rg5 N6
  generalize w5.alloc (.cells #[.slice a5 R.calls.length k5, .int .i64 R.now, .int .i64 R.born, .slice b5 R.said.length l5, .int .i64 R.code] 29) = W6 at *
  generalize w5.heap.size = bx at *
  have HM6 : Hid (MethsAt W6 (.slice aq (List.length qs) cq) qs ∧ HeapAt W6 (.slice ag g.calls.length kg) (.slice aD H.said.length kD) g) := ⟨HMX.out.1.below b6, HMX.out.2.1.below b6⟩
  have hB6 := (hB2.trans (hB3.mono z2)).trans (b6.mono (by have := hB2.size; omega))
  have z6 := hB6.size
  cases ok
  · have HOK := specHeapOk_any _ _ _ qs g W6 HM6.out.1 HM6.out.2 (by omega)
    rw [HFB.out] at HOK
    unfold hpCells at HOK
    obtain ⟨⟨d0, d1, d2, d3, d4⟩, _⟩ := five_cells rg6
    have dp := rq6.cell (i := 0) (by decide)
    go_wp2_with fail
    refine HOK.mono ?_
    rintro e w7 ⟨rfl, hb7⟩
    go_wp2
    go_ret
    exact ⟨ret_bool (by cases fb <;> rfl), hB6.trans (hb7.mono z6)⟩
  obtain ⟨hfb, hRE, hgd, j, hnj, hj, hpcj⟩ := HRE.out rfl
  have hfb2 : fb = true := by rw [← HFB.out]; exact hfb
  subst hfb2
  have HRA : Hid (R = (callH qs (afterH g ([((1 : Int), (7 : Int)), (1, 8), (1, 9)].take (3 - (qs.getD K (0, 0, [])).1).toNat)) (K : Int) ([((1 : Int), (7 : Int)), (1, 8), (1, 9)].drop (3 - (qs.getD K (0, 0, [])).1).toNat))) := hRE
  have HGN : Hid (Good qs g ∧ g.now = (j : Int) ∧ j < g.calls.length) := ⟨hgd, hnj, hj⟩
  clear hRE HRE hfb hnj hgd
  have hKq : K < qs.length := by
    obtain ⟨hg, hc, hr, hs, j', m, pc, hj', hm, hpl, hn', hcur, hst, hme, hpc', hop⟩ := with_at HMX.out.2.2
    have ho := (prog_meth hg.head.p hm).ops _ (List.getElem_mem hpl)
    rw [hop] at ho
    dsimp only at ho
    unfold opOk at ho
    rw [if_neg (by decide), if_neg (by decide), if_neg (by decide), if_pos rfl, inR_true] at ho
    omega
  have hMP := prog_meth HGN.out.1.head.p hKq
  obtain ⟨n, hn2, hnE⟩ : ∃ n : Nat, n ≤ 2 ∧ qs[K].1 = (n : Int) := ⟨qs[K].1.toNat, by have := hMP.args; omega, by have := hMP.args; omega⟩
  obtain ⟨T, hT4, hTE⟩ : ∃ T : Nat, T ≤ 4 ∧ qs[K].2.1 = (T : Int) := ⟨qs[K].2.1.toNat, by have := hMP.temps; have := hMP.args; omega, by have := hMP.temps; have := hMP.args; omega⟩
  have hnT : n ≤ T := by have := hMP.temps; omega
  obtain ⟨L, hL⟩ : ∃ L : Nat, L = 3 - n := ⟨_, rfl⟩
  have HRC : Hid (R = callH qs (afterH g ([((1 : Int), (7 : Int)), (1, 8), (1, 9)].take L)) (K : Int) ([((1 : Int), (7 : Int)), (1, 8), (1, 9)].drop L)) := by
    show R = _
    rw [HRA.out, show qs.getD K (0, 0, []) = qs[K] by simp [hKq], hnE, show ((3 : Int) - (n : Int)).toNat = L by omega]
  have HKE : Hid (qs[K].2.1 = (T : Int)) := hTE
  have HWL : Hid (IntKind.i64.wrap (3 - (n : Int)) = (L : Int)) := by show _ = _; rw [IntKind.wrap_i64]; omega
  obtain ⟨am, cm, hvm, _, hmm⟩ := id HM6.out.1
  injection hvm with hvm1 _ hvm2
  obtain ⟨bm2, om2, vo, ham, k0, k1, k2, hops⟩ := hmm K hKq
  rw [ham] at hvm1
  subst hvm1 hvm2
  obtain ⟨ao, co, hvo⟩ := hops.shape
  subst hvo
  rw [hnE] at k0
  rw [hTE] at k1
  have hKz : (K : Int) < (qs.length : Int) := by omega
  have dq := rq6.cell (i := 0) (by decide)
  obtain ⟨lo, hlo⟩ : ∃ lo, qs[K].2.2.length = lo := ⟨_, rfl⟩
  rw [hlo] at k2
  clear hlo hops hmm hMP hnE hTE
  go_upto_region 10 with fail
  have N7 : Below W6.heap.size W6 (W6.alloc (.cells #[.int .i64 (n : Int), .int .i64 (T : Int), .slice ao lo co] 35)) := (Below.refl _ _).alloc (Nat.le_refl _) _
  have rm7 := box_new W6 (n : Int) (T : Int) (.slice ao lo co)
  clear k0 k1 k2 dq
  generalize W6.alloc (.cells #[.int .i64 (n : Int), .int .i64 (T : Int), .slice ao lo co] 35) = W7 at *
  obtain ⟨bm, hbm⟩ : ∃ bm, W6.heap.size = bm := ⟨_, rfl⟩
  rw [hbm] at rm7
  rw [hbm]
  go_upto_region 11 with (first
    | (have hh := hbB; clear hh; go_at_call 24; refine (lmNum_any 9 _).mono ?_; rintro e wC ⟨rfl, hbC⟩)
    | (have hh := hbA; clear hh; go_at_call 24; refine (lmNum_any 8 _).mono ?_; rintro e wB ⟨rfl, hbB⟩)
    | (go_at_call 24; refine (lmNum_any 7 _).mono ?_; rintro e wA ⟨rfl, hbA⟩))
  have c7 := N7.trans (hbA.mono N7.size)
  have c8 := c7.trans (hbB.mono c7.size)
  have c9 := c8.trans (hbC.mono c8.size)
  have N10 : Below wC.heap.size wC (wC.alloc (.cells #[.int .i64 1, .int .i64 7, .int .i64 1, .int .i64 8, .int .i64 1, .int .i64 9] 51)) := (Below.refl _ _).alloc (Nat.le_refl _) _
  have b10 := c9.trans (N10.mono c9.size)
  have rm10 := row_below N10 (row_below hbC (row_below hbB (row_below hbA rm7)))
  have hP10 := three_row wC 1 7 1 8 1 9 51
  have rx10 := row_below b10 rx6
  have rg10 := row_below b10 rg6
  have HX10 : Hid (HeapAt (wC.alloc (.cells #[.int .i64 1, .int .i64 7, .int .i64 1, .int .i64 8, .int .i64 1, .int .i64 9] 51)) (.slice a5 R.calls.length k5) (.slice b5 R.said.length l5) R) := HX6.out.below b10
  have HM10 : Hid (MethsAt (wC.alloc (.cells #[.int .i64 1, .int .i64 7, .int .i64 1, .int .i64 8, .int .i64 1, .int .i64 9] 51)) (.slice (some ⟨bm2, om2, none⟩) (List.length qs) cq) qs ∧ HeapAt (wC.alloc (.cells #[.int .i64 1, .int .i64 7, .int .i64 1, .int .i64 8, .int .i64 1, .int .i64 9] 51)) (.slice ag g.calls.length kg) (.slice aD H.said.length kD) g) := ⟨HM6.out.1.below b10, HM6.out.2.below b10⟩
  have hB10 := hB6.trans (b10.mono z6)
  have hbm10 : bm < wC.heap.size := by have := c9.size; have := N7.size; have := (row_below hbC (row_below hbB (row_below hbA rm7))).lt; omega
  clear N7 rm7 hbA hbB hbC c7 c8 c9 N10 rx6 rg6 rq6 HX6 HM6 HXO hbm
  generalize (wC.alloc (.cells #[.int .i64 1, .int .i64 7, .int .i64 1, .int .i64 8, .int .i64 1, .int .i64 9] 51)) = W10 at *
  obtain ⟨ba, hba⟩ : ∃ ba, wC.heap.size = ba := ⟨_, rfl⟩
  rw [hba] at hP10 hbm10
  rw [hba]
  clear hba
  have z10 := hB10.size
  have hTO : ∀ W, (Instr.slice 27 (.slice (some ⟨ba, 0, none⟩) 3 3) none (some (.int .i64 (L : Int))) none).run Tryz.prog W = .ok (.slice (some ⟨ba, 0, none⟩) L 3) W := fun W => by rw [← sliced_zero (some ⟨ba, 0, none⟩) L 3]; exact val_to W (some ⟨ba, 0, none⟩) 3 3 L (by omega)
  have HTO : Hid (∀ W, (Instr.slice 27 (.slice (some ⟨ba, 0, none⟩) 3 3) none (some (.int .i64 (L : Int))) none).run Tryz.prog W = .ok (.slice (some ⟨ba, 0, none⟩) L 3) W) := hTO
  obtain ⟨VF, hVF⟩ : ∃ VF, sliced (some ⟨ba, 0, none⟩) L 3 3 2 = VF := ⟨_, rfl⟩
  have HFR : Hid (∀ W, (Instr.slice 27 (.slice (some ⟨ba, 0, none⟩) 3 3) (some (.int .i64 (L : Int))) none none).run Tryz.prog W = .ok VF W) := fun W => by rw [← hVF]; exact val_from W (some ⟨ba, 0, none⟩) 3 3 L (by omega)
  obtain ⟨LF, hLF⟩ : ∃ LF, [((1 : Int), (7 : Int)), (1, 8), (1, 9)].take L = LF := ⟨_, rfl⟩
  obtain ⟨AR, hAR⟩ : ∃ AR, [((1 : Int), (7 : Int)), (1, 8), (1, 9)].drop L = AR := ⟨_, rfl⟩
  have HLF : Hid (∀ W, Below W10.heap.size W10 W → OpsAt W (.slice (some ⟨ba, 0, none⟩) L 3) LF) := fun W hW => by
    have q := (PairRow.cutTo (hP10.below hW) (k := L) (by simp; omega)).at
    rw [hLF] at q
    exact q
  have HAR : Hid (∀ W, Below W10.heap.size W10 W → OpsAt W VF AR) := fun W hW => by
    have q := (PairRow.piece (hP10.below hW) (l := L) (k := 3) (by omega) (by simp)).1
    rw [hVF, show ([((1 : Int), (7 : Int)), (1, 8), (1, 9)].take 3).drop L = AR from hAR] at q
    exact q
  have hLL : LF.length ≤ 3 := by rw [← hLF]; simp; omega
  have hAL : AR.length = n := by rw [← hAR]; simp; omega
  rw [hLF, hAR] at HRC
  have HAL : Hid (AR.length = n) := hAL
  clear hTO hVF hLF hAR hP10 hAL hL
  obtain ⟨A, hA⟩ : ∃ A : Hp, A = afterH g LF := ⟨_, rfl⟩
  have HAA : Hid (A = afterH g LF) := hA
  have HAn : Hid (A.now = (j : Int) ∧ A.calls.length = g.calls.length ∧ A.born = g.born ∧ A.said = g.said ∧ A.code = g.code) := by obtain ⟨x1, x2, x3, x4, x5⟩ := afterH_fields g LF; rw [hA]; exact ⟨x1.trans HGN.out.2.1, x2, x3, x4, x5⟩
  clear hA
  have HAF : Hid (∀ (W : World) (vk : Value), Below W10.heap.size W10 W → OpsAt W vk LF → Calls Tryz.prog 26 #[.agg #[.slice ag g.calls.length kg, .int .i64 g.now, .int .i64 g.born, .slice aD H.said.length kD, .int .i64 g.code], vk] W fun e w' => (∃ vc' vs' V', e = .returned (.agg (hpCells vc' vs' A)) ∧ OwnHeap W.heap.size w' vc' vs' A V') ∧ Below W.heap.size W w') := fun W vk hW hk => by
    rw [HAA.out]
    have hl := HGN.out.1.lens
    exact lmAfter_any _ _ vk g _ j W (HM10.out.2.below hW) hk HGN.out.2.1 hj hpcj (by omega) (by omega) (fun i hi => by have := hl.2 i hi; omega) (by omega)
  go_wp2_with fail
  refine wp_region_fs [[], [], [], [2], [2, 3], [1, 2, 3, 4], [0, 1, 2, 3, 4, 5], [], [0, 1, 2, 3, 4, 5, 6, 7]] [[0], [1], [2], [3], [4], [5], [6], [7], [7, 6]] [[], [], [], [], [], [], [], [], [7]] [fIs (.agg #[.slice ag g.calls.length kg, .int .i64 g.now, .int .i64 g.born, .slice aD H.said.length kD, .int .i64 g.code]), fIs (.slice (some ⟨ba, 0, none⟩) 3 3), fIs (.pointer (some ⟨bm, 0, none⟩)), fIs (.int .i64 (n : Int)), fIs (.int .i64 (L : Int)), fIs (.slice (some ⟨ba, 0, none⟩) L 3), fAfter 6 A, fBox 7 29 5, fRow 7 29 5 fun b f l => l.getD 0 undef = .pointer (some ⟨b, 0, none⟩) ∧ f = fun q => (l.getD 1 undef).cells.toList.getD q undef] 9 rfl (by kernel_rfl) (by kernel_rfl) ?_ ?_
  · refine all_lt_succ (all_lt_succ (all_lt_succ (all_lt_succ (all_lt_succ (all_lt_succ (all_lt_succ (all_lt_succ (all_lt_succ (all_lt_zero) ?_) ?_) ?_) ?_) ?_) ?_) ?_) ?_) ?_
    · intro a w val own hB hf hown hk
      have s9 := hf.at (d := 9) (v := .pointer (some ⟨bg, 0, none⟩)) (by kernel_rfl) rfl
      obtain ⟨⟨c0, c1, c2, c3, c4⟩, _⟩ := five_cells (row_below hB rg10)
      exact rf_pure (v := .agg #[.slice ag g.calls.length kg, .int .i64 g.now, .int .i64 g.born, .slice aD H.said.length kD, .int .i64 g.code]) hB rfl rfl (by unfold execOp; go_simp) rfl
    · intro a w val own hB hf hown hk
      have s14 := hf.at (d := 14) (v := .slice (some ⟨ba, 0, none⟩) 3 3) (by kernel_rfl) rfl
      exact rf_pure (v := .slice (some ⟨ba, 0, none⟩) 3 3) hB rfl rfl (by unfold execOp; go_simp) rfl
    · intro a w val own hB hf hown hk
      have s13 := hf.at (d := 13) (v := .pointer (some ⟨bm, 0, none⟩)) (by kernel_rfl) rfl
      exact rf_pure (v := .pointer (some ⟨bm, 0, none⟩)) hB rfl rfl (by unfold execOp; go_simp) rfl
    · intro a w val own hB hf hown hk
      obtain ⟨k2, f2⟩ := hk 2 (show 2 ∈ [2] by decide)
      have s70 := k2 70 rfl
      rw [fIs_out f2] at s70
      clear k2 f2
      have rmw := row_below hB rm10
      have cm0 := rmw.cell (i := 0) (by decide)
      simp only [boxF] at cm0
      exact rf_pure (v := .int .i64 (n : Int)) hB rfl rfl (by unfold execOp; go_simp) rfl
    · intro a w val own hB hf hown hk
      obtain ⟨k3, f3⟩ := hk 3 (show 3 ∈ [2, 3] by decide)
      have s71 := k3 71 rfl
      rw [fIs_out f3] at s71
      clear k3 f3
      have hw : IntKind.i64.wrap (3 - (n : Int)) = (L : Int) := HWL.out
      exact rf_pure (v := .int .i64 (L : Int)) hB rfl rfl (by unfold execOp; go_simp) rfl
    · intro a w val own hB hf hown hk
      obtain ⟨k1, f1⟩ := hk 1 (show 1 ∈ [1, 2, 3, 4] by decide)
      have s69 := k1 69 rfl
      rw [fIs_out f1] at s69
      clear k1 f1
      obtain ⟨k4, f4⟩ := hk 4 (show 4 ∈ [1, 2, 3, 4] by decide)
      have s72 := k4 72 rfl
      rw [fIs_out f4] at s72
      clear k4 f4
      have hto := HTO.out
      exact rf_pure (v := .slice (some ⟨ba, 0, none⟩) L 3) hB rfl rfl (by unfold execOp; go_simp) rfl
    · intro a w val own hB hf hown hk
      obtain ⟨k0, f0⟩ := hk 0 (show 0 ∈ [0, 1, 2, 3, 4, 5] by decide)
      have s68 := k0 68 rfl
      rw [fIs_out f0] at s68
      clear k0 f0
      obtain ⟨k5, f5⟩ := hk 5 (show 5 ∈ [0, 1, 2, 3, 4, 5] by decide)
      have s73 := k5 73 rfl
      rw [fIs_out f5] at s73
      clear k5 f5
      exact rf_call hB rfl rfl (by unfold execOp; go_simp) (after_call hB (HAF.out w (.slice (some ⟨ba, 0, none⟩) L 3) hB (HLF.out w hB)))
    · intro a w val own hB hf hown hk
      exact rf_new (v := .pointer (some ⟨w.heap.size, 0, none⟩)) (w' := w.alloc (.cells #[.slice none 0 0, .int .i64 0, .int .i64 0, .slice none 0 0, .int .i64 0] 29)) hB rfl rfl (by unfold execOp; go_simp) ((Below.refl _ _).alloc (Nat.le_refl _) _) (fBox_new hB #[.slice none 0 0, .int .i64 0, .int .i64 0, .slice none 0 0, .int .i64 0])
    · intro a w val own hB hf hown hk
      obtain ⟨k7, bo7, g7, e7, ho7, hW7, r7⟩ := hk 7 (show 7 ∈ [0, 1, 2, 3, 4, 5, 6, 7] by decide)
      have v7 := one_eq e7
      have s15 := k7 15 rfl
      rw [v7] at s15
      clear k7 e7
      obtain ⟨k6, ⟨aA, kA, bA, lA, VA⟩, e6, o6, m6⟩ := hk 6 (show 6 ∈ [0, 1, 2, 3, 4, 5, 6, 7] by decide)
      have v6 : val 6 = .agg #[.slice aA A.calls.length kA, .int .i64 A.now, .int .i64 A.born, .slice bA A.said.length lA, .int .i64 A.code] := one_eq e6
      have s74 := k6 74 rfl
      rw [v6] at s74
      dsimp only at m6 o6
      clear k6 e6
      have c0 := r7.cell (i := 0) (by decide)
      have c1 := r7.cell (i := 1) (by decide)
      have c2 := r7.cell (i := 2) (by decide)
      have c3 := r7.cell (i := 3) (by decide)
      have c4 := r7.cell (i := 4) (by decide)
      have z0 := r7.frozen 0
      have z1 := r7.frozen 1
      have z2 := r7.frozen 2
      have z3 := r7.frozen 3
      have z4 := r7.frozen 4
      exact rf_set (w' := setAll w bo7 0 [.slice aA A.calls.length kA, .int .i64 A.now, .int .i64 A.born, .slice bA A.said.length lA, .int .i64 A.code]) rfl rfl (by unfold execOp; simp only [setAll]; go_simp) (setAll_does (show own bo7 ∈ [7] by rw [ho7]; decide) hW7 _ 0 hB) (fRow_set [.slice aA A.calls.length kA, .int .i64 A.now, .int .i64 A.born, .slice bA A.said.length lA, .int .i64 A.code] r7 ho7 hW7 rfl ⟨v7, by show _ = fun q => (val 6).cells.toList.getD q undef; rw [v6]; rfl⟩)
  intro a w9 val own hB hf hown hk
  obtain ⟨k7, bo7, g7, e7, ho7, hW7, r7⟩ := hk 7 (by decide)
  have v7 := one_eq e7
  have s15 := k7 15 rfl
  rw [v7] at s15
  clear k7 e7
  obtain ⟨k6, ⟨aA, kA, bA, lA, VA⟩, e6, o6, m6⟩ := hk 6 (by decide)
  have v6 : val 6 = .agg #[.slice aA A.calls.length kA, .int .i64 A.now, .int .i64 A.born, .slice bA A.said.length lA, .int .i64 A.code] := one_eq e6
  have s74 := k6 74 rfl
  rw [v6] at s74
  dsimp only at m6 o6
  clear k6 e6
  obtain ⟨_, bo8, g8, ⟨e8, hg8⟩, _, _, r8⟩ := hk 8 (by decide)
  have q8 : bo8 = bo7 := by have e : val 7 = _ := e8; rw [v7] at e; injection e with e; injection e with e; injection e with e; exact e.symm
  subst q8
  have hg8 : g8 = fun q => (val 6).cells.toList.getD q undef := hg8
  rw [v6] at hg8
  subst hg8
  have r8 : w9.rowIs bo8 _ _ (fun q => [.slice aA A.calls.length kA, .int .i64 A.now, .int .i64 A.born, .slice bA A.said.length lA, .int .i64 A.code].getD q undef) := r8
  clear e8
  have s5 := hf.at (d := 5) (v := .pointer (some ⟨w1.heap.size, 0, none⟩)) (by kernel_rfl) rfl
  have s6 := hf.at (d := 6) (v := .pointer (some ⟨w1.heap.size + 1, 0, none⟩)) (by kernel_rfl) rfl
  have s7 := hf.at (d := 7) (v := .int .i64 (K : Int)) (by kernel_rfl) rfl
  have s8 := hf.at (d := 8) (v := .pointer (some ⟨bq, 0, none⟩)) (by kernel_rfl) rfl
  have s9 := hf.at (d := 9) (v := .pointer (some ⟨bg, 0, none⟩)) (by kernel_rfl) rfl
  have s11 := hf.at (d := 11) (v := .pointer (some ⟨bx, 0, none⟩)) (by kernel_rfl) rfl
  have s12 := hf.at (d := 12) (v := .bool true) (by kernel_rfl) rfl
  have s13 := hf.at (d := 13) (v := .pointer (some ⟨bm, 0, none⟩)) (by kernel_rfl) rfl
  have s14 := hf.at (d := 14) (v := .slice (some ⟨ba, 0, none⟩) 3 3) (by kernel_rfl) rfl
  obtain ⟨u, hu0, hv⟩ := frame_any a.tmps (n := 129) hf.size
  have hu : a.tmps = (u 0 :: u 1 :: u 2 :: u 3 :: u 4 :: u 5 :: u 6 :: u 7 :: u 8 :: u 9 :: u 10 :: u 11 :: u 12 :: u 13 :: u 14 :: u 15 :: u 16 :: u 17 :: u 18 :: u 19 :: u 20 :: u 21 :: u 22 :: u 23 :: u 24 :: u 25 :: u 26 :: u 27 :: u 28 :: u 29 :: u 30 :: u 31 :: u 32 :: u 33 :: u 34 :: u 35 :: u 36 :: u 37 :: u 38 :: u 39 :: u 40 :: u 41 :: u 42 :: u 43 :: u 44 :: u 45 :: u 46 :: u 47 :: u 48 :: u 49 :: u 50 :: u 51 :: u 52 :: u 53 :: u 54 :: u 55 :: u 56 :: u 57 :: u 58 :: u 59 :: u 60 :: u 61 :: u 62 :: u 63 :: u 64 :: u 65 :: u 66 :: u 67 :: u 68 :: u 69 :: u 70 :: u 71 :: u 72 :: u 73 :: u 74 :: u 75 :: u 76 :: u 77 :: u 78 :: u 79 :: u 80 :: u 81 :: u 82 :: u 83 :: u 84 :: u 85 :: u 86 :: u 87 :: u 88 :: u 89 :: u 90 :: u 91 :: u 92 :: u 93 :: u 94 :: u 95 :: u 96 :: u 97 :: u 98 :: u 99 :: u 100 :: u 101 :: u 102 :: u 103 :: u 104 :: u 105 :: u 106 :: u 107 :: u 108 :: u 109 :: u 110 :: u 111 :: u 112 :: u 113 :: u 114 :: u 115 :: u 116 :: u 117 :: u 118 :: u 119 :: u 120 :: u 121 :: u 122 :: u 123 :: u 124 :: u 125 :: u 126 :: u 127 :: u 128 :: []).toArray := hu0
  rw [(hv 5).trans s5, (hv 6).trans s6, (hv 7).trans s7, (hv 8).trans s8, (hv 9).trans s9, (hv 11).trans s11, (hv 12).trans s12, (hv 13).trans s13, (hv 14).trans s14, (hv 15).trans s15] at hu
  obtain rfl := act_eq hu (show a.defers = [] from hf.defers)
  have hOA := m6.here hB
  have rw9 := row_five r8
  have rx9 := row_below hB rx10
  have rg9 := row_below hB rg10
  have hwn : ¬ HeapBlocks (.slice aA A.calls.length kA) (.slice bA A.said.length lA) A.calls.length VA bo8 := fun e => by have e2 := (o6 _ e).1; rw [ho7] at e2; exact absurd e2 (by decide)
  have hw6 : W10.heap.size ≤ bo8 := hW7
  have HX9 : Hid (HeapAt w9 (.slice a5 R.calls.length k5) (.slice b5 R.said.length l5) R ∧ HeapAt w9 (.slice ag g.calls.length kg) (.slice aD H.said.length kD) g ∧ MethsAt w9 (.slice (some ⟨bm2, om2, none⟩) (List.length qs) cq) qs) := ⟨HX10.out.below hB, HM10.out.2.below hB, HM10.out.1.below hB⟩
  have hB9 := hB
  clear hu hu0 hv hk hown hf hB s5 s6 s7 s8 s9 s11 s12 s13 s14 s15 m6 o6 r8
  generalize bo8 = bw at *
  have rm9 := row_below hB9 rm10
  have hjA : j < A.calls.length := by rw [HAn.out.2.1]; exact hj
  obtain ⟨gA, oA, cA, hvA, hgA, hgA2⟩ := hOA.c.form (by omega)
  injection hvA with hvA1 _ hvA2
  subst hvA1 hvA2
  have hgw : gA ≠ bw := fun e => hwn (.inr (.inl (by rw [e]; rfl)))
  have hbx6 := rx10.lt
  have hbg6 := rg10.lt
  have hbm6 := rm10.lt
  obtain ⟨⟨d0, d1, d2, d3, d4⟩, _⟩ := five_cells rg9
  have HRD : Hid (R = callH qs A (K : Int) AR) := by show R = _; rw [HRC.out, ← HAA.out]
  have hAb := HAn.out.2.2.1
  by_cases hbn : g.born = 30
  case pos =>
    rw [hbn] at d2
    obtain ⟨⟨y0, y1, y2, y3, y4⟩, yf0, yf1, yf2, yf3, yf4⟩ := five_cells rw9
    go_upto_region 14 with fail
    have hbl : ∀ q, q ≠ bw → (w9.setCell ⟨bw, 4, none⟩ (.int .i64 3)).heap[q]? = w9.heap[q]? := fun q e => Below.heap_setCell _ _ _ _ e
    have rwE := five_set4 rw9 (.int .i64 3)
    have hOE := hOA.kept (w' := (w9.setCell ⟨bw, 4, none⟩ (.int .i64 3))) (by simp [World.setCell]) (fun q hq => hbl q (fun e => hwn (by rw [← e]; exact hq)))
    have rxE := rx9.of_block (hbl bx (by omega))
    have bE : Below W10.heap.size W10 (w9.setCell ⟨bw, 4, none⟩ (.int .i64 3)) := hB9.setCell (p := ⟨bw, 4, none⟩) hw6 _
    have HXE : Hid (HeapAt (w9.setCell ⟨bw, 4, none⟩ (.int .i64 3)) (.slice a5 R.calls.length k5) (.slice b5 R.said.length l5) R) := HX10.out.below bE
    have hRA : R = codeH A 3 := by
      rw [HRD.out]
      unfold callH
      rw [if_pos (by rw [hAb, hbn]; decide)]
    have HpE : Hid (HeapAt (w9.setCell ⟨bw, 4, none⟩ (.int .i64 3)) (.slice (some ⟨gA, oA, none⟩) R.calls.length kA) (.slice bA R.said.length lA) R) := by
      show HeapAt _ _ _ _
      rw [hRA]
      exact ⟨hOE.at.c, hOE.at.s⟩
    clear hbl rw9 rx9 hOE hOA y0 y1 y2 y3 y4 yf0 yf1 yf2 yf3 yf4 hbn d0 d1 d2 d3 d4
    generalize (w9.setCell ⟨bw, 4, none⟩ (.int .i64 3)) = WE at *
    have hRw : R.calls.length = A.calls.length ∧ R.now = A.now ∧ R.born = A.born ∧ R.said.length = A.said.length ∧ R.code = 3 := by rw [hRA]; exact ⟨rfl, rfl, rfl, rfl, rfl⟩
    obtain ⟨hR0, hR1, hR2, hR3, hR4⟩ := hRw
    clear hRA
    obtain ⟨⟨x0, x1, x2, x3, x4⟩, _⟩ := five_cells rxE
    obtain ⟨⟨y0, y1, y2, y3, y4⟩, _⟩ := five_cells rwE
    rw [← hR0] at y0
    rw [← hR1] at y1
    rw [← hR2] at y2
    rw [← hR3] at y3
    rw [← hR4] at y4
    have HLM := lmHeap_same R _ _ _ _ WE HXE.out HpE.out
    unfold hpCells at HLM
    clear hR0 hR1 hR2 hR3 hR4 rxE rwE
    go_wp2_with fail
    refine HLM.mono ?_
    rintro e wZ ⟨rfl, hbZ⟩
    go_wp2
    go_ret
    exact ⟨ret_bool (by first | rfl | simp), (hB10.trans (bE.mono z10)).trans (hbZ.mono (by have := bE.size; omega))⟩
  obtain ⟨gb, hgb⟩ : ∃ gb, g.born = gb := ⟨_, rfl⟩
  rw [hgb] at d2 hbn
  have hbz : ¬ gb = (30 : Int) := hbn
  have hb29 : gb < 30 := by have := HGN.out.1.head.born; omega
  rw [HGN.out.2.1] at d1
  have cm0 := rm9.cell (i := 0) (by decide)
  simp only [boxF] at cm0
  have hSS : ∀ W, Below w9.heap.size w9 W → W.cell? ⟨bg, 1, none⟩ = some (.int .i64 (j : Int)) ∧ W.cell? ⟨bm, 0, none⟩ = some (.int .i64 (n : Int)) ∧ Below w9.heap.size w9 W := fun W hW => ⟨cell_below hW d1, cell_below hW cm0, hW⟩
  have hFR := HFR.out
  have hwl := HWL.out
  have hdr : ∀ W : World, W.drew.heap.size = W.heap.size := fun _ => rfl
  have hn2' := HAL.out
  have b9d : Below w9.heap.size w9 w9.drew := (Below.refl _ _).drew
  have HBX1 : Hid (∀ (wA : World), ((w9.alloc (.cells #[] 51)).alloc (.cells #[.int .i64 0, .int .i64 0, .slice none 0 0, .slice none 0 0, .int .i64 0, .bool false] 56)).drew.grownBy wA (Value.slice (some ⟨w9.heap.size, 0, none⟩) 0 0).ownBlock → wA.rowIs (w9.heap.size + 1) 56 6 (six (.int .i64 0) (.int .i64 0) (.slice none 0 0) (.slice none 0 0) (.int .i64 0) (.bool false))) := fun wA hg => by
    have q := six_new (w9.alloc (.cells #[] 51)) 56 (.int .i64 0) (.int .i64 0) (.slice none 0 0) (.slice none 0 0) (.int .i64 0) (.bool false)
    simp only [World.size_alloc] at q
    exact row_kept (w := ((w9.alloc (.cells #[] 51)).alloc (.cells #[.int .i64 0, .int .i64 0, .slice none 0 0, .slice none 0 0, .int .i64 0, .bool false] 56)).drew) q hg (by simp [Value.ownBlock])
  have HBX2 : Hid (∀ (wA : World), ((w9.alloc (.cells #[.int .i64 0, .int .i64 0, .slice none 0 0, .slice none 0 0, .int .i64 0, .bool false] 56)).alloc (.cells #[] 51)).drew.grownBy wA (Value.slice (some ⟨w9.heap.size + 1, 0, none⟩) 0 0).ownBlock → wA.rowIs w9.heap.size 56 6 (six (.int .i64 0) (.int .i64 0) (.slice none 0 0) (.slice none 0 0) (.int .i64 0) (.bool false))) := fun wA hg => by
    have q := (six_new w9 56 (.int .i64 0) (.int .i64 0) (.slice none 0 0) (.slice none 0 0) (.int .i64 0) (.bool false)).alloc (.cells #[] 51)
    exact row_kept (w := ((w9.alloc (.cells #[.int .i64 0, .int .i64 0, .slice none 0 0, .slice none 0 0, .int .i64 0, .bool false] 56)).alloc (.cells #[] 51)).drew) q hg (by simp [Value.ownBlock])
  go_upto_region 15 with fail
  clear d0 d1 d2 d3 d4 cm0
  go_region_held3 (fun W => W.cell? ⟨bg, 1, none⟩ = some (.int .i64 (j : Int)) ∧ W.cell? ⟨bm, 0, none⟩ = some (.int .i64 (n : Int)) ∧ Below w9.heap.size w9 W)
    ((refine hSS _ ?_; first | (with_reducible exact b9d) | (with_reducible exact hBA) | (with_reducible exact ((((((hBA.setCell (p := ⟨_, 0, none⟩) hbxo _).setCell (p := ⟨_, 1, none⟩) hbxo _).setCell (p := ⟨_, 2, none⟩) hbxo _).setCell (p := ⟨_, 3, none⟩) hbxo _).setCell (p := ⟨_, 4, none⟩) hbxo _).setCell (p := ⟨_, 5, none⟩) hbxo _)) | (with_reducible exact hBA.alloc hBA.size _) | (with_reducible exact ((Below.refl _ _).alloc (Nat.le_refl _) _).drew) | (with_reducible exact (((Below.refl _ _).alloc (Nat.le_refl _) _).alloc (by simp) _).drew) | (with_reducible exact (‹_ ∧ _ ∧ Below w9.heap.size w9 _›).2.2) | (with_reducible exact (‹_ ∧ _ ∧ Below w9.heap.size w9 _›).2.2.drew) | (with_reducible exact hBA) | (with_reducible exact hBA.alloc hBA.size _) | (with_reducible exact (‹_ ∧ _ ∧ Below w9.heap.size w9 _›).2.2.alloc (‹_ ∧ _ ∧ Below w9.heap.size w9 _›).2.2.size _)))
    ((refine step_vals _ (by rfl) _ _ (by rfl) w9.heap.size _ _ [] AR (by rfl) (by rfl) (made_row (by first | omega | (simp only [hdr, World.size_alloc]; omega)) (by first | omega | (simp only [hdr, World.size_alloc]; omega))) (HAR.out _ (hB9.trans ((‹_ ∧ _ ∧ Below w9.heap.size w9 _›).2.2.mono hB9.size))) (by simp; omega) (‹_ ∧ _ ∧ Below w9.heap.size w9 _›).2.2.size ?_; intro vA wA hrowA hgrA hbA; rw [List.nil_append] at hrowA; obtain ⟨aT, cT, hvT, _⟩ := hrowA.slice; rw [HAL.out] at hvT; subst hvT; have hBA := Below.grown (‹_ ∧ _ ∧ Below w9.heap.size w9 _›).2.2 hgrA (‹_ ∧ _ ∧ Below w9.heap.size w9 _›).2.2.size (fun q e => by simp [Value.ownBlock] at e; omega); (first | (have rbox := HBX1.out _ hgrA; have hbxo : w9.heap.size ≤ w9.heap.size + 1 := Nat.le_succ _; obtain ⟨⟨z0, z1, z2, z3, z4, z5⟩, zf0, zf1, zf2, zf3, zf4, zf5⟩ := six_cells rbox) | (have rbox := HBX2.out _ hgrA; have hbxo : w9.heap.size ≤ w9.heap.size := Nat.le_refl _; obtain ⟨⟨z0, z1, z2, z3, z4, z5⟩, zf0, zf1, zf2, zf3, zf4, zf5⟩ := six_cells rbox) | skip)))
  all_goals (first | (have hh := rbox; clear hh; first | (have rcE := six_all (show wA.rowIs (w9.heap.size + 1) 56 6 (six (.int .i64 0) (.int .i64 0) (.slice none 0 0) (.slice none 0 0) (.int .i64 0) (.bool false)) from rbox) (.int .i64 (K : Int)) (.int .i64 0) (.slice aT n cT) (.slice none 0 0) (.int .i64 (j : Int)) (.bool false); have hne : (Value.slice aT n cT).ownBlock ≠ some (w9.heap.size + 1) := fun e => (by rcases hbA with x | x <;> rw [e] at x <;> simp [Value.ownBlock, hdr] at x <;> omega); have hPE := pair_all hrowA hne (.int .i64 (K : Int)) (.int .i64 0) (.slice aT n cT) (.slice none 0 0) (.int .i64 (j : Int)) (.bool false); have hBE := below_all hBA hbxo (.int .i64 (K : Int)) (.int .i64 0) (.slice aT n cT) (.slice none 0 0) (.int .i64 (j : Int)) (.bool false); have hbc0 := hbxo; clear rbox z0 z1 z2 z3 z4 z5 zf0 zf1 zf2 zf3 zf4 zf5 hrowA hgrA hbA hBA hbxo; generalize ((((((wA.setCell ⟨w9.heap.size + 1, 0, none⟩ (.int .i64 (K : Int))).setCell ⟨w9.heap.size + 1, 1, none⟩ (.int .i64 0)).setCell ⟨w9.heap.size + 1, 2, none⟩ (.slice aT n cT)).setCell ⟨w9.heap.size + 1, 3, none⟩ (.slice none 0 0)).setCell ⟨w9.heap.size + 1, 4, none⟩ (.int .i64 (j : Int))).setCell ⟨w9.heap.size + 1, 5, none⟩ (.bool false)) = WE at *; obtain ⟨bc, hbce⟩ : ∃ bc, w9.heap.size + 1 = bc := ⟨_, rfl⟩; have hbc : w9.heap.size ≤ bc := (by rw [← hbce]; exact hbc0); rw [hbce] at rcE hne ⊢; clear hbce hbc0) | (have rcE := six_all (show wA.rowIs (w9.heap.size) 56 6 (six (.int .i64 0) (.int .i64 0) (.slice none 0 0) (.slice none 0 0) (.int .i64 0) (.bool false)) from rbox) (.int .i64 (K : Int)) (.int .i64 0) (.slice aT n cT) (.slice none 0 0) (.int .i64 (j : Int)) (.bool false); have hne : (Value.slice aT n cT).ownBlock ≠ some (w9.heap.size) := fun e => (by rcases hbA with x | x <;> rw [e] at x <;> simp [Value.ownBlock, hdr] at x <;> omega); have hPE := pair_all hrowA hne (.int .i64 (K : Int)) (.int .i64 0) (.slice aT n cT) (.slice none 0 0) (.int .i64 (j : Int)) (.bool false); have hBE := below_all hBA hbxo (.int .i64 (K : Int)) (.int .i64 0) (.slice aT n cT) (.slice none 0 0) (.int .i64 (j : Int)) (.bool false); have hbc0 := hbxo; clear rbox z0 z1 z2 z3 z4 z5 zf0 zf1 zf2 zf3 zf4 zf5 hrowA hgrA hbA hBA hbxo; generalize ((((((wA.setCell ⟨w9.heap.size, 0, none⟩ (.int .i64 (K : Int))).setCell ⟨w9.heap.size, 1, none⟩ (.int .i64 0)).setCell ⟨w9.heap.size, 2, none⟩ (.slice aT n cT)).setCell ⟨w9.heap.size, 3, none⟩ (.slice none 0 0)).setCell ⟨w9.heap.size, 4, none⟩ (.int .i64 (j : Int))).setCell ⟨w9.heap.size, 5, none⟩ (.bool false)) = WE at *; obtain ⟨bc, hbce⟩ : ∃ bc, w9.heap.size = bc := ⟨_, rfl⟩; have hbc : w9.heap.size ≤ bc := (by rw [← hbce]; exact hbc0); rw [hbce] at rcE hne ⊢; clear hbce hbc0)) | (have rcE := six_new wA 56 (.int .i64 (K : Int)) (.int .i64 0) (.slice aT n cT) (.slice none 0 0) (.int .i64 (j : Int)) (.bool false); have hne : (Value.slice aT n cT).ownBlock ≠ some wA.heap.size := fun e => (by have := (hrowA.lt _ e).2; omega); have hPE := hrowA.below ((Below.refl _ _).alloc (Nat.le_refl _) (.cells #[.int .i64 (K : Int), .int .i64 0, .slice aT n cT, .slice none 0 0, .int .i64 (j : Int), .bool false] 56)); have hBE := hBA.alloc hBA.size (.cells #[.int .i64 (K : Int), .int .i64 0, .slice aT n cT, .slice none 0 0, .int .i64 (j : Int), .bool false] 56); have hbc0 := hBA.size; clear hrowA hgrA hbA hBA; generalize wA.alloc (.cells #[.int .i64 (K : Int), .int .i64 0, .slice aT n cT, .slice none 0 0, .int .i64 (j : Int), .bool false] 56) = WE at *; obtain ⟨bc, hbce⟩ : ∃ bc, wA.heap.size = bc := ⟨_, rfl⟩; have hbc : w9.heap.size ≤ bc := (by rw [← hbce]; exact hbc0); rw [hbce] at rcE hne ⊢; clear hbce hbc0))
  all_goals
    clear hSS hFR hwl b9d HBX1 HBX2 HFR HTO HLF HAR HWL HAF
    have hAl3 : AR.length = n := HAL.out
    go_wp2_with fail
    go_loopg [] (T - n) (fun gm wr => ∃ (nq : Nat) (aX : Option Addr) (cX : Nat), n ≤ nq ∧ nq ≤ T ∧ gm = T - nq ∧ PairRow w9.heap.size wr (.slice aX nq cX) (AR ++ List.replicate (nq - n) (0, 0)) ∧ wr.rowIs bc 56 6 (six (.int .i64 (K : Int)) (.int .i64 0) (.slice aX nq cX) (.slice none 0 0) (.int .i64 (j : Int)) (.bool false)) ∧ (Value.slice aX nq cX).ownBlock ≠ some bc ∧ Below w9.heap.size w9 wr)
    case atStart => exact ⟨n, aT, cT, Nat.le_refl _, hnT, rfl, by simpa using hPE, rcE, hne, hBE⟩
    case round =>
      obtain ⟨nq, aX, cX, hq1, hq2, rfl, hP, rc, hnX, hBr⟩ := hrel
      clear hPE rcE hne hBE
      have hzr := hBr.size
      have hbcr := rc.lt
      have rmr := row_below hBr rm9
      have m1 := rmr.cell (i := 1) (by decide)
      simp only [boxF] at m1
      obtain ⟨⟨t0, t1, t2, t3, t4, t5⟩, tf0, tf1, tf2, tf3, tf4, tf5⟩ := six_cells rc
      have hbmr := rmr.lt
      by_cases hlt : nq < T
      · have hltz : (nq : Int) < (T : Int) := by omega
        have hLn : (AR ++ List.replicate (nq - n) ((0 : Int), (0 : Int))).length = nq := by simp; omega
        go_wp2_with (at_builtin; refine append_vals _ (by rfl) _ _ (by rfl) w9.heap.size _ _ (AR ++ List.replicate (nq - n) (0, 0)) [(0, 0)] (by rfl) (by rfl) (hP.below ((Below.refl _ _).alloc (Nat.le_refl _) _)) (one_vals wr 0 0 _ _) (by rw [hLn]; simp; omega) (by simp; omega) ?_; intro v' w' hrow hg hbk; obtain ⟨a', c', hv', _⟩ := hrow.slice; rw [List.length_append, hLn, List.length_singleton] at hv'; subst hv'; have rcB := row_kept (rc.alloc _) hg (fun e => hnX e.symm); obtain ⟨⟨u0, u1, u2, u3, u4, u5⟩, uf0, uf1, uf2, uf3, uf4, uf5⟩ := six_cells rcB)
        have hn' : (Value.slice a' (nq + 1) c').ownBlock ≠ some bc := fun e => by
          rcases hbk with x | x
          · exact hnX (by rw [← x]; exact e)
          · rw [e] at x
            simp at x
            omega
        have hBn : Below w9.heap.size w9 w' := (hBr.alloc hzr _).grown hg (hBr.alloc hzr _).size (fun q e => (hP.lt q e).1)
        have hP2 := hrow.set_other (p := ⟨bc, 2, none⟩) (.slice a' (nq + 1) c') hn'
        have rc2 := six_set2 rcB (.slice a' (nq + 1) c')
        have hB2n : Below w9.heap.size w9 (w'.setCell ⟨bc, 2, none⟩ (.slice a' (nq + 1) c')) := hBn.setCell (p := ⟨bc, 2, none⟩) hbc _
        have hrp : AR ++ List.replicate (nq - n) ((0 : Int), (0 : Int)) ++ [(0, 0)] = AR ++ List.replicate (nq + 1 - n) (0, 0) := by rw [List.append_assoc, show nq + 1 - n = (nq - n) + 1 by omega, List.replicate_succ']
        rw [hrp] at hP2
        clear hrow hg hbk rcB u0 u1 u2 u3 u4 u5 uf0 uf1 uf2 uf3 uf4 uf5 t0 t1 t2 t3 t4 t5 tf0 tf1 tf2 tf3 tf4 tf5 hP rc hnX hBr hrp hBn
        go_wp2
        go_roundg (T - (nq + 1))
        case measure => omega
        case rel => exact ⟨nq + 1, a', c', by omega, by omega, rfl, hP2, rc2, hn', hB2n⟩
      · obtain rfl : nq = T := by omega
        have rwr := row_below hBr rw9
        have rxr := row_below hBr rx9
        have hbw9 := rw9.lt
        have hga9 : gA < w9.heap.size := hgA2
        obtain ⟨⟨y0, y1, y2, y3, y4⟩, yf0, yf1, yf2, yf3, yf4⟩ := five_cells rwr
        have hAg : A.calls.length ≤ 1000 := by have := HAn.out.2.1; omega
        have hro := (hOA.c.toRow).below hBr
        have hlro : (rowOf A.calls VA).length = A.calls.length := rowOf_len _ _
        rw [HAn.out.2.2.1, hgb] at y2
        go_upto_region 19 with (at_builtin; refine append_call _ (by rfl) _ _ (by rfl) W10.heap.size _ (rowOf A.calls VA) ((⟨(K : Int), 0, AR ++ List.replicate (nq - n) (0, 0), [], (j : Int), false⟩ : Cl), .slice aX nq cX, .slice none 0 0) (by rfl) wr.heap.size 1 (by rfl) (hro.below ((Below.refl _ _).alloc (Nat.le_refl _) _)) rfl rfl (cells6_of (six_new wr 56 (.int .i64 (K : Int)) (.int .i64 0) (.slice aX nq cX) (.slice none 0 0) (.int .i64 (j : Int)) (.bool false))) (by rw [hlro]; omega) (by simp; omega) ?_; intro v18 w18 hrow18 hg18 hbk18; obtain ⟨a18, c18, hv18, _⟩ := hrow18.slice; rw [List.length_append, hlro, List.length_singleton] at hv18; subst hv18; have rwB := row_kept (rwr.alloc _) hg18 (fun e => hgw (by simpa [Value.ownBlock] using e.symm)); obtain ⟨⟨q0, q1, q2, q3, q4⟩, qf0, qf1, qf2, qf3, qf4⟩ := five_cells rwB)
        have hw1 : IntKind.i64.wrap ((A.calls.length : Int) + 1 - 1) = (A.calls.length : Int) := by rw [IntKind.wrap_i64]; omega
        have hgb0 : 0 ≤ gb := by have := HGN.out.1.head.born; omega
        have hw2 : IntKind.i64.wrap (gb + 1) = gb + 1 := by rw [IntKind.wrap_i64]; omega
        have HGB : Hid (g.born = gb) := hgb
        go_upto_region 21 with fail
        have N18 : Below wr.heap.size wr (wr.alloc (.cells #[.int .i64 (K : Int), .int .i64 0, .slice aX nq cX, .slice none 0 0, .int .i64 (j : Int), .bool false] 56)) := (Below.refl _ _).alloc (Nat.le_refl _) _
        have z18 := hg18.size
        simp only [World.size_alloc] at z18
        have hblF : ∀ q, q ≠ bw → (((w18.setCell ⟨bw, 0, none⟩ (.slice a18 (A.calls.length + 1) c18)).setCell ⟨bw, 1, none⟩ (.int .i64 (A.calls.length : Int))).setCell ⟨bw, 2, none⟩ (.int .i64 (gb + 1))).heap[q]? = w18.heap[q]? := fun q e => ((Below.heap_setCell _ _ _ _ e).trans (Below.heap_setCell _ _ _ _ e)).trans (Below.heap_setCell _ _ _ _ e)
        have hblR : ∀ q, q < wr.heap.size → q ≠ gA → w18.heap[q]? = wr.heap[q]? := fun q hq e => (hg18.block q (by simp; omega) (fun z => e (by simpa [Value.ownBlock] using z))).trans (N18.block q hq)
        have rwE := five_set2 (five_set1 (five_set0 rwB (.slice a18 (A.calls.length + 1) c18)) (.int .i64 (A.calls.length : Int))) (.int .i64 (gb + 1))
        have hr3 : CallRow W10.heap.size (((w18.setCell ⟨bw, 0, none⟩ (.slice a18 (A.calls.length + 1) c18)).setCell ⟨bw, 1, none⟩ (.int .i64 (A.calls.length : Int))).setCell ⟨bw, 2, none⟩ (.int .i64 (gb + 1))) (.slice a18 (A.calls.length + 1) c18) (rowOf A.calls VA ++ [((⟨(K : Int), 0, AR ++ List.replicate (nq - n) (0, 0), [], (j : Int), false⟩ : Cl), .slice aX nq cX, .slice none 0 0)]) := hrow18.kept (by simp [World.setCell]) (fun q e => hblF q (fun z => by
          rcases hbk18 with x | x
          · rw [e] at x
            simp [Value.ownBlock] at x
            omega
          · rw [e] at x
            simp at x
            omega))
        have hT3 : OpsAt (((w18.setCell ⟨bw, 0, none⟩ (.slice a18 (A.calls.length + 1) c18)).setCell ⟨bw, 1, none⟩ (.int .i64 (A.calls.length : Int))).setCell ⟨bw, 2, none⟩ (.int .i64 (gb + 1))) (.slice aX nq cX) (AR ++ List.replicate (nq - n) (0, 0)) := (hP.kept (by simp [World.setCell]; omega) (fun q e => by
          have hl := hP.lt q e
          exact (hblF q (by omega)).trans (hblR q hl.2 (by omega)))).at
        have hOM := own_more hOA hr3 (by simp [World.setCell]; omega) (fun q hq e => by
          have hl := (hOA.lt hq).2
          exact ((hblF q (fun z => hwn (by rw [← z]; exact hq))).trans (hblR q (by omega) e)).trans (hBr.block q hl)) hT3 rfl
        have rxE := rxr.of_block ((hblF bx (by omega)).trans (hblR bx rxr.lt (by omega)))
        have bw9 := hB9.trans (hBr.mono hB9.size)
        have bw18 : Below W10.heap.size W10 w18 := (bw9.alloc bw9.size (.cells #[.int .i64 (K : Int), .int .i64 0, .slice aX nq cX, .slice none 0 0, .int .i64 (j : Int), .bool false] 56)).grown hg18 (bw9.alloc bw9.size (.cells #[.int .i64 (K : Int), .int .i64 0, .slice aX nq cX, .slice none 0 0, .int .i64 (j : Int), .bool false] 56)).size (fun q e => by simp [Value.ownBlock] at e; omega)
        have bE : Below W10.heap.size W10 (((w18.setCell ⟨bw, 0, none⟩ (.slice a18 (A.calls.length + 1) c18)).setCell ⟨bw, 1, none⟩ (.int .i64 (A.calls.length : Int))).setCell ⟨bw, 2, none⟩ (.int .i64 (gb + 1))) := ((bw18.setCell (p := ⟨bw, 0, none⟩) hw6 _).setCell (p := ⟨bw, 1, none⟩) hw6 _).setCell (p := ⟨bw, 2, none⟩) hw6 _
        have HXE : Hid (HeapAt (((w18.setCell ⟨bw, 0, none⟩ (.slice a18 (A.calls.length + 1) c18)).setCell ⟨bw, 1, none⟩ (.int .i64 (A.calls.length : Int))).setCell ⟨bw, 2, none⟩ (.int .i64 (gb + 1))) (.slice a5 R.calls.length k5) (.slice b5 R.said.length l5) R) := HX10.out.below bE
        have hRA : R = { A with calls := A.calls ++ [(⟨(K : Int), 0, AR ++ List.replicate (nq - n) (0, 0), [], (j : Int), false⟩ : Cl)], now := (A.calls.length : Int), born := A.born + 1 } := by
          rw [HRD.out]
          unfold callH
          rw [if_neg (by rw [HAn.out.2.2.1, HGB.out]; omega), show qs.getD ((K : Nat) : Int).toNat (0, 0, []) = qs[K] by simp [hKq], HKE.out, HAn.out.1, hAl3, Int.toNat_natCast]
        have HpE : Hid (HeapAt (((w18.setCell ⟨bw, 0, none⟩ (.slice a18 (A.calls.length + 1) c18)).setCell ⟨bw, 1, none⟩ (.int .i64 (A.calls.length : Int))).setCell ⟨bw, 2, none⟩ (.int .i64 (gb + 1))) (.slice a18 R.calls.length c18) (.slice bA R.said.length lA) R) := by
          show HeapAt _ _ _ _
          rw [hRA]
          exact ⟨by simpa using hOM.1, hOM.2⟩
        have HF5 : Hid (A.born = gb) := by show _ = _; rw [HAn.out.2.2.1, HGB.out]
        clear hblF hblR hr3 hT3 hOM rwB hrow18 hg18 hbk18 q0 q1 q2 q3 q4 qf0 qf1 qf2 qf3 qf4 y0 y1 y2 y3 y4 yf0 yf1 yf2 yf3 yf4 t0 t1 t2 t3 t4 t5 tf0 tf1 tf2 tf3 tf4 tf5 N18 rwr rxr bw9 bw18 hro hgb
        generalize (((w18.setCell ⟨bw, 0, none⟩ (.slice a18 (A.calls.length + 1) c18)).setCell ⟨bw, 1, none⟩ (.int .i64 (A.calls.length : Int))).setCell ⟨bw, 2, none⟩ (.int .i64 (gb + 1))) = WF at *
        have hRw : R.calls.length = A.calls.length + 1 ∧ R.now = (A.calls.length : Int) ∧ R.born = gb + 1 ∧ R.said.length = A.said.length ∧ R.code = A.code := by rw [hRA]; exact ⟨by simp, rfl, by rw [← HF5.out], rfl, rfl⟩
        obtain ⟨hR0, hR1, hR2, hR3, hR4⟩ := hRw
        clear hRA
        obtain ⟨⟨x0, x1, x2, x3, x4⟩, _⟩ := five_cells rxE
        obtain ⟨⟨y0, y1, y2, y3, y4⟩, _⟩ := five_cells rwE
        rw [← hR0] at y0
        rw [← hR1] at y1
        rw [← hR2] at y2
        rw [← hR3] at y3
        rw [← hR4] at y4
        have HLM := lmHeap_same R _ _ _ _ WF HXE.out HpE.out
        unfold hpCells at HLM
        clear hR0 hR1 hR2 hR3 hR4 rxE rwE
        go_wp2_with fail
        refine HLM.mono ?_
        rintro e wZ ⟨rfl, hbZ⟩
        go_wp2
        go_ret
        exact ⟨ret_bool (by first | rfl | simp), (hB10.trans (bE.mono z10)).trans (hbZ.mono (by have := bE.size; omega))⟩
end Go.Proofs.YtfpodljalccpnaaGreatDoor
