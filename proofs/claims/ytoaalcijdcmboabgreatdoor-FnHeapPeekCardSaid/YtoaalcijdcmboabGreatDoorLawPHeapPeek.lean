/-
  The law FnHeapPeek, walked: whatever bytes come in, it answers true and writes to nothing that was there, where the table opForms lies as its text lays it.
-/
import Derived.Test.YtoaalcijdcmboabGreatDoorDrawHeap
import Derived.Test.YtoaalcijdcmboabGreatDoorHStep
import Derived.Test.YtoaalcijdcmboabGreatDoorHSame
import Derived.Lib.MinMax

namespace Go.Proofs.YtoaalcijdcmboabGreatDoor
open Go.RowKit
set_option maxRecDepth 100000 in
set_option maxHeartbeats 4000000 in
theorem lawHeapPeek_any (w : World) (a : Option Addr) (len cap : Nat) (a2 : Option Addr) (len2 cap2 : Nat) (h : BytesAt w a len cap) (hc2 : len2 ≤ 9223372036854775807) (hT : TabAt w) :
    Calls Tryz.prog 11 #[.slice a len cap, .slice a2 len2 cap2] w fun e w' => e = .returned (.bool true) ∧ Below w.heap.size w w' := by
  have hc := h.1
  have hm := h.2.1
  unfold maxLen at hm
  have HB : Hid (BytesAt w a len cap) := h
  have HT : Hid (TabAt w) := hT
  clear h hT
  by_cases hl : 1048576 < len
  · have hlz : (1048576 : Int) < (len : Int) := by omega
    go_enter Tryz.func11, Tryz.ntmps11
    go_wp2
    go_ret
    exact ⟨rfl, Below.refl _ _⟩
  have hlz : (len : Int) ≤ 1048576 := by omega
  by_cases hl2 : 1048576 < len2
  · have hlz2 : (1048576 : Int) < (len2 : Int) := by omega
    go_enter Tryz.func11, Tryz.ntmps11
    go_wp2
    go_ret
    exact ⟨rfl, Below.refl _ _⟩
  have hlz2 : (len2 : Int) ≤ 1048576 := by omega
  go_enter Tryz.func11, Tryz.ntmps11
  go_wp2_with fail
  refine (drawHeapStep_any _ a len cap HB.out).mono ?_
  rintro e w1 ⟨v, vc, vs, ms, H, rfl, hD, hB1⟩
  obtain ⟨hM1, hH1⟩ := hD.st.here
  have l30 := hD.fine.l30
  have sd100 := hD.fine.sd
  have HPO : Hid (progOk ms = true) := hD.ok
  clear hD
  obtain ⟨aV, cV, hvV, _⟩ := id hM1
  obtain ⟨ac, kc, hvc⟩ := hH1.c.shape
  obtain ⟨aD, kD, hvs⟩ := hH1.s.shape
  subst hvV hvc hvs
  have z1 := hB1.size
  clear HB
  unfold hpCells
  go_upto_region 4 with fail
  have N2 : Below w1.heap.size w1 ((w1.alloc (.cells #[.slice aV ms.length cV] 25)).alloc (.cells #[.slice ac H.calls.length kc, .int .i64 H.now, .int .i64 H.born, .slice aD H.said.length kD, .int .i64 H.code] 29)) := ((Below.refl _ _).alloc (Nat.le_refl _) _).alloc (by simp) _
  have rp := (pbox_new w1 (.slice aV ms.length cV)).alloc (.cells #[.slice ac H.calls.length kc, .int .i64 H.now, .int .i64 H.born, .slice aD H.said.length kD, .int .i64 H.code] 29)
  have rh := five_new (w1.alloc (.cells #[.slice aV ms.length cV] 25)) 29 (.slice ac H.calls.length kc) (.int .i64 H.now) (.int .i64 H.born) (.slice aD H.said.length kD) (.int .i64 H.code)
  simp only [World.size_alloc] at rh
  generalize (w1.alloc (.cells #[.slice aV ms.length cV] 25)).alloc (.cells #[.slice ac H.calls.length kc, .int .i64 H.now, .int .i64 H.born, .slice aD H.said.length kD, .int .i64 H.code] 29) = W2 at *
  have hB2 := hB1.trans (N2.mono z1)
  have z2 := hB2.size
  have HMH : Hid (MethsAt W2 (.slice aV ms.length cV) ms ∧ HeapAt W2 (.slice ac H.calls.length kc) (.slice aD H.said.length kD) H ∧ TabAt W2) := ⟨hM1.below N2, hH1.below N2, HT.out.below hB2⟩
  clear hM1 hH1 hB1 N2 HT
  obtain ⟨⟨d0, d1, d2, d3, d4⟩, _⟩ := five_cells rh
  have dp := rp.cell (i := 0) (by decide)
  have hl1000 : H.calls.length ≤ 1000 := by omega
  go_upto_region 6 with fail
  obtain ⟨K, hK⟩ : ∃ K : Nat, (len2 : Int) % max (H.calls.length : Int) 1 = (K : Int) := ⟨((len2 : Int) % max (H.calls.length : Int) 1).toNat, (Int.toNat_of_nonneg (Int.emod_nonneg _ (by omega))).symm⟩
  have HKb : Hid ((K : Int) < max (H.calls.length : Int) 1) := by show (K : Int) < _; rw [← hK]; exact Int.emod_lt_of_pos _ (by omega)
  rw [hK]
  clear hK
  obtain ⟨nn, hnn⟩ : ∃ nn : Int, (len2 : Int) / 2 % 4 = nn := ⟨_, rfl⟩
  rw [hnn]
  have hnnb : 0 ≤ nn ∧ nn < 4 := by omega
  have Hnn : Hid ((len2 : Int) / 2 % 4 = nn) := hnn
  clear hnn
  refine wp_region_fs [[], [], [], [2], [], [4], [4, 5], [0, 1, 2, 3, 4, 5, 6], [0, 1, 2, 3, 4, 5, 6, 7], [0, 1, 2, 3, 4, 5, 6, 7, 8], [0, 1, 2, 3, 4, 5, 6, 7, 8], [0, 1, 2, 3, 4, 5, 6, 7, 8], [], [], [0, 1, 2, 3, 4, 5, 6, 7, 8, 9, 12, 13], [0, 1, 2, 3, 4, 5, 6, 7, 8, 9, 10, 12, 13, 14], [0, 1, 2, 3, 4, 5, 6, 7, 8, 9, 10, 11, 12, 13, 14, 15]] [[0], [1], [2], [3], [4], [5], [6], [7], [8, 7], [9, 8], [10, 8], [11, 8], [12], [13], [12, 9], [13, 10], [16, 11]] [[], [], [], [], [], [], [], [], [], [], [], [], [], [], [12], [13], []] [fIs (.agg #[.slice aV ms.length cV]), fIs (.agg #[.slice ac H.calls.length kc, .int .i64 H.now, .int .i64 H.born, .slice aD H.said.length kD, .int .i64 H.code]), fIs (.int .i64 nn), fIs (.agg #[.int .i64 13, .int .i64 nn]), fIs (.int .i64 (K : Int)), fIs (.agg #[.int .i64 2, .int .i64 (K : Int)]), fGh 6 (fun (x : Value) l => l = [x]) (fun x w1 => OpsAt w1 x [(2, (K : Int))]), fWith 7 ms H 13 (nn) [(2, (K : Int))] (.slice aD H.said.length kD), fOf fun l => l.getD 0 undef = l.getD 1 undef, fOf fun l => l.getD 0 undef = tget (l.getD 1 undef) 0, fOf fun l => l.getD 0 undef = tget (l.getD 1 undef) 1, fOf fun l => l.getD 0 undef = tget (l.getD 1 undef) 2, fBox 12 25 1, fBox 13 29 5, fRow 12 25 1 fun b f l => l.getD 0 undef = .pointer (some ⟨b, 0, none⟩) ∧ f = fun q => (l.getD 1 undef).cells.toList.getD q undef, fRow 13 29 5 fun b f l => l.getD 0 undef = .pointer (some ⟨b, 0, none⟩) ∧ f = fun q => (l.getD 1 undef).cells.toList.getD q undef, fOf fun l => l.getD 0 undef = l.getD 1 undef] 17 rfl (by kernel_rfl) (by kernel_rfl) ?_ ?_
  · refine all_lt_succ (all_lt_succ (all_lt_succ (all_lt_succ (all_lt_succ (all_lt_succ (all_lt_succ (all_lt_succ (all_lt_succ (all_lt_succ (all_lt_succ (all_lt_succ (all_lt_succ (all_lt_succ (all_lt_succ (all_lt_succ (all_lt_succ (all_lt_zero) ?_) ?_) ?_) ?_) ?_) ?_) ?_) ?_) ?_) ?_) ?_) ?_) ?_) ?_) ?_) ?_) ?_
    · intro a w val own hB hf hown hk
      have s5 := hf.at (d := 5) (v := .pointer (some ⟨w1.heap.size, 0, none⟩)) (by kernel_rfl) rfl
      have c0 := cell_below hB dp
      exact rf_pure (v := .agg #[.slice aV ms.length cV]) hB rfl rfl (by unfold execOp; go_simp) rfl
    · intro a w val own hB hf hown hk
      have s6 := hf.at (d := 6) (v := .pointer (some ⟨w1.heap.size + 1, 0, none⟩)) (by kernel_rfl) rfl
      obtain ⟨c0, c1, c2, c3, c4⟩ : _ ∧ _ ∧ _ ∧ _ ∧ _ := ⟨cell_below hB d0, cell_below hB d1, cell_below hB d2, cell_below hB d3, cell_below hB d4⟩
      exact rf_pure (v := .agg #[.slice ac H.calls.length kc, .int .i64 H.now, .int .i64 H.born, .slice aD H.said.length kD, .int .i64 H.code]) hB rfl rfl (by unfold execOp; go_simp) rfl
    · intro a w val own hB hf hown hk
      have s8 := hf.at (d := 8) (v := .int .i64 nn) (by kernel_rfl) rfl
      exact rf_pure (v := .int .i64 nn) hB rfl rfl (by unfold execOp; go_simp) rfl
    · intro a w val own hB hf hown hk
      obtain ⟨k2, f2⟩ := hk 2 (show 2 ∈ [2] by decide)
      have s42 := k2 42 rfl
      rw [fIs_out f2] at s42
      clear k2 f2
      exact rf_pure (v := .agg #[.int .i64 13, .int .i64 nn]) hB rfl rfl (by unfold execOp; go_simp) rfl
    · intro a w val own hB hf hown hk
      have s7 := hf.at (d := 7) (v := .int .i64 (K : Int)) (by kernel_rfl) rfl
      exact rf_pure (v := .int .i64 (K : Int)) hB rfl rfl (by unfold execOp; go_simp) rfl
    · intro a w val own hB hf hown hk
      obtain ⟨k4, f4⟩ := hk 4 (show 4 ∈ [4] by decide)
      have s44 := k4 44 rfl
      rw [fIs_out f4] at s44
      clear k4 f4
      exact rf_call hB rfl rfl (by unfold execOp; go_simp) ((lmOf_any ((K : Int)) w).mono fun e w' ⟨he, hb⟩ => ⟨_, he, hb, rfl⟩)
    · intro a w val own hB hf hown hk
      obtain ⟨k5, f5⟩ := hk 5 (show 5 ∈ [4, 5] by decide)
      have s45 := k5 45 rfl
      rw [fIs_out f5] at s45
      clear k5 f5
      exact rf_new (v := .slice (some ⟨w.heap.size, 0, none⟩) 1 1) (w' := w.alloc (.cells #[.int .i64 2, .int .i64 (K : Int)] 37)) hB rfl rfl (by unfold execOp; go_simp) ((Below.refl _ _).alloc (Nat.le_refl _) _) ⟨_, rfl, Made.new fun w1 _ _ hr => (one_vals w 2 ((K : Int)) 37 1).of_block (hr _ (Nat.le_refl _) (by simp))⟩
    · intro a w val own hB hf hown hk
      obtain ⟨k0, f0⟩ := hk 0 (show 0 ∈ [0, 1, 2, 3, 4, 5, 6] by decide)
      have s40 := k0 40 rfl
      rw [fIs_out f0] at s40
      clear k0 f0
      obtain ⟨k1, f1⟩ := hk 1 (show 1 ∈ [0, 1, 2, 3, 4, 5, 6] by decide)
      have s41 := k1 41 rfl
      rw [fIs_out f1] at s41
      clear k1 f1
      obtain ⟨k3, f3⟩ := hk 3 (show 3 ∈ [0, 1, 2, 3, 4, 5, 6] by decide)
      have s43 := k3 43 rfl
      rw [fIs_out f3] at s43
      clear k3 f3
      obtain ⟨k6, x6, e6, m6⟩ := hk 6 (show 6 ∈ [0, 1, 2, 3, 4, 5, 6] by decide)
      have v6 := one_eq e6
      have s46 := k6 46 rfl
      rw [v6] at s46
      clear k6 e6
      exact rf_call hB rfl rfl (by unfold execOp hpCells; go_simp) (with_call (x := nn) (vc := .slice ac H.calls.length kc) HMH.out.1 HMH.out.2.1 hB (m6.here hB) hl1000 HPO.out (by simp))
    · intro a w val own hB hf hown hk
      have s47 := (hk 7 (show 7 ∈ [0, 1, 2, 3, 4, 5, 6, 7] by decide)).1 47 rfl
      exact rf_pure (v := val 7) hB rfl rfl (by unfold execOp; go_simp) rfl
    · intro a w val own hB hf hown hk
      obtain ⟨k7, ⟨aq, cq, ag, kg, qs, g, ok⟩, ⟨e7, hX⟩, mX⟩ := hk 7 (show 7 ∈ [0, 1, 2, 3, 4, 5, 6, 7, 8] by decide)
      have v7 := one_eq e7
      have s47 := k7 47 rfl
      unfold WG.val at v7
      dsimp only at v7 hX mX
      rw [v7] at s47
      clear k7 e7
      obtain ⟨k8, f8⟩ := hk 8 (show 8 ∈ [0, 1, 2, 3, 4, 5, 6, 7, 8] by decide)
      have v8 : val 8 = _ := Eq.trans f8 v7
      have s39 := k8 39 rfl
      rw [v8] at s39
      clear k8 f8
      exact rf_pure (v := .agg #[.slice aq qs.length cq]) hB rfl rfl (by unfold execOp; go_simp) (by show _ = tget (val 8) 0; rw [v8]; rfl)
    · intro a w val own hB hf hown hk
      obtain ⟨k7, ⟨aq, cq, ag, kg, qs, g, ok⟩, ⟨e7, hX⟩, mX⟩ := hk 7 (show 7 ∈ [0, 1, 2, 3, 4, 5, 6, 7, 8] by decide)
      have v7 := one_eq e7
      have s47 := k7 47 rfl
      unfold WG.val at v7
      dsimp only at v7 hX mX
      rw [v7] at s47
      clear k7 e7
      obtain ⟨k8, f8⟩ := hk 8 (show 8 ∈ [0, 1, 2, 3, 4, 5, 6, 7, 8] by decide)
      have v8 : val 8 = _ := Eq.trans f8 v7
      have s39 := k8 39 rfl
      rw [v8] at s39
      clear k8 f8
      exact rf_pure (v := .agg #[.slice ag g.calls.length kg, .int .i64 g.now, .int .i64 g.born, .slice aD H.said.length kD, .int .i64 g.code]) hB rfl rfl (by unfold execOp; go_simp) (by show _ = tget (val 8) 1; rw [v8]; rfl)
    · intro a w val own hB hf hown hk
      obtain ⟨k7, ⟨aq, cq, ag, kg, qs, g, ok⟩, ⟨e7, hX⟩, mX⟩ := hk 7 (show 7 ∈ [0, 1, 2, 3, 4, 5, 6, 7, 8] by decide)
      have v7 := one_eq e7
      have s47 := k7 47 rfl
      unfold WG.val at v7
      dsimp only at v7 hX mX
      rw [v7] at s47
      clear k7 e7
      obtain ⟨k8, f8⟩ := hk 8 (show 8 ∈ [0, 1, 2, 3, 4, 5, 6, 7, 8] by decide)
      have v8 : val 8 = _ := Eq.trans f8 v7
      have s39 := k8 39 rfl
      rw [v8] at s39
      clear k8 f8
      exact rf_pure (v := .bool ok) hB rfl rfl (by unfold execOp; go_simp) (by show _ = tget (val 8) 2; rw [v8]; rfl)
    · intro a w val own hB hf hown hk
      exact rf_new (v := .pointer (some ⟨w.heap.size, 0, none⟩)) (w' := w.alloc (.cells #[.slice none 0 0] 25)) hB rfl rfl (by unfold execOp; go_simp) ((Below.refl _ _).alloc (Nat.le_refl _) _) (fBox_new hB #[.slice none 0 0])
    · intro a w val own hB hf hown hk
      exact rf_new (v := .pointer (some ⟨w.heap.size, 0, none⟩)) (w' := w.alloc (.cells #[.slice none 0 0, .int .i64 0, .int .i64 0, .slice none 0 0, .int .i64 0] 29)) hB rfl rfl (by unfold execOp; go_simp) ((Below.refl _ _).alloc (Nat.le_refl _) _) (fBox_new hB #[.slice none 0 0, .int .i64 0, .int .i64 0, .slice none 0 0, .int .i64 0])
    · intro a w val own hB hf hown hk
      obtain ⟨k12, bo12, g12, e12, ho12, hW12, r12⟩ := hk 12 (show 12 ∈ [0, 1, 2, 3, 4, 5, 6, 7, 8, 9, 12, 13] by decide)
      have v12 := one_eq e12
      have s9 := k12 9 rfl
      rw [v12] at s9
      clear k12 e12
      obtain ⟨k7, ⟨aq, cq, ag, kg, qs, g, ok⟩, ⟨e7, hX⟩, mX⟩ := hk 7 (show 7 ∈ [0, 1, 2, 3, 4, 5, 6, 7, 8, 9, 12, 13] by decide)
      have v7 := one_eq e7
      have s47 := k7 47 rfl
      unfold WG.val at v7
      dsimp only at v7 hX mX
      rw [v7] at s47
      clear k7 e7
      obtain ⟨k8, f8⟩ := hk 8 (show 8 ∈ [0, 1, 2, 3, 4, 5, 6, 7, 8, 9, 12, 13] by decide)
      have v8 : val 8 = _ := Eq.trans f8 v7
      have s39 := k8 39 rfl
      rw [v8] at s39
      clear k8 f8
      obtain ⟨k9, f9⟩ := hk 9 (show 9 ∈ [0, 1, 2, 3, 4, 5, 6, 7, 8, 9, 12, 13] by decide)
      have v9 : val 9 = .agg #[.slice aq qs.length cq] := by have e : val 9 = tget (val 8) 0 := f9; rw [e, v8]; rfl
      have s48 := k9 48 rfl
      rw [v9] at s48
      clear k9 f9
      have c0 := r12.cell (i := 0) (by decide)
      have z0 := r12.frozen 0
      exact rf_set (w' := setAll w bo12 0 [.slice aq qs.length cq]) rfl rfl (by unfold execOp; simp only [setAll]; go_simp) (setAll_does (show own bo12 ∈ [12] by rw [ho12]; decide) hW12 _ 0 hB) (fRow_set [.slice aq qs.length cq] r12 ho12 hW12 rfl ⟨v12, by show _ = fun q => (val 9).cells.toList.getD q undef; rw [v9]; rfl⟩)
    · intro a w val own hB hf hown hk
      obtain ⟨k13, bo13, g13, e13, ho13, hW13, r13⟩ := hk 13 (show 13 ∈ [0, 1, 2, 3, 4, 5, 6, 7, 8, 9, 10, 12, 13, 14] by decide)
      have v13 := one_eq e13
      have s10 := k13 10 rfl
      rw [v13] at s10
      clear k13 e13
      obtain ⟨k7, ⟨aq, cq, ag, kg, qs, g, ok⟩, ⟨e7, hX⟩, mX⟩ := hk 7 (show 7 ∈ [0, 1, 2, 3, 4, 5, 6, 7, 8, 9, 10, 12, 13, 14] by decide)
      have v7 := one_eq e7
      have s47 := k7 47 rfl
      unfold WG.val at v7
      dsimp only at v7 hX mX
      rw [v7] at s47
      clear k7 e7
      obtain ⟨k8, f8⟩ := hk 8 (show 8 ∈ [0, 1, 2, 3, 4, 5, 6, 7, 8, 9, 10, 12, 13, 14] by decide)
      have v8 : val 8 = _ := Eq.trans f8 v7
      have s39 := k8 39 rfl
      rw [v8] at s39
      clear k8 f8
      obtain ⟨k10, f10⟩ := hk 10 (show 10 ∈ [0, 1, 2, 3, 4, 5, 6, 7, 8, 9, 10, 12, 13, 14] by decide)
      have v10 : val 10 = .agg #[.slice ag g.calls.length kg, .int .i64 g.now, .int .i64 g.born, .slice aD H.said.length kD, .int .i64 g.code] := by have e : val 10 = tget (val 8) 1 := f10; rw [e, v8]; rfl
      have s49 := k10 49 rfl
      rw [v10] at s49
      clear k10 f10
      have c0 := r13.cell (i := 0) (by decide)
      have c1 := r13.cell (i := 1) (by decide)
      have c2 := r13.cell (i := 2) (by decide)
      have c3 := r13.cell (i := 3) (by decide)
      have c4 := r13.cell (i := 4) (by decide)
      have z0 := r13.frozen 0
      have z1 := r13.frozen 1
      have z2 := r13.frozen 2
      have z3 := r13.frozen 3
      have z4 := r13.frozen 4
      exact rf_set (w' := setAll w bo13 0 [.slice ag g.calls.length kg, .int .i64 g.now, .int .i64 g.born, .slice aD H.said.length kD, .int .i64 g.code]) rfl rfl (by unfold execOp; simp only [setAll]; go_simp) (setAll_does (show own bo13 ∈ [13] by rw [ho13]; decide) hW13 _ 0 hB) (fRow_set [.slice ag g.calls.length kg, .int .i64 g.now, .int .i64 g.born, .slice aD H.said.length kD, .int .i64 g.code] r13 ho13 hW13 rfl ⟨v13, by show _ = fun q => (val 10).cells.toList.getD q undef; rw [v10]; rfl⟩)
    · intro a w val own hB hf hown hk
      have s50 := (hk 11 (show 11 ∈ [0, 1, 2, 3, 4, 5, 6, 7, 8, 9, 10, 11, 12, 13, 14, 15] by decide)).1 50 rfl
      exact rf_pure (v := val 11) hB rfl rfl (by unfold execOp; go_simp) rfl
  intro a w3 val own hB hf hown hk
  obtain ⟨k12, bo12, g12, e12, ho12, hW12, r12⟩ := hk 12 (by decide)
  have v12 := one_eq e12
  have s9 := k12 9 rfl
  rw [v12] at s9
  clear k12 e12
  obtain ⟨k7, ⟨aq, cq, ag, kg, qs, g, ok⟩, ⟨e7, hX⟩, mX⟩ := hk 7 (by decide)
  have v7 := one_eq e7
  have s47 := k7 47 rfl
  unfold WG.val at v7
  dsimp only at v7 hX mX
  rw [v7] at s47
  clear k7 e7
  obtain ⟨k8, f8⟩ := hk 8 (by decide)
  have v8 : val 8 = _ := Eq.trans f8 v7
  have s39 := k8 39 rfl
  rw [v8] at s39
  clear k8 f8
  obtain ⟨k9, f9⟩ := hk 9 (by decide)
  have v9 : val 9 = .agg #[.slice aq qs.length cq] := by have e : val 9 = tget (val 8) 0 := f9; rw [e, v8]; rfl
  have s48 := k9 48 rfl
  rw [v9] at s48
  clear k9 f9
  obtain ⟨_, bo14, g14, ⟨e14, hg14⟩, _, _, r14⟩ := hk 14 (by decide)
  have q14 : bo14 = bo12 := by have e : val 12 = _ := e14; rw [v12] at e; injection e with e; injection e with e; injection e with e; exact e.symm
  subst q14
  have hg14 : g14 = fun q => (val 9).cells.toList.getD q undef := hg14
  rw [v9] at hg14
  subst hg14
  have r14 : w3.rowIs bo14 _ _ (fun q => [.slice aq qs.length cq].getD q undef) := r14
  clear e14
  obtain ⟨k13, bo13, g13, e13, ho13, hW13, r13⟩ := hk 13 (by decide)
  have v13 := one_eq e13
  have s10 := k13 10 rfl
  rw [v13] at s10
  clear k13 e13
  obtain ⟨k10, f10⟩ := hk 10 (by decide)
  have v10 : val 10 = .agg #[.slice ag g.calls.length kg, .int .i64 g.now, .int .i64 g.born, .slice aD H.said.length kD, .int .i64 g.code] := by have e : val 10 = tget (val 8) 1 := f10; rw [e, v8]; rfl
  have s49 := k10 49 rfl
  rw [v10] at s49
  clear k10 f10
  obtain ⟨_, bo15, g15, ⟨e15, hg15⟩, _, _, r15⟩ := hk 15 (by decide)
  have q15 : bo15 = bo13 := by have e : val 13 = _ := e15; rw [v13] at e; injection e with e; injection e with e; injection e with e; exact e.symm
  subst q15
  have hg15 : g15 = fun q => (val 10).cells.toList.getD q undef := hg15
  rw [v10] at hg15
  subst hg15
  have r15 : w3.rowIs bo15 _ _ (fun q => [.slice ag g.calls.length kg, .int .i64 g.now, .int .i64 g.born, .slice aD H.said.length kD, .int .i64 g.code].getD q undef) := r15
  clear e15
  obtain ⟨k11, f11⟩ := hk 11 (by decide)
  have v11 : val 11 = .bool ok := by have e : val 11 = tget (val 8) 2 := f11; rw [e, v8]; rfl
  have s50 := k11 50 rfl
  rw [v11] at s50
  clear k11 f11
  obtain ⟨k16, f16⟩ := hk 16 (by decide)
  have v16 : val 16 = _ := Eq.trans f16 v11
  have s11 := k16 11 rfl
  rw [v16] at s11
  clear k16 f16
  have s5 := hf.at (d := 5) (v := .pointer (some ⟨w1.heap.size, 0, none⟩)) (by kernel_rfl) rfl
  have s6 := hf.at (d := 6) (v := .pointer (some ⟨w1.heap.size + 1, 0, none⟩)) (by kernel_rfl) rfl
  have s7 := hf.at (d := 7) (v := .int .i64 (K : Int)) (by kernel_rfl) rfl
  have s8 := hf.at (d := 8) (v := .int .i64 nn) (by kernel_rfl) rfl
  obtain ⟨u, hu0, hv⟩ := frame_any a.tmps (n := 92) hf.size
  have hu : a.tmps = (u 0 :: u 1 :: u 2 :: u 3 :: u 4 :: u 5 :: u 6 :: u 7 :: u 8 :: u 9 :: u 10 :: u 11 :: u 12 :: u 13 :: u 14 :: u 15 :: u 16 :: u 17 :: u 18 :: u 19 :: u 20 :: u 21 :: u 22 :: u 23 :: u 24 :: u 25 :: u 26 :: u 27 :: u 28 :: u 29 :: u 30 :: u 31 :: u 32 :: u 33 :: u 34 :: u 35 :: u 36 :: u 37 :: u 38 :: u 39 :: u 40 :: u 41 :: u 42 :: u 43 :: u 44 :: u 45 :: u 46 :: u 47 :: u 48 :: u 49 :: u 50 :: u 51 :: u 52 :: u 53 :: u 54 :: u 55 :: u 56 :: u 57 :: u 58 :: u 59 :: u 60 :: u 61 :: u 62 :: u 63 :: u 64 :: u 65 :: u 66 :: u 67 :: u 68 :: u 69 :: u 70 :: u 71 :: u 72 :: u 73 :: u 74 :: u 75 :: u 76 :: u 77 :: u 78 :: u 79 :: u 80 :: u 81 :: u 82 :: u 83 :: u 84 :: u 85 :: u 86 :: u 87 :: u 88 :: u 89 :: u 90 :: u 91 :: []).toArray := hu0
  rw [(hv 5).trans s5, (hv 6).trans s6, (hv 7).trans s7, (hv 8).trans s8, (hv 9).trans s9, (hv 10).trans s10, (hv 11).trans s11] at hu
  obtain rfl := act_eq hu (show a.defers = [] from hf.defers)
  obtain ⟨hM3, hH3⟩ := mX.here hB
  have rq := row_one r14
  have rg := row_five r15
  have hB3 := hB
  clear hu hu0 hv hk hown hf mX hB s5 s6 s7 s8 s9 s10 s11
  generalize bo14 = bq at *
  generalize bo15 = bg at *
  clear d0 d1 d2 d3 d4 dp rp rh
  have z3 := hB3.size
  have hlg : g.calls.length ≤ 1000 := by have := hX.l; omega
  have hsg : g.said.length ≤ 800000 := by rw [hX.s]; omega
  have hT3 := HMH.out.2.2.below hB3
  have HI := implHeapStep_any _ _ _ qs g w3 hM3 hT3 hH3 hlg hsg
  have HMX : Hid (MethsAt w3 (.slice aq (List.length qs) cq) qs ∧ HeapAt w3 (.slice ag g.calls.length kg) (.slice aD H.said.length kD) g ∧ WithOk ms H 13 (nn) [(2, (K : Int))] qs g ok) := ⟨hM3, hH3, hX⟩
  have HRE : Hid (ok = true → heapOk qs g = true ∧ hRun qs g 1 = (afterH g [lookV (afterH g []) 13 nn K]) ∧ Good qs g ∧ ∃ j : Nat, g.now = (j : Int) ∧ ∃ hj : j < g.calls.length, 0 ≤ g.calls[j].pc ∧ g.calls[j].pc ≤ 1000) := fun e => by
    subst e
    obtain ⟨_, _, _, ho⟩ := hX.yes rfl
    have hA := with_at hX
    obtain ⟨hg, hc, hr, hs, j, m, pc, hj, hm, hpl, hn, hcur, hst, hme, hpc, hop⟩ := hA
    refine ⟨ho, ?_, hg, j, hn, hj, ?_⟩
    · have e := with_step hX (t := 1) (l := 1) rfl (by simp) rfl; rw [e]; exact after_push hn hj _ _
    · have := (hg.cl j hj).pc
      have hp := hg.head.p
      unfold progOk at hp
      simp only [Bool.and_eq_true] at hp
      have ha := List.all_eq_true.1 hp.2 _ (List.getElem_mem hm)
      unfold methOk at ha
      simp only [Bool.and_eq_true, decide_eq_true_eq] at ha
      have h14 := ha.1.2
      rw [hpc]
      omega
  clear hM3 hH3 hX hT3
  generalize hRun qs g 1 = R at *
  obtain ⟨fb, hfb⟩ : ∃ fb, heapOk qs g = fb := ⟨_, rfl⟩
  rw [hfb] at HI
  have HFB : Hid (heapOk qs g = fb) := hfb
  clear hfb
  unfold hpCells at HI
  obtain ⟨⟨d0, d1, d2, d3, d4⟩, _⟩ := five_cells rg
  have dp := rq.cell (i := 0) (by decide)
  go_wp2_with fail
  refine HI.mono ?_
  rintro e w5 ⟨⟨vc5, vs5, V5, rfl, hO5⟩, hb5⟩
  obtain ⟨a5, k5, hv5⟩ := hO5.at.c.shape
  obtain ⟨b5, l5, hs5⟩ := hO5.at.s.shape
  subst hv5 hs5
  have z5 := hb5.size
  have rq5 := row_below hb5 rq
  have rg5 := row_below hb5 rg
  clear HI d0 d1 d2 d3 d4 dp rq rg
  go_upto_region 8 with fail
  have N6 : Below w5.heap.size w5 (w5.alloc (.cells #[.slice a5 R.calls.length k5, .int .i64 R.now, .int .i64 R.born, .slice b5 R.said.length l5, .int .i64 R.code] 29)) := (Below.refl _ _).alloc (Nat.le_refl _) _
  have rx6 := five_new w5 29 (.slice a5 R.calls.length k5) (.int .i64 R.now) (.int .i64 R.born) (.slice b5 R.said.length l5) (.int .i64 R.code)
  have rq6 := row_below N6 rq5
  have rg6 := row_below N6 rg5
  have b6 := hb5.trans (N6.mono z5)
  have HX6 : Hid (HeapAt (w5.alloc (.cells #[.slice a5 R.calls.length k5, .int .i64 R.now, .int .i64 R.born, .slice b5 R.said.length l5, .int .i64 R.code] 29)) (.slice a5 R.calls.length k5) (.slice b5 R.said.length l5) R) := hO5.at.below N6
  have HXO : Hid (OwnHeap w3.heap.size (w5.alloc (.cells #[.slice a5 R.calls.length k5, .int .i64 R.now, .int .i64 R.born, .slice b5 R.said.length l5, .int .i64 R.code] 29)) (.slice a5 R.calls.length k5) (.slice b5 R.said.length l5) R V5) := hO5.below N6
  clear hO5 rq5 rg5 N6
  generalize w5.alloc (.cells #[.slice a5 R.calls.length k5, .int .i64 R.now, .int .i64 R.born, .slice b5 R.said.length l5, .int .i64 R.code] 29) = W6 at *
  generalize w5.heap.size = bx at *
  have HM6 : Hid (MethsAt W6 (.slice aq (List.length qs) cq) qs ∧ HeapAt W6 (.slice ag g.calls.length kg) (.slice aD H.said.length kD) g) := ⟨HMX.out.1.below b6, HMX.out.2.1.below b6⟩
  have hB6 := (hB2.trans (hB3.mono z2)).trans (b6.mono (by have := hB2.size; omega))
  have z6 := hB6.size
  cases ok
  · have HOK := specHeapOk_any _ _ _ qs g W6 HM6.out.1 HM6.out.2 (by omega)
    rw [HFB.out] at HOK
    unfold hpCells at HOK
    obtain ⟨⟨d0, d1, d2, d3, d4⟩, _⟩ := five_cells rg6
    have dp := rq6.cell (i := 0) (by decide)
    go_wp2_with fail
    refine HOK.mono ?_
    rintro e w7 ⟨rfl, hb7⟩
    go_wp2
    go_ret
    exact ⟨ret_bool (by cases fb <;> rfl), hB6.trans (hb7.mono z6)⟩
  obtain ⟨hfb, hRE, hgd, j, hnj, hj, hpcj⟩ := HRE.out rfl
  have hfb2 : fb = true := by rw [← HFB.out]; exact hfb
  subst hfb2
  have HRA : Hid (R = (afterH g [lookV (afterH g []) 13 nn K])) := hRE
  have HGN : Hid (Good qs g ∧ g.now = (j : Int) ∧ j < g.calls.length) := ⟨hgd, hnj, hj⟩
  clear hRE HRE hfb hnj hgd
  have hKg : K < g.calls.length := by have e1 := HMX.out.2.2.l; have e2 := HKb.out; omega
  have hps := HM6.out.2.c
  obtain ⟨aE, cE, hvE, _, hcE⟩ := hps
  injection hvE with hvE1 _ hvE2
  obtain ⟨gb, og, vtK, vsK, hab, hclK⟩ := hcE K hKg
  rw [← hvE1] at hab
  obtain ⟨p0, p1, p2, p3, p4, p5, hpt, hps⟩ := hclK
  clear hcE hvE1 hvE2
  have hgnj := HGN.out.2.1
  obtain ⟨⟨d0, d1, d2, d3, d4⟩, _⟩ := five_cells rg6
  obtain ⟨aT, cT, hvT, _, hcT⟩ := hpt
  subst hvT
  have N7 : Below W6.heap.size W6 (W6.alloc (.cells #[.int .i64 0, .int .i64 0] 37)) := (Below.refl _ _).alloc (Nat.le_refl _) _
  have rv7 := two_new W6 37 (.int .i64 0) (.int .i64 0)
  have bl7 := rg6.lt
  have blx7 := rx6.lt
  have p27 := cell_below N7 p2
  have d07 := cell_below N7 d0
  clear p0 p1 p2 p3 p4 p5 hps d0 d1 d2 d3 d4
  go_upto_region 11 with fail
  have B67 := N7
  have rx7 := row_below N7 rx6
  have rg7 := row_below N7 rg6
  have HX7 : Hid (HeapAt (W6.alloc (.cells #[.int .i64 0, .int .i64 0] 37)) (.slice a5 R.calls.length k5) (.slice b5 R.said.length l5) R) := HX6.out.below N7
  have HM7 : Hid (MethsAt (W6.alloc (.cells #[.int .i64 0, .int .i64 0] 37)) (.slice aq (List.length qs) cq) qs ∧ HeapAt (W6.alloc (.cells #[.int .i64 0, .int .i64 0] 37)) (.slice ag g.calls.length kg) (.slice aD H.said.length kD) g) := ⟨HM6.out.1.below N7, HM6.out.2.below N7⟩
  have hB7 := hB6.trans (N7.mono z6)
  have z7 := hB7.size
  clear N7
  generalize W6.alloc (.cells #[.int .i64 0, .int .i64 0] 37) = W7 at *
  obtain ⟨bv, hbv⟩ : ∃ bv, W6.heap.size = bv := ⟨_, rfl⟩
  have hb6 : W6.heap.size ≤ bv := by omega
  have hbx : bx < bv := by omega
  have hbg : bg < bv := by omega
  rw [hbv] at rv7 ⊢
  clear hbv bl7 blx7
  obtain ⟨I, hI⟩ := Int.eq_ofNat_of_zero_le hnnb.1
  have HNI : Hid (nn = (I : Int)) := hI
  have HTP : Hid (((afterH g []).calls.getD K Cl.none).temps = g.calls[K].temps) := (after_same HGN.out.2.1 HGN.out.2.2 [] hKg).2.2.1
  by_cases hIl : I < g.calls[K].temps.length
  case pos =>
    obtain ⟨bt, ot, haT, t0, t1⟩ := hcT I hIl
    obtain ⟨⟨tk, tn⟩, htv⟩ : ∃ tv : Int × Int, g.calls[K].temps[I] = tv := ⟨_, rfl⟩
    rw [htv] at t0 t1
    have HTV : Hid (g.calls[K].temps[I] = (tk, tn)) := htv
    have t07 := cell_below B67 t0
    have t17 := cell_below B67 t1
    clear htv t0 t1 hcT
    obtain ⟨⟨c0, c1⟩, cf0, cf1⟩ := two_cells rv7
    go_upto_region 13 with fail
    have hbl : ∀ q, q ≠ bv → ((W7.setCell ⟨bv, 0, none⟩ (.int .i64 tk)).setCell ⟨bv, 1, none⟩ (.int .i64 tn)).heap[q]? = W7.heap[q]? := fun q e => (Below.heap_setCell _ _ _ _ e).trans (Below.heap_setCell _ _ _ _ e)
    have rv8 := two_set1 (two_set0 rv7 (.int .i64 tk)) (.int .i64 tn)
    have rx8 := rx7.of_block (hbl bx (by omega))
    have rg8 := rg7.of_block (hbl bg (by omega))
    have b8 : Below W6.heap.size W6 ((W7.setCell ⟨bv, 0, none⟩ (.int .i64 tk)).setCell ⟨bv, 1, none⟩ (.int .i64 tn)) := (B67.setCell (p := ⟨bv, 0, none⟩) (by show W6.heap.size ≤ bv; omega) _).setCell (p := ⟨bv, 1, none⟩) (by show W6.heap.size ≤ bv; omega) _
    clear hbl rv7 c0 c1 cf0 cf1 rx7 rg7 HX7 HM7 hB7 z7 B67
    clear p27 d07 hab hgnj haT t07 t17 hI
    generalize (W7.setCell ⟨bv, 0, none⟩ (.int .i64 tk)).setCell ⟨bv, 1, none⟩ (.int .i64 tn) = W8 at *
    have rv7 := rv8
    have rx7 := rx8
    have rg7 := rg8
    have HX7 : Hid (HeapAt W8 (.slice a5 R.calls.length k5) (.slice b5 R.said.length l5) R) := HX6.out.below b8
    have HM7 : Hid (MethsAt W8 (.slice aq (List.length qs) cq) qs ∧ HeapAt W8 (.slice ag g.calls.length kg) (.slice aD H.said.length kD) g) := ⟨HM6.out.1.below b8, HM6.out.2.below b8⟩
    have hB7 := hB6.trans (b8.mono z6)
    have z7 := hB7.size
    clear rx8 rg8 rv8
    have HAF : Hid (∀ (W : World) (vk : Value), Below W8.heap.size W8 W → OpsAt W vk [(tk, tn)] → Calls Tryz.prog 22 #[.agg #[.slice ag g.calls.length kg, .int .i64 g.now, .int .i64 g.born, .slice aD H.said.length kD, .int .i64 g.code], vk] W fun e w' => (∃ vc' vs' V', e = .returned (.agg (hpCells vc' vs' R)) ∧ OwnHeap W.heap.size w' vc' vs' R V') ∧ Below W.heap.size W w') := fun W vk hW hk => by
      rw [HRA.out, show lookV (afterH g []) 13 nn K = (tk, tn) from by show ((afterH g []).calls.getD K Cl.none).temps.getD nn.toNat (0, 0) = (tk, tn); rw [HTP.out, HNI.out, Int.toNat_natCast]; rw [List.getD_eq_getElem?_getD, List.getElem?_eq_getElem hIl]; exact HTV.out]
      have hl := HGN.out.1.lens
      exact lmAfter_any _ _ vk g _ j W (HM7.out.2.below hW) hk HGN.out.2.1 hj hpcj (by simp) (by omega) (fun i hi => by have := hl.2 i hi; omega) (by omega)
    refine wp_region_fs [[], [0], [0, 1], [0, 1], [0, 1], [0, 1, 4], [0, 1, 3, 4, 5], [0, 1, 2, 3, 4, 5, 6], [0, 1, 2, 3, 4, 5, 6, 7], [0, 1, 2, 3, 4, 5, 6, 7, 8]] [[0], [1], [2], [3], [4], [5], [6], [7], [8], [9]] [[], [], [], [], [], [], [], [], [], []] [fIs (.bool true), fIs (.bool true), fIs (.agg #[.slice a5 R.calls.length k5, .int .i64 R.now, .int .i64 R.born, .slice b5 R.said.length l5, .int .i64 R.code]), fIs (.agg #[.slice ag g.calls.length kg, .int .i64 g.now, .int .i64 g.born, .slice aD H.said.length kD, .int .i64 g.code]), fIs (.agg #[.int .i64 tk, .int .i64 tn]), fGh 5 (fun (x : Value) l => l = [x]) (fun x w1 => OpsAt w1 x [(tk, tn)]), fAfter 6 R, fIs (.bool true), fIs (.bool true), fIs (.bool true)] 10 rfl (by kernel_rfl) (by kernel_rfl) ?_ ?_
    · refine all_lt_succ (all_lt_succ (all_lt_succ (all_lt_succ (all_lt_succ (all_lt_succ (all_lt_succ (all_lt_succ (all_lt_succ (all_lt_succ (all_lt_zero) ?_) ?_) ?_) ?_) ?_) ?_) ?_) ?_) ?_) ?_
      · intro a w val own hB hf hown hk
        have s13 := hf.at (d := 13) (v := .bool true) (by kernel_rfl) rfl
        exact rf_pure (v := .bool true) hB rfl rfl (by unfold execOp; go_simp) rfl
      · intro a w val own hB hf hown hk
        obtain ⟨k0, f0⟩ := hk 0 (show 0 ∈ [0] by decide)
        have s83 := k0 83 rfl
        rw [fIs_out f0] at s83
        clear k0 f0
        exact rf_pure (v := .bool true) hB rfl rfl (by unfold execOp; go_simp) rfl
      · intro a w val own hB hf hown hk
        obtain ⟨k1, f1⟩ := hk 1 (show 1 ∈ [0, 1] by decide)
        have s84 := k1 84 rfl
        rw [fIs_out f1] at s84
        clear k1 f1
        have s12 := hf.at (d := 12) (v := .pointer (some ⟨bx, 0, none⟩)) (by kernel_rfl) rfl
        obtain ⟨⟨c0, c1, c2, c3, c4⟩, _⟩ := five_cells (row_below hB rx7)
        exact rf_pure (v := .agg #[.slice a5 R.calls.length k5, .int .i64 R.now, .int .i64 R.born, .slice b5 R.said.length l5, .int .i64 R.code]) hB rfl (wanted_g rfl (yielded_of (d := 84) rfl s84)) (by unfold execOp; go_simp) rfl
      · intro a w val own hB hf hown hk
        obtain ⟨k1, f1⟩ := hk 1 (show 1 ∈ [0, 1] by decide)
        have s84 := k1 84 rfl
        rw [fIs_out f1] at s84
        clear k1 f1
        have s10 := hf.at (d := 10) (v := .pointer (some ⟨bg, 0, none⟩)) (by kernel_rfl) rfl
        obtain ⟨⟨c0, c1, c2, c3, c4⟩, _⟩ := five_cells (row_below hB rg7)
        exact rf_pure (v := .agg #[.slice ag g.calls.length kg, .int .i64 g.now, .int .i64 g.born, .slice aD H.said.length kD, .int .i64 g.code]) hB rfl (wanted_g rfl (yielded_of (d := 84) rfl s84)) (by unfold execOp; go_simp) rfl
      · intro a w val own hB hf hown hk
        obtain ⟨k1, f1⟩ := hk 1 (show 1 ∈ [0, 1] by decide)
        have s84 := k1 84 rfl
        rw [fIs_out f1] at s84
        clear k1 f1
        have s14 := hf.at (d := 14) (v := .pointer (some ⟨bv, 0, none⟩)) (by kernel_rfl) rfl
        obtain ⟨⟨c0, c1⟩, _⟩ := two_cells (row_below hB rv7)
        exact rf_pure (v := .agg #[.int .i64 tk, .int .i64 tn]) hB rfl (wanted_g rfl (yielded_of (d := 84) rfl s84)) (by unfold execOp; go_simp) rfl
      · intro a w val own hB hf hown hk
        obtain ⟨k1, f1⟩ := hk 1 (show 1 ∈ [0, 1, 4] by decide)
        have s84 := k1 84 rfl
        rw [fIs_out f1] at s84
        clear k1 f1
        obtain ⟨k4, f4⟩ := hk 4 (show 4 ∈ [0, 1, 4] by decide)
        have s87 := k4 87 rfl
        rw [fIs_out f4] at s87
        clear k4 f4
        exact rf_new (v := .slice (some ⟨w.heap.size, 0, none⟩) 1 1) (w' := w.alloc (.cells #[.int .i64 tk, .int .i64 tn] 37)) hB rfl (wanted_g rfl (yielded_of (d := 84) rfl s84)) (by unfold execOp; go_simp) ((Below.refl _ _).alloc (Nat.le_refl _) _) ⟨_, rfl, Made.new fun w1 _ _ hr => (one_vals w tk (tn) 37 1).of_block (hr _ (Nat.le_refl _) (by simp))⟩
      · intro a w val own hB hf hown hk
        obtain ⟨k1, f1⟩ := hk 1 (show 1 ∈ [0, 1, 3, 4, 5] by decide)
        have s84 := k1 84 rfl
        rw [fIs_out f1] at s84
        clear k1 f1
        obtain ⟨k3, f3⟩ := hk 3 (show 3 ∈ [0, 1, 3, 4, 5] by decide)
        have s86 := k3 86 rfl
        rw [fIs_out f3] at s86
        clear k3 f3
        obtain ⟨k5, x5, e5, m5⟩ := hk 5 (show 5 ∈ [0, 1, 3, 4, 5] by decide)
        have v5 := one_eq e5
        have s88 := k5 88 rfl
        rw [v5] at s88
        clear k5 e5
        exact rf_call hB rfl (wanted_g rfl (yielded_of (d := 84) rfl s84)) (by unfold execOp; go_simp) (after_call hB (HAF.out w x5 hB (m5.here hB)))
      · intro a w val own hB hf hown hk
        obtain ⟨k1, f1⟩ := hk 1 (show 1 ∈ [0, 1, 2, 3, 4, 5, 6] by decide)
        have s84 := k1 84 rfl
        rw [fIs_out f1] at s84
        clear k1 f1
        obtain ⟨k2, f2⟩ := hk 2 (show 2 ∈ [0, 1, 2, 3, 4, 5, 6] by decide)
        have s85 := k2 85 rfl
        rw [fIs_out f2] at s85
        clear k2 f2
        obtain ⟨k6, ⟨aA, kA, bA, lA, VA⟩, e6, o6, m6⟩ := hk 6 (show 6 ∈ [0, 1, 2, 3, 4, 5, 6] by decide)
        have v6 : val 6 = .agg #[.slice aA R.calls.length kA, .int .i64 R.now, .int .i64 R.born, .slice bA R.said.length lA, .int .i64 R.code] := one_eq e6
        have s89 := k6 89 rfl
        rw [v6] at s89
        dsimp only at m6 o6
        clear k6 e6
        exact rf_call hB rfl (wanted_g rfl (yielded_of (d := 84) rfl s84)) (by unfold execOp hpCells; go_simp) ((lmHeap_same R _ _ _ _ w (HX7.out.below hB) (m6.here hB).at).mono fun e w' ⟨he, hb⟩ => ⟨_, he, hb, rfl⟩)
      · intro a w val own hB hf hown hk
        obtain ⟨k1, f1⟩ := hk 1 (show 1 ∈ [0, 1, 2, 3, 4, 5, 6, 7] by decide)
        have s84 := k1 84 rfl
        rw [fIs_out f1] at s84
        clear k1 f1
        obtain ⟨k7, f7⟩ := hk 7 (show 7 ∈ [0, 1, 2, 3, 4, 5, 6, 7] by decide)
        have s90 := k7 90 rfl
        rw [fIs_out f7] at s90
        clear k7 f7
        exact rf_pure (v := .bool true) hB rfl rfl (by unfold execOp; go_simp) rfl
      · intro a w val own hB hf hown hk
        obtain ⟨k8, f8⟩ := hk 8 (show 8 ∈ [0, 1, 2, 3, 4, 5, 6, 7, 8] by decide)
        have s91 := k8 91 rfl
        rw [fIs_out f8] at s91
        clear k8 f8
        exact rf_pure (v := .bool true) hB rfl rfl (by unfold execOp; go_simp) rfl
    intro a w9 val own hB hf hown hk
    obtain ⟨k9, f9⟩ := hk 9 (by decide)
    have s4 := k9 4 rfl
    rw [fIs_out f9] at s4
    obtain ⟨u, hu0, hv⟩ := frame_any a.tmps (n := 92) hf.size
    have hu : a.tmps = (u 0 :: u 1 :: u 2 :: u 3 :: u 4 :: u 5 :: u 6 :: u 7 :: u 8 :: u 9 :: u 10 :: u 11 :: u 12 :: u 13 :: u 14 :: u 15 :: u 16 :: u 17 :: u 18 :: u 19 :: u 20 :: u 21 :: u 22 :: u 23 :: u 24 :: u 25 :: u 26 :: u 27 :: u 28 :: u 29 :: u 30 :: u 31 :: u 32 :: u 33 :: u 34 :: u 35 :: u 36 :: u 37 :: u 38 :: u 39 :: u 40 :: u 41 :: u 42 :: u 43 :: u 44 :: u 45 :: u 46 :: u 47 :: u 48 :: u 49 :: u 50 :: u 51 :: u 52 :: u 53 :: u 54 :: u 55 :: u 56 :: u 57 :: u 58 :: u 59 :: u 60 :: u 61 :: u 62 :: u 63 :: u 64 :: u 65 :: u 66 :: u 67 :: u 68 :: u 69 :: u 70 :: u 71 :: u 72 :: u 73 :: u 74 :: u 75 :: u 76 :: u 77 :: u 78 :: u 79 :: u 80 :: u 81 :: u 82 :: u 83 :: u 84 :: u 85 :: u 86 :: u 87 :: u 88 :: u 89 :: u 90 :: u 91 :: []).toArray := hu0
    rw [(hv 4).trans s4] at hu
    obtain rfl := act_eq hu (show a.defers = [] from hf.defers)
    clear hu hu0 hv hk hown hf
    go_wp2
    go_ret
    exact ⟨rfl, hB7.trans (hB.mono z7)⟩
  case neg =>
    have hIz : ¬ (I : Int) < (g.calls[K].temps.length : Int) := by omega
    go_upto_region 13 with fail
    clear p27 d07 hab hgnj hI hIz hcT
    have HAF : Hid (∀ (W : World) (vk : Value), Below W7.heap.size W7 W → OpsAt W vk [(0, 0)] → Calls Tryz.prog 22 #[.agg #[.slice ag g.calls.length kg, .int .i64 g.now, .int .i64 g.born, .slice aD H.said.length kD, .int .i64 g.code], vk] W fun e w' => (∃ vc' vs' V', e = .returned (.agg (hpCells vc' vs' R)) ∧ OwnHeap W.heap.size w' vc' vs' R V') ∧ Below W.heap.size W w') := fun W vk hW hk => by
      rw [HRA.out, show lookV (afterH g []) 13 nn K = (0, 0) from by show ((afterH g []).calls.getD K Cl.none).temps.getD nn.toNat (0, 0) = (0, 0); rw [HTP.out, HNI.out, Int.toNat_natCast]; rw [List.getD_eq_getElem?_getD, List.getElem?_eq_none (Nat.not_lt.1 hIl)]; rfl]
      have hl := HGN.out.1.lens
      exact lmAfter_any _ _ vk g _ j W (HM7.out.2.below hW) hk HGN.out.2.1 hj hpcj (by simp) (by omega) (fun i hi => by have := hl.2 i hi; omega) (by omega)
    refine wp_region_fs [[], [0], [0, 1], [0, 1], [0, 1], [0, 1, 4], [0, 1, 3, 4, 5], [0, 1, 2, 3, 4, 5, 6], [0, 1, 2, 3, 4, 5, 6, 7], [0, 1, 2, 3, 4, 5, 6, 7, 8]] [[0], [1], [2], [3], [4], [5], [6], [7], [8], [9]] [[], [], [], [], [], [], [], [], [], []] [fIs (.bool true), fIs (.bool true), fIs (.agg #[.slice a5 R.calls.length k5, .int .i64 R.now, .int .i64 R.born, .slice b5 R.said.length l5, .int .i64 R.code]), fIs (.agg #[.slice ag g.calls.length kg, .int .i64 g.now, .int .i64 g.born, .slice aD H.said.length kD, .int .i64 g.code]), fIs (.agg #[.int .i64 0, .int .i64 0]), fGh 5 (fun (x : Value) l => l = [x]) (fun x w1 => OpsAt w1 x [(0, 0)]), fAfter 6 R, fIs (.bool true), fIs (.bool true), fIs (.bool true)] 10 rfl (by kernel_rfl) (by kernel_rfl) ?_ ?_
    · refine all_lt_succ (all_lt_succ (all_lt_succ (all_lt_succ (all_lt_succ (all_lt_succ (all_lt_succ (all_lt_succ (all_lt_succ (all_lt_succ (all_lt_zero) ?_) ?_) ?_) ?_) ?_) ?_) ?_) ?_) ?_) ?_
      · intro a w val own hB hf hown hk
        have s13 := hf.at (d := 13) (v := .bool true) (by kernel_rfl) rfl
        exact rf_pure (v := .bool true) hB rfl rfl (by unfold execOp; go_simp) rfl
      · intro a w val own hB hf hown hk
        obtain ⟨k0, f0⟩ := hk 0 (show 0 ∈ [0] by decide)
        have s83 := k0 83 rfl
        rw [fIs_out f0] at s83
        clear k0 f0
        exact rf_pure (v := .bool true) hB rfl rfl (by unfold execOp; go_simp) rfl
      · intro a w val own hB hf hown hk
        obtain ⟨k1, f1⟩ := hk 1 (show 1 ∈ [0, 1] by decide)
        have s84 := k1 84 rfl
        rw [fIs_out f1] at s84
        clear k1 f1
        have s12 := hf.at (d := 12) (v := .pointer (some ⟨bx, 0, none⟩)) (by kernel_rfl) rfl
        obtain ⟨⟨c0, c1, c2, c3, c4⟩, _⟩ := five_cells (row_below hB rx7)
        exact rf_pure (v := .agg #[.slice a5 R.calls.length k5, .int .i64 R.now, .int .i64 R.born, .slice b5 R.said.length l5, .int .i64 R.code]) hB rfl (wanted_g rfl (yielded_of (d := 84) rfl s84)) (by unfold execOp; go_simp) rfl
      · intro a w val own hB hf hown hk
        obtain ⟨k1, f1⟩ := hk 1 (show 1 ∈ [0, 1] by decide)
        have s84 := k1 84 rfl
        rw [fIs_out f1] at s84
        clear k1 f1
        have s10 := hf.at (d := 10) (v := .pointer (some ⟨bg, 0, none⟩)) (by kernel_rfl) rfl
        obtain ⟨⟨c0, c1, c2, c3, c4⟩, _⟩ := five_cells (row_below hB rg7)
        exact rf_pure (v := .agg #[.slice ag g.calls.length kg, .int .i64 g.now, .int .i64 g.born, .slice aD H.said.length kD, .int .i64 g.code]) hB rfl (wanted_g rfl (yielded_of (d := 84) rfl s84)) (by unfold execOp; go_simp) rfl
      · intro a w val own hB hf hown hk
        obtain ⟨k1, f1⟩ := hk 1 (show 1 ∈ [0, 1] by decide)
        have s84 := k1 84 rfl
        rw [fIs_out f1] at s84
        clear k1 f1
        have s14 := hf.at (d := 14) (v := .pointer (some ⟨bv, 0, none⟩)) (by kernel_rfl) rfl
        obtain ⟨⟨c0, c1⟩, _⟩ := two_cells (row_below hB rv7)
        exact rf_pure (v := .agg #[.int .i64 0, .int .i64 0]) hB rfl (wanted_g rfl (yielded_of (d := 84) rfl s84)) (by unfold execOp; go_simp) rfl
      · intro a w val own hB hf hown hk
        obtain ⟨k1, f1⟩ := hk 1 (show 1 ∈ [0, 1, 4] by decide)
        have s84 := k1 84 rfl
        rw [fIs_out f1] at s84
        clear k1 f1
        obtain ⟨k4, f4⟩ := hk 4 (show 4 ∈ [0, 1, 4] by decide)
        have s87 := k4 87 rfl
        rw [fIs_out f4] at s87
        clear k4 f4
        exact rf_new (v := .slice (some ⟨w.heap.size, 0, none⟩) 1 1) (w' := w.alloc (.cells #[.int .i64 0, .int .i64 0] 37)) hB rfl (wanted_g rfl (yielded_of (d := 84) rfl s84)) (by unfold execOp; go_simp) ((Below.refl _ _).alloc (Nat.le_refl _) _) ⟨_, rfl, Made.new fun w1 _ _ hr => (one_vals w 0 0 37 1).of_block (hr _ (Nat.le_refl _) (by simp))⟩
      · intro a w val own hB hf hown hk
        obtain ⟨k1, f1⟩ := hk 1 (show 1 ∈ [0, 1, 3, 4, 5] by decide)
        have s84 := k1 84 rfl
        rw [fIs_out f1] at s84
        clear k1 f1
        obtain ⟨k3, f3⟩ := hk 3 (show 3 ∈ [0, 1, 3, 4, 5] by decide)
        have s86 := k3 86 rfl
        rw [fIs_out f3] at s86
        clear k3 f3
        obtain ⟨k5, x5, e5, m5⟩ := hk 5 (show 5 ∈ [0, 1, 3, 4, 5] by decide)
        have v5 := one_eq e5
        have s88 := k5 88 rfl
        rw [v5] at s88
        clear k5 e5
        exact rf_call hB rfl (wanted_g rfl (yielded_of (d := 84) rfl s84)) (by unfold execOp; go_simp) (after_call hB (HAF.out w x5 hB (m5.here hB)))
      · intro a w val own hB hf hown hk
        obtain ⟨k1, f1⟩ := hk 1 (show 1 ∈ [0, 1, 2, 3, 4, 5, 6] by decide)
        have s84 := k1 84 rfl
        rw [fIs_out f1] at s84
        clear k1 f1
        obtain ⟨k2, f2⟩ := hk 2 (show 2 ∈ [0, 1, 2, 3, 4, 5, 6] by decide)
        have s85 := k2 85 rfl
        rw [fIs_out f2] at s85
        clear k2 f2
        obtain ⟨k6, ⟨aA, kA, bA, lA, VA⟩, e6, o6, m6⟩ := hk 6 (show 6 ∈ [0, 1, 2, 3, 4, 5, 6] by decide)
        have v6 : val 6 = .agg #[.slice aA R.calls.length kA, .int .i64 R.now, .int .i64 R.born, .slice bA R.said.length lA, .int .i64 R.code] := one_eq e6
        have s89 := k6 89 rfl
        rw [v6] at s89
        dsimp only at m6 o6
        clear k6 e6
        exact rf_call hB rfl (wanted_g rfl (yielded_of (d := 84) rfl s84)) (by unfold execOp hpCells; go_simp) ((lmHeap_same R _ _ _ _ w (HX7.out.below hB) (m6.here hB).at).mono fun e w' ⟨he, hb⟩ => ⟨_, he, hb, rfl⟩)
      · intro a w val own hB hf hown hk
        obtain ⟨k1, f1⟩ := hk 1 (show 1 ∈ [0, 1, 2, 3, 4, 5, 6, 7] by decide)
        have s84 := k1 84 rfl
        rw [fIs_out f1] at s84
        clear k1 f1
        obtain ⟨k7, f7⟩ := hk 7 (show 7 ∈ [0, 1, 2, 3, 4, 5, 6, 7] by decide)
        have s90 := k7 90 rfl
        rw [fIs_out f7] at s90
        clear k7 f7
        exact rf_pure (v := .bool true) hB rfl rfl (by unfold execOp; go_simp) rfl
      · intro a w val own hB hf hown hk
        obtain ⟨k8, f8⟩ := hk 8 (show 8 ∈ [0, 1, 2, 3, 4, 5, 6, 7, 8] by decide)
        have s91 := k8 91 rfl
        rw [fIs_out f8] at s91
        clear k8 f8
        exact rf_pure (v := .bool true) hB rfl rfl (by unfold execOp; go_simp) rfl
    intro a w9 val own hB hf hown hk
    obtain ⟨k9, f9⟩ := hk 9 (by decide)
    have s4 := k9 4 rfl
    rw [fIs_out f9] at s4
    obtain ⟨u, hu0, hv⟩ := frame_any a.tmps (n := 92) hf.size
    have hu : a.tmps = (u 0 :: u 1 :: u 2 :: u 3 :: u 4 :: u 5 :: u 6 :: u 7 :: u 8 :: u 9 :: u 10 :: u 11 :: u 12 :: u 13 :: u 14 :: u 15 :: u 16 :: u 17 :: u 18 :: u 19 :: u 20 :: u 21 :: u 22 :: u 23 :: u 24 :: u 25 :: u 26 :: u 27 :: u 28 :: u 29 :: u 30 :: u 31 :: u 32 :: u 33 :: u 34 :: u 35 :: u 36 :: u 37 :: u 38 :: u 39 :: u 40 :: u 41 :: u 42 :: u 43 :: u 44 :: u 45 :: u 46 :: u 47 :: u 48 :: u 49 :: u 50 :: u 51 :: u 52 :: u 53 :: u 54 :: u 55 :: u 56 :: u 57 :: u 58 :: u 59 :: u 60 :: u 61 :: u 62 :: u 63 :: u 64 :: u 65 :: u 66 :: u 67 :: u 68 :: u 69 :: u 70 :: u 71 :: u 72 :: u 73 :: u 74 :: u 75 :: u 76 :: u 77 :: u 78 :: u 79 :: u 80 :: u 81 :: u 82 :: u 83 :: u 84 :: u 85 :: u 86 :: u 87 :: u 88 :: u 89 :: u 90 :: u 91 :: []).toArray := hu0
    rw [(hv 4).trans s4] at hu
    obtain rfl := act_eq hu (show a.defers = [] from hf.defers)
    clear hu hu0 hv hk hown hf
    go_wp2
    go_ret
    exact ⟨rfl, hB7.trans (hB.mono z7)⟩
end Go.Proofs.YtoaalcijdcmboabGreatDoor
