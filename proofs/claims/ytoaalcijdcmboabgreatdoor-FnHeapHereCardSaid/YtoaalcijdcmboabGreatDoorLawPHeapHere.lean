/-
  The law FnHeapHere, walked: whatever bytes come in, it answers true and writes to nothing that was there, where the table opForms lies as its text lays it.
-/
import Derived.Test.YtoaalcijdcmboabGreatDoorDrawHeap
import Derived.Test.YtoaalcijdcmboabGreatDoorHStep
import Derived.Test.YtoaalcijdcmboabGreatDoorHSame
import Derived.Lib.MinMax

namespace Go.Proofs.YtoaalcijdcmboabGreatDoor
open Go.RowKit
set_option maxRecDepth 100000 in
set_option maxHeartbeats 4000000 in
theorem lawHeapHere_any (w : World) (a : Option Addr) (len cap : Nat) (h : BytesAt w a len cap) (hT : TabAt w) :
    Calls Tryz.prog 9 #[.slice a len cap] w fun e w' => e = .returned (.bool true) ∧ Below w.heap.size w w' := by
  have hc := h.1
  have hm := h.2.1
  unfold maxLen at hm
  have HB : Hid (BytesAt w a len cap) := h
  have HT : Hid (TabAt w) := hT
  clear h hT
  by_cases hl : 1048576 < len
  · have hlz : (1048576 : Int) < (len : Int) := by omega
    go_enter Tryz.func9, Tryz.ntmps9
    go_wp2
    go_ret
    exact ⟨rfl, Below.refl _ _⟩
  have hlz : (len : Int) ≤ 1048576 := by omega
  go_enter Tryz.func9, Tryz.ntmps9
  go_wp2_with fail
  refine (drawHeapStep_any _ a len cap HB.out).mono ?_
  rintro e w1 ⟨v, vc, vs, ms, H, rfl, hD, hB1⟩
  obtain ⟨hM1, hH1⟩ := hD.st.here
  have l30 := hD.fine.l30
  have sd100 := hD.fine.sd
  have HPO : Hid (progOk ms = true) := hD.ok
  clear hD
  obtain ⟨aV, cV, hvV, _⟩ := id hM1
  obtain ⟨ac, kc, hvc⟩ := hH1.c.shape
  obtain ⟨aD, kD, hvs⟩ := hH1.s.shape
  subst hvV hvc hvs
  have z1 := hB1.size
  clear HB
  unfold hpCells
  go_upto_region 4 with fail
  have N2 : Below w1.heap.size w1 ((w1.alloc (.cells #[.slice aV ms.length cV] 25)).alloc (.cells #[.slice ac H.calls.length kc, .int .i64 H.now, .int .i64 H.born, .slice aD H.said.length kD, .int .i64 H.code] 29)) := ((Below.refl _ _).alloc (Nat.le_refl _) _).alloc (by simp) _
  have rp := (pbox_new w1 (.slice aV ms.length cV)).alloc (.cells #[.slice ac H.calls.length kc, .int .i64 H.now, .int .i64 H.born, .slice aD H.said.length kD, .int .i64 H.code] 29)
  have rh := five_new (w1.alloc (.cells #[.slice aV ms.length cV] 25)) 29 (.slice ac H.calls.length kc) (.int .i64 H.now) (.int .i64 H.born) (.slice aD H.said.length kD) (.int .i64 H.code)
  simp only [World.size_alloc] at rh
  generalize (w1.alloc (.cells #[.slice aV ms.length cV] 25)).alloc (.cells #[.slice ac H.calls.length kc, .int .i64 H.now, .int .i64 H.born, .slice aD H.said.length kD, .int .i64 H.code] 29) = W2 at *
  have hB2 := hB1.trans (N2.mono z1)
  have z2 := hB2.size
  have HMH : Hid (MethsAt W2 (.slice aV ms.length cV) ms ∧ HeapAt W2 (.slice ac H.calls.length kc) (.slice aD H.said.length kD) H ∧ TabAt W2) := ⟨hM1.below N2, hH1.below N2, HT.out.below hB2⟩
  clear hM1 hH1 hB1 N2 HT
  obtain ⟨⟨d0, d1, d2, d3, d4⟩, _⟩ := five_cells rh
  have dp := rp.cell (i := 0) (by decide)
  have hl1000 : H.calls.length ≤ 1000 := by omega
  refine wp_region_fs [[], [], [], [], [3], [0, 1, 2, 3, 4], [0, 1, 2, 3, 4, 5], [0, 1, 2, 3, 4, 5, 6], [0, 1, 2, 3, 4, 5, 6], [0, 1, 2, 3, 4, 5, 6], [], [], [0, 1, 2, 3, 4, 5, 6, 7, 10, 11], [0, 1, 2, 3, 4, 5, 6, 7, 8, 10, 11, 12], [0, 1, 2, 3, 4, 5, 6, 7, 8, 9, 10, 11, 12, 13]] [[0], [1], [2], [3], [4], [5], [6, 5], [7, 6], [8, 6], [9, 6], [10], [11], [10, 7], [11, 8], [14, 9]] [[], [], [], [], [], [], [], [], [], [], [], [], [10], [11], []] [fIs (.agg #[.slice aV ms.length cV]), fIs (.agg #[.slice ac H.calls.length kc, .int .i64 H.now, .int .i64 H.born, .slice aD H.said.length kD, .int .i64 H.code]), fIs (.agg #[.int .i64 11, .int .i64 0]), fIs (.agg #[.int .i64 1, .int .i64 7]), fGh 4 (fun (x : Value) l => l = [x]) (fun x w1 => OpsAt w1 x [(1, 7)]), fWith 5 ms H 11 0 [(1, 7)] (.slice aD H.said.length kD), fOf fun l => l.getD 0 undef = l.getD 1 undef, fOf fun l => l.getD 0 undef = tget (l.getD 1 undef) 0, fOf fun l => l.getD 0 undef = tget (l.getD 1 undef) 1, fOf fun l => l.getD 0 undef = tget (l.getD 1 undef) 2, fBox 10 25 1, fBox 11 29 5, fRow 10 25 1 fun b f l => l.getD 0 undef = .pointer (some ⟨b, 0, none⟩) ∧ f = fun q => (l.getD 1 undef).cells.toList.getD q undef, fRow 11 29 5 fun b f l => l.getD 0 undef = .pointer (some ⟨b, 0, none⟩) ∧ f = fun q => (l.getD 1 undef).cells.toList.getD q undef, fOf fun l => l.getD 0 undef = l.getD 1 undef] 15 rfl (by kernel_rfl) (by kernel_rfl) ?_ ?_
  · refine all_lt_succ (all_lt_succ (all_lt_succ (all_lt_succ (all_lt_succ (all_lt_succ (all_lt_succ (all_lt_succ (all_lt_succ (all_lt_succ (all_lt_succ (all_lt_succ (all_lt_succ (all_lt_succ (all_lt_succ (all_lt_zero) ?_) ?_) ?_) ?_) ?_) ?_) ?_) ?_) ?_) ?_) ?_) ?_) ?_) ?_) ?_
    · intro a w val own hB hf hown hk
      have s3 := hf.at (d := 3) (v := .pointer (some ⟨w1.heap.size, 0, none⟩)) (by kernel_rfl) rfl
      have c0 := cell_below hB dp
      exact rf_pure (v := .agg #[.slice aV ms.length cV]) hB rfl rfl (by unfold execOp; go_simp) rfl
    · intro a w val own hB hf hown hk
      have s4 := hf.at (d := 4) (v := .pointer (some ⟨w1.heap.size + 1, 0, none⟩)) (by kernel_rfl) rfl
      obtain ⟨c0, c1, c2, c3, c4⟩ : _ ∧ _ ∧ _ ∧ _ ∧ _ := ⟨cell_below hB d0, cell_below hB d1, cell_below hB d2, cell_below hB d3, cell_below hB d4⟩
      exact rf_pure (v := .agg #[.slice ac H.calls.length kc, .int .i64 H.now, .int .i64 H.born, .slice aD H.said.length kD, .int .i64 H.code]) hB rfl rfl (by unfold execOp; go_simp) rfl
    · intro a w val own hB hf hown hk
      exact rf_pure (v := .agg #[.int .i64 11, .int .i64 0]) hB rfl rfl (by unfold execOp; go_simp) rfl
    · intro a w val own hB hf hown hk
      exact rf_call hB rfl rfl (by unfold execOp; go_simp) ((lmNum_any 7 w).mono fun e w' ⟨he, hb⟩ => ⟨_, he, hb, rfl⟩)
    · intro a w val own hB hf hown hk
      obtain ⟨k3, f3⟩ := hk 3 (show 3 ∈ [3] by decide)
      have s22 := k3 22 rfl
      rw [fIs_out f3] at s22
      clear k3 f3
      exact rf_new (v := .slice (some ⟨w.heap.size, 0, none⟩) 1 1) (w' := w.alloc (.cells #[.int .i64 1, .int .i64 7] 37)) hB rfl rfl (by unfold execOp; go_simp) ((Below.refl _ _).alloc (Nat.le_refl _) _) ⟨_, rfl, Made.new fun w1 _ _ hr => (one_vals w 1 7 37 1).of_block (hr _ (Nat.le_refl _) (by simp))⟩
    · intro a w val own hB hf hown hk
      obtain ⟨k0, f0⟩ := hk 0 (show 0 ∈ [0, 1, 2, 3, 4] by decide)
      have s19 := k0 19 rfl
      rw [fIs_out f0] at s19
      clear k0 f0
      obtain ⟨k1, f1⟩ := hk 1 (show 1 ∈ [0, 1, 2, 3, 4] by decide)
      have s20 := k1 20 rfl
      rw [fIs_out f1] at s20
      clear k1 f1
      obtain ⟨k2, f2⟩ := hk 2 (show 2 ∈ [0, 1, 2, 3, 4] by decide)
      have s21 := k2 21 rfl
      rw [fIs_out f2] at s21
      clear k2 f2
      obtain ⟨k4, x4, e4, m4⟩ := hk 4 (show 4 ∈ [0, 1, 2, 3, 4] by decide)
      have v4 := one_eq e4
      have s23 := k4 23 rfl
      rw [v4] at s23
      clear k4 e4
      exact rf_call hB rfl rfl (by unfold execOp hpCells; go_simp) (with_call (x := 0) (vc := .slice ac H.calls.length kc) HMH.out.1 HMH.out.2.1 hB (m4.here hB) hl1000 HPO.out (by simp))
    · intro a w val own hB hf hown hk
      have s24 := (hk 5 (show 5 ∈ [0, 1, 2, 3, 4, 5] by decide)).1 24 rfl
      exact rf_pure (v := val 5) hB rfl rfl (by unfold execOp; go_simp) rfl
    · intro a w val own hB hf hown hk
      obtain ⟨k5, ⟨aq, cq, ag, kg, qs, g, ok⟩, ⟨e5, hX⟩, mX⟩ := hk 5 (show 5 ∈ [0, 1, 2, 3, 4, 5, 6] by decide)
      have v5 := one_eq e5
      have s24 := k5 24 rfl
      unfold WG.val at v5
      dsimp only at v5 hX mX
      rw [v5] at s24
      clear k5 e5
      obtain ⟨k6, f6⟩ := hk 6 (show 6 ∈ [0, 1, 2, 3, 4, 5, 6] by decide)
      have v6 : val 6 = _ := Eq.trans f6 v5
      have s18 := k6 18 rfl
      rw [v6] at s18
      clear k6 f6
      exact rf_pure (v := .agg #[.slice aq qs.length cq]) hB rfl rfl (by unfold execOp; go_simp) (by show _ = tget (val 6) 0; rw [v6]; rfl)
    · intro a w val own hB hf hown hk
      obtain ⟨k5, ⟨aq, cq, ag, kg, qs, g, ok⟩, ⟨e5, hX⟩, mX⟩ := hk 5 (show 5 ∈ [0, 1, 2, 3, 4, 5, 6] by decide)
      have v5 := one_eq e5
      have s24 := k5 24 rfl
      unfold WG.val at v5
      dsimp only at v5 hX mX
      rw [v5] at s24
      clear k5 e5
      obtain ⟨k6, f6⟩ := hk 6 (show 6 ∈ [0, 1, 2, 3, 4, 5, 6] by decide)
      have v6 : val 6 = _ := Eq.trans f6 v5
      have s18 := k6 18 rfl
      rw [v6] at s18
      clear k6 f6
      exact rf_pure (v := .agg #[.slice ag g.calls.length kg, .int .i64 g.now, .int .i64 g.born, .slice aD H.said.length kD, .int .i64 g.code]) hB rfl rfl (by unfold execOp; go_simp) (by show _ = tget (val 6) 1; rw [v6]; rfl)
    · intro a w val own hB hf hown hk
      obtain ⟨k5, ⟨aq, cq, ag, kg, qs, g, ok⟩, ⟨e5, hX⟩, mX⟩ := hk 5 (show 5 ∈ [0, 1, 2, 3, 4, 5, 6] by decide)
      have v5 := one_eq e5
      have s24 := k5 24 rfl
      unfold WG.val at v5
      dsimp only at v5 hX mX
      rw [v5] at s24
      clear k5 e5
      obtain ⟨k6, f6⟩ := hk 6 (show 6 ∈ [0, 1, 2, 3, 4, 5, 6] by decide)
      have v6 : val 6 = _ := Eq.trans f6 v5
      have s18 := k6 18 rfl
      rw [v6] at s18
      clear k6 f6
      exact rf_pure (v := .bool ok) hB rfl rfl (by unfold execOp; go_simp) (by show _ = tget (val 6) 2; rw [v6]; rfl)
    · intro a w val own hB hf hown hk
      exact rf_new (v := .pointer (some ⟨w.heap.size, 0, none⟩)) (w' := w.alloc (.cells #[.slice none 0 0] 25)) hB rfl rfl (by unfold execOp; go_simp) ((Below.refl _ _).alloc (Nat.le_refl _) _) (fBox_new hB #[.slice none 0 0])
    · intro a w val own hB hf hown hk
      exact rf_new (v := .pointer (some ⟨w.heap.size, 0, none⟩)) (w' := w.alloc (.cells #[.slice none 0 0, .int .i64 0, .int .i64 0, .slice none 0 0, .int .i64 0] 29)) hB rfl rfl (by unfold execOp; go_simp) ((Below.refl _ _).alloc (Nat.le_refl _) _) (fBox_new hB #[.slice none 0 0, .int .i64 0, .int .i64 0, .slice none 0 0, .int .i64 0])
    · intro a w val own hB hf hown hk
      obtain ⟨k10, bo10, g10, e10, ho10, hW10, r10⟩ := hk 10 (show 10 ∈ [0, 1, 2, 3, 4, 5, 6, 7, 10, 11] by decide)
      have v10 := one_eq e10
      have s5 := k10 5 rfl
      rw [v10] at s5
      clear k10 e10
      obtain ⟨k5, ⟨aq, cq, ag, kg, qs, g, ok⟩, ⟨e5, hX⟩, mX⟩ := hk 5 (show 5 ∈ [0, 1, 2, 3, 4, 5, 6, 7, 10, 11] by decide)
      have v5 := one_eq e5
      have s24 := k5 24 rfl
      unfold WG.val at v5
      dsimp only at v5 hX mX
      rw [v5] at s24
      clear k5 e5
      obtain ⟨k6, f6⟩ := hk 6 (show 6 ∈ [0, 1, 2, 3, 4, 5, 6, 7, 10, 11] by decide)
      have v6 : val 6 = _ := Eq.trans f6 v5
      have s18 := k6 18 rfl
      rw [v6] at s18
      clear k6 f6
      obtain ⟨k7, f7⟩ := hk 7 (show 7 ∈ [0, 1, 2, 3, 4, 5, 6, 7, 10, 11] by decide)
      have v7 : val 7 = .agg #[.slice aq qs.length cq] := by have e : val 7 = tget (val 6) 0 := f7; rw [e, v6]; rfl
      have s25 := k7 25 rfl
      rw [v7] at s25
      clear k7 f7
      have c0 := r10.cell (i := 0) (by decide)
      have z0 := r10.frozen 0
      exact rf_set (w' := setAll w bo10 0 [.slice aq qs.length cq]) rfl rfl (by unfold execOp; simp only [setAll]; go_simp) (setAll_does (show own bo10 ∈ [10] by rw [ho10]; decide) hW10 _ 0 hB) (fRow_set [.slice aq qs.length cq] r10 ho10 hW10 rfl ⟨v10, by show _ = fun q => (val 7).cells.toList.getD q undef; rw [v7]; rfl⟩)
    · intro a w val own hB hf hown hk
      obtain ⟨k11, bo11, g11, e11, ho11, hW11, r11⟩ := hk 11 (show 11 ∈ [0, 1, 2, 3, 4, 5, 6, 7, 8, 10, 11, 12] by decide)
      have v11 := one_eq e11
      have s6 := k11 6 rfl
      rw [v11] at s6
      clear k11 e11
      obtain ⟨k5, ⟨aq, cq, ag, kg, qs, g, ok⟩, ⟨e5, hX⟩, mX⟩ := hk 5 (show 5 ∈ [0, 1, 2, 3, 4, 5, 6, 7, 8, 10, 11, 12] by decide)
      have v5 := one_eq e5
      have s24 := k5 24 rfl
      unfold WG.val at v5
      dsimp only at v5 hX mX
      rw [v5] at s24
      clear k5 e5
      obtain ⟨k6, f6⟩ := hk 6 (show 6 ∈ [0, 1, 2, 3, 4, 5, 6, 7, 8, 10, 11, 12] by decide)
      have v6 : val 6 = _ := Eq.trans f6 v5
      have s18 := k6 18 rfl
      rw [v6] at s18
      clear k6 f6
      obtain ⟨k8, f8⟩ := hk 8 (show 8 ∈ [0, 1, 2, 3, 4, 5, 6, 7, 8, 10, 11, 12] by decide)
      have v8 : val 8 = .agg #[.slice ag g.calls.length kg, .int .i64 g.now, .int .i64 g.born, .slice aD H.said.length kD, .int .i64 g.code] := by have e : val 8 = tget (val 6) 1 := f8; rw [e, v6]; rfl
      have s26 := k8 26 rfl
      rw [v8] at s26
      clear k8 f8
      have c0 := r11.cell (i := 0) (by decide)
      have c1 := r11.cell (i := 1) (by decide)
      have c2 := r11.cell (i := 2) (by decide)
      have c3 := r11.cell (i := 3) (by decide)
      have c4 := r11.cell (i := 4) (by decide)
      have z0 := r11.frozen 0
      have z1 := r11.frozen 1
      have z2 := r11.frozen 2
      have z3 := r11.frozen 3
      have z4 := r11.frozen 4
      exact rf_set (w' := setAll w bo11 0 [.slice ag g.calls.length kg, .int .i64 g.now, .int .i64 g.born, .slice aD H.said.length kD, .int .i64 g.code]) rfl rfl (by unfold execOp; simp only [setAll]; go_simp) (setAll_does (show own bo11 ∈ [11] by rw [ho11]; decide) hW11 _ 0 hB) (fRow_set [.slice ag g.calls.length kg, .int .i64 g.now, .int .i64 g.born, .slice aD H.said.length kD, .int .i64 g.code] r11 ho11 hW11 rfl ⟨v11, by show _ = fun q => (val 8).cells.toList.getD q undef; rw [v8]; rfl⟩)
    · intro a w val own hB hf hown hk
      have s27 := (hk 9 (show 9 ∈ [0, 1, 2, 3, 4, 5, 6, 7, 8, 9, 10, 11, 12, 13] by decide)).1 27 rfl
      exact rf_pure (v := val 9) hB rfl rfl (by unfold execOp; go_simp) rfl
  intro a w3 val own hB hf hown hk
  obtain ⟨k10, bo10, g10, e10, ho10, hW10, r10⟩ := hk 10 (by decide)
  have v10 := one_eq e10
  have s5 := k10 5 rfl
  rw [v10] at s5
  clear k10 e10
  obtain ⟨k5, ⟨aq, cq, ag, kg, qs, g, ok⟩, ⟨e5, hX⟩, mX⟩ := hk 5 (by decide)
  have v5 := one_eq e5
  have s24 := k5 24 rfl
  unfold WG.val at v5
  dsimp only at v5 hX mX
  rw [v5] at s24
  clear k5 e5
  obtain ⟨k6, f6⟩ := hk 6 (by decide)
  have v6 : val 6 = _ := Eq.trans f6 v5
  have s18 := k6 18 rfl
  rw [v6] at s18
  clear k6 f6
  obtain ⟨k7, f7⟩ := hk 7 (by decide)
  have v7 : val 7 = .agg #[.slice aq qs.length cq] := by have e : val 7 = tget (val 6) 0 := f7; rw [e, v6]; rfl
  have s25 := k7 25 rfl
  rw [v7] at s25
  clear k7 f7
  obtain ⟨_, bo12, g12, ⟨e12, hg12⟩, _, _, r12⟩ := hk 12 (by decide)
  have q12 : bo12 = bo10 := by have e : val 10 = _ := e12; rw [v10] at e; injection e with e; injection e with e; injection e with e; exact e.symm
  subst q12
  have hg12 : g12 = fun q => (val 7).cells.toList.getD q undef := hg12
  rw [v7] at hg12
  subst hg12
  have r12 : w3.rowIs bo12 _ _ (fun q => [.slice aq qs.length cq].getD q undef) := r12
  clear e12
  obtain ⟨k11, bo11, g11, e11, ho11, hW11, r11⟩ := hk 11 (by decide)
  have v11 := one_eq e11
  have s6 := k11 6 rfl
  rw [v11] at s6
  clear k11 e11
  obtain ⟨k8, f8⟩ := hk 8 (by decide)
  have v8 : val 8 = .agg #[.slice ag g.calls.length kg, .int .i64 g.now, .int .i64 g.born, .slice aD H.said.length kD, .int .i64 g.code] := by have e : val 8 = tget (val 6) 1 := f8; rw [e, v6]; rfl
  have s26 := k8 26 rfl
  rw [v8] at s26
  clear k8 f8
  obtain ⟨_, bo13, g13, ⟨e13, hg13⟩, _, _, r13⟩ := hk 13 (by decide)
  have q13 : bo13 = bo11 := by have e : val 11 = _ := e13; rw [v11] at e; injection e with e; injection e with e; injection e with e; exact e.symm
  subst q13
  have hg13 : g13 = fun q => (val 8).cells.toList.getD q undef := hg13
  rw [v8] at hg13
  subst hg13
  have r13 : w3.rowIs bo13 _ _ (fun q => [.slice ag g.calls.length kg, .int .i64 g.now, .int .i64 g.born, .slice aD H.said.length kD, .int .i64 g.code].getD q undef) := r13
  clear e13
  obtain ⟨k9, f9⟩ := hk 9 (by decide)
  have v9 : val 9 = .bool ok := by have e : val 9 = tget (val 6) 2 := f9; rw [e, v6]; rfl
  have s27 := k9 27 rfl
  rw [v9] at s27
  clear k9 f9
  obtain ⟨k14, f14⟩ := hk 14 (by decide)
  have v14 : val 14 = _ := Eq.trans f14 v9
  have s7 := k14 7 rfl
  rw [v14] at s7
  clear k14 f14
  have s3 := hf.at (d := 3) (v := .pointer (some ⟨w1.heap.size, 0, none⟩)) (by kernel_rfl) rfl
  have s4 := hf.at (d := 4) (v := .pointer (some ⟨w1.heap.size + 1, 0, none⟩)) (by kernel_rfl) rfl
  obtain ⟨u, hu0, hv⟩ := frame_any a.tmps (n := 53) hf.size
  have hu : a.tmps = (u 0 :: u 1 :: u 2 :: u 3 :: u 4 :: u 5 :: u 6 :: u 7 :: u 8 :: u 9 :: u 10 :: u 11 :: u 12 :: u 13 :: u 14 :: u 15 :: u 16 :: u 17 :: u 18 :: u 19 :: u 20 :: u 21 :: u 22 :: u 23 :: u 24 :: u 25 :: u 26 :: u 27 :: u 28 :: u 29 :: u 30 :: u 31 :: u 32 :: u 33 :: u 34 :: u 35 :: u 36 :: u 37 :: u 38 :: u 39 :: u 40 :: u 41 :: u 42 :: u 43 :: u 44 :: u 45 :: u 46 :: u 47 :: u 48 :: u 49 :: u 50 :: u 51 :: u 52 :: []).toArray := hu0
  rw [(hv 3).trans s3, (hv 4).trans s4, (hv 5).trans s5, (hv 6).trans s6, (hv 7).trans s7] at hu
  obtain rfl := act_eq hu (show a.defers = [] from hf.defers)
  obtain ⟨hM3, hH3⟩ := mX.here hB
  have rq := row_one r12
  have rg := row_five r13
  have hB3 := hB
  clear hu hu0 hv hk hown hf mX hB s3 s4 s5 s6 s7
  generalize bo12 = bq at *
  generalize bo13 = bg at *
  clear d0 d1 d2 d3 d4 dp rp rh
  have z3 := hB3.size
  have hlg : g.calls.length ≤ 1000 := by have := hX.l; omega
  have hsg : g.said.length ≤ 800000 := by rw [hX.s]; omega
  have hT3 := HMH.out.2.2.below hB3
  have HI := implHeapStep_any _ _ _ qs g w3 hM3 hT3 hH3 hlg hsg
  have HMX : Hid (MethsAt w3 (.slice aq (List.length qs) cq) qs ∧ HeapAt w3 (.slice ag g.calls.length kg) (.slice aD H.said.length kD) g ∧ WithOk ms H 11 0 [(1, 7)] qs g ok) := ⟨hM3, hH3, hX⟩
  have HRE : Hid (ok = true → heapOk qs g = true ∧ hRun qs g 1 = afterH g [(1, 7), (2, g.now)] ∧ Good qs g ∧ ∃ j : Nat, g.now = (j : Int) ∧ ∃ hj : j < g.calls.length, 0 ≤ g.calls[j].pc ∧ g.calls[j].pc ≤ 1000) := fun e => by
    subst e
    obtain ⟨_, _, _, ho⟩ := hX.yes rfl
    have hA := with_at hX
    obtain ⟨hg, hc, hr, hs, j, m, pc, hj, hm, hpl, hn, hcur, hst, hme, hpc, hop⟩ := hA
    refine ⟨ho, ?_, hg, j, hn, hj, ?_⟩
    · have e := with_step hX (t := 0) (l := 1) rfl (by decide) rfl; rw [e]; exact after_push hn hj _ _
    · have := (hg.cl j hj).pc
      have hp := hg.head.p
      unfold progOk at hp
      simp only [Bool.and_eq_true] at hp
      have ha := List.all_eq_true.1 hp.2 _ (List.getElem_mem hm)
      unfold methOk at ha
      simp only [Bool.and_eq_true, decide_eq_true_eq] at ha
      have h14 := ha.1.2
      rw [hpc]
      omega
  clear hM3 hH3 hX hT3
  generalize hRun qs g 1 = R at *
  obtain ⟨fb, hfb⟩ : ∃ fb, heapOk qs g = fb := ⟨_, rfl⟩
  rw [hfb] at HI
  have HFB : Hid (heapOk qs g = fb) := hfb
  clear hfb
  unfold hpCells at HI
  obtain ⟨⟨d0, d1, d2, d3, d4⟩, _⟩ := five_cells rg
  have dp := rq.cell (i := 0) (by decide)
  go_wp2_with fail
  refine HI.mono ?_
  rintro e w5 ⟨⟨vc5, vs5, V5, rfl, hO5⟩, hb5⟩
  obtain ⟨a5, k5, hv5⟩ := hO5.at.c.shape
  obtain ⟨b5, l5, hs5⟩ := hO5.at.s.shape
  subst hv5 hs5
  have z5 := hb5.size
  have rq5 := row_below hb5 rq
  have rg5 := row_below hb5 rg
  clear HI d0 d1 d2 d3 d4 dp rq rg
  go_upto_region 6 with fail
  have N6 : Below w5.heap.size w5 (w5.alloc (.cells #[.slice a5 R.calls.length k5, .int .i64 R.now, .int .i64 R.born, .slice b5 R.said.length l5, .int .i64 R.code] 29)) := (Below.refl _ _).alloc (Nat.le_refl _) _
  have rx6 := five_new w5 29 (.slice a5 R.calls.length k5) (.int .i64 R.now) (.int .i64 R.born) (.slice b5 R.said.length l5) (.int .i64 R.code)
  have rq6 := row_below N6 rq5
  have rg6 := row_below N6 rg5
  have b6 := hb5.trans (N6.mono z5)
  have HX6 : Hid (HeapAt (w5.alloc (.cells #[.slice a5 R.calls.length k5, .int .i64 R.now, .int .i64 R.born, .slice b5 R.said.length l5, .int .i64 R.code] 29)) (.slice a5 R.calls.length k5) (.slice b5 R.said.length l5) R) := hO5.at.below N6
  have HXO : Hid (OwnHeap w3.heap.size (w5.alloc (.cells #[.slice a5 R.calls.length k5, .int .i64 R.now, .int .i64 R.born, .slice b5 R.said.length l5, .int .i64 R.code] 29)) (.slice a5 R.calls.length k5) (.slice b5 R.said.length l5) R V5) := hO5.below N6
  clear hO5 rq5 rg5 N6
  generalize w5.alloc (.cells #[.slice a5 R.calls.length k5, .int .i64 R.now, .int .i64 R.born, .slice b5 R.said.length l5, .int .i64 R.code] 29) = W6 at *
  generalize w5.heap.size = bx at *
  have HM6 : Hid (MethsAt W6 (.slice aq (List.length qs) cq) qs ∧ HeapAt W6 (.slice ag g.calls.length kg) (.slice aD H.said.length kD) g) := ⟨HMX.out.1.below b6, HMX.out.2.1.below b6⟩
  have hB6 := (hB2.trans (hB3.mono z2)).trans (b6.mono (by have := hB2.size; omega))
  have z6 := hB6.size
  cases ok
  · have HOK := specHeapOk_any _ _ _ qs g W6 HM6.out.1 HM6.out.2 (by omega)
    rw [HFB.out] at HOK
    unfold hpCells at HOK
    obtain ⟨⟨d0, d1, d2, d3, d4⟩, _⟩ := five_cells rg6
    have dp := rq6.cell (i := 0) (by decide)
    go_wp2_with fail
    refine HOK.mono ?_
    rintro e w7 ⟨rfl, hb7⟩
    go_wp2
    go_ret
    exact ⟨ret_bool (by cases fb <;> rfl), hB6.trans (hb7.mono z6)⟩
  obtain ⟨hfb, hRE, hgd, j, hnj, hj, hpcj⟩ := HRE.out rfl
  have hfb2 : fb = true := by rw [← HFB.out]; exact hfb
  subst hfb2
  have HRA : Hid (R = afterH g [(1, 7), (2, g.now)]) := hRE
  have HGN : Hid (Good qs g ∧ g.now = (j : Int) ∧ j < g.calls.length) := ⟨hgd, hnj, hj⟩
  clear hRE HRE hfb hnj hgd
  have HAF : Hid (∀ (W : World) (vk : Value), Below W6.heap.size W6 W → OpsAt W vk [(1, 7), (2, g.now)] → Calls Tryz.prog 22 #[.agg #[.slice ag g.calls.length kg, .int .i64 g.now, .int .i64 g.born, .slice aD H.said.length kD, .int .i64 g.code], vk] W fun e w' => (∃ vc' vs' V', e = .returned (.agg (hpCells vc' vs' R)) ∧ OwnHeap W.heap.size w' vc' vs' R V') ∧ Below W.heap.size W w') := fun W vk hW hk => by
    rw [HRA.out]
    have hl := HGN.out.1.lens
    exact lmAfter_any _ _ vk g _ j W (HM6.out.2.below hW) hk HGN.out.2.1 hj hpcj (by simp) (by omega) (fun i hi => by have := hl.2 i hi; omega) (by omega)
  go_wp2_with fail
  refine wp_region_fs [[], [0], [0, 1], [0, 1], [0, 1], [0, 1], [0, 1, 5], [0, 1, 4, 5, 6], [0, 1, 4, 5, 6, 7], [0, 1, 3, 4, 5, 6, 7, 8], [0, 1, 2, 3, 4, 5, 6, 7, 8, 9], [0, 1, 2, 3, 4, 5, 6, 7, 8, 9, 10], [0, 1, 2, 3, 4, 5, 6, 7, 8, 9, 10, 11]] [[0], [1], [2], [3], [4], [5], [6], [7], [8], [9], [10], [11], [12]] [[], [], [], [], [], [], [], [], [], [], [], [], []] [fIs (.bool true), fIs (.bool true), fIs (.agg #[.slice a5 R.calls.length k5, .int .i64 R.now, .int .i64 R.born, .slice b5 R.said.length l5, .int .i64 R.code]), fIs (.agg #[.slice ag g.calls.length kg, .int .i64 g.now, .int .i64 g.born, .slice aD H.said.length kD, .int .i64 g.code]), fIs (.agg #[.int .i64 1, .int .i64 7]), fIs (.pointer (some ⟨bg, 1, none⟩)), fIs (.int .i64 g.now), fIs (.agg #[.int .i64 2, .int .i64 g.now]), fGh 8 (fun (x : Value) l => l = [x]) (fun x w1 => OpsAt w1 x [(1, 7), (2, g.now)]), fAfter 9 R, fIs (.bool true), fIs (.bool true), fIs (.bool true)] 13 rfl (by kernel_rfl) (by kernel_rfl) ?_ ?_
  · refine all_lt_succ (all_lt_succ (all_lt_succ (all_lt_succ (all_lt_succ (all_lt_succ (all_lt_succ (all_lt_succ (all_lt_succ (all_lt_succ (all_lt_succ (all_lt_succ (all_lt_succ (all_lt_zero) ?_) ?_) ?_) ?_) ?_) ?_) ?_) ?_) ?_) ?_) ?_) ?_) ?_
    · intro a w val own hB hf hown hk
      have s9 := hf.at (d := 9) (v := .bool true) (by kernel_rfl) rfl
      exact rf_pure (v := .bool true) hB rfl rfl (by unfold execOp; go_simp) rfl
    · intro a w val own hB hf hown hk
      obtain ⟨k0, f0⟩ := hk 0 (show 0 ∈ [0] by decide)
      have s41 := k0 41 rfl
      rw [fIs_out f0] at s41
      clear k0 f0
      exact rf_pure (v := .bool true) hB rfl rfl (by unfold execOp; go_simp) rfl
    · intro a w val own hB hf hown hk
      obtain ⟨k1, f1⟩ := hk 1 (show 1 ∈ [0, 1] by decide)
      have s42 := k1 42 rfl
      rw [fIs_out f1] at s42
      clear k1 f1
      have s8 := hf.at (d := 8) (v := .pointer (some ⟨bx, 0, none⟩)) (by kernel_rfl) rfl
      obtain ⟨⟨c0, c1, c2, c3, c4⟩, _⟩ := five_cells (row_below hB rx6)
      exact rf_pure (v := .agg #[.slice a5 R.calls.length k5, .int .i64 R.now, .int .i64 R.born, .slice b5 R.said.length l5, .int .i64 R.code]) hB rfl (wanted_g rfl (yielded_of (d := 42) rfl s42)) (by unfold execOp; go_simp) rfl
    · intro a w val own hB hf hown hk
      obtain ⟨k1, f1⟩ := hk 1 (show 1 ∈ [0, 1] by decide)
      have s42 := k1 42 rfl
      rw [fIs_out f1] at s42
      clear k1 f1
      have s6 := hf.at (d := 6) (v := .pointer (some ⟨bg, 0, none⟩)) (by kernel_rfl) rfl
      obtain ⟨⟨c0, c1, c2, c3, c4⟩, _⟩ := five_cells (row_below hB rg6)
      exact rf_pure (v := .agg #[.slice ag g.calls.length kg, .int .i64 g.now, .int .i64 g.born, .slice aD H.said.length kD, .int .i64 g.code]) hB rfl (wanted_g rfl (yielded_of (d := 42) rfl s42)) (by unfold execOp; go_simp) rfl
    · intro a w val own hB hf hown hk
      obtain ⟨k1, f1⟩ := hk 1 (show 1 ∈ [0, 1] by decide)
      have s42 := k1 42 rfl
      rw [fIs_out f1] at s42
      clear k1 f1
      exact rf_call hB rfl (wanted_g rfl (yielded_of (d := 42) rfl s42)) (by unfold execOp; go_simp) ((lmNum_any 7 w).mono fun e w' ⟨he, hb⟩ => ⟨_, he, hb, rfl⟩)
    · intro a w val own hB hf hown hk
      obtain ⟨k1, f1⟩ := hk 1 (show 1 ∈ [0, 1] by decide)
      have s42 := k1 42 rfl
      rw [fIs_out f1] at s42
      clear k1 f1
      have s6 := hf.at (d := 6) (v := .pointer (some ⟨bg, 0, none⟩)) (by kernel_rfl) rfl
      exact rf_pure (v := .pointer (some ⟨bg, 1, none⟩)) hB rfl (wanted_g rfl (yielded_of (d := 42) rfl s42)) (by unfold execOp; go_simp) rfl
    · intro a w val own hB hf hown hk
      obtain ⟨k1, f1⟩ := hk 1 (show 1 ∈ [0, 1, 5] by decide)
      have s42 := k1 42 rfl
      rw [fIs_out f1] at s42
      clear k1 f1
      obtain ⟨k5, f5⟩ := hk 5 (show 5 ∈ [0, 1, 5] by decide)
      have s46 := k5 46 rfl
      rw [fIs_out f5] at s46
      clear k5 f5
      obtain ⟨⟨c0, c1, c2, c3, c4⟩, _⟩ := five_cells (row_below hB rg6)
      exact rf_pure (v := .int .i64 g.now) hB rfl (wanted_g rfl (yielded_of (d := 42) rfl s42)) (by unfold execOp; go_simp) rfl
    · intro a w val own hB hf hown hk
      obtain ⟨k1, f1⟩ := hk 1 (show 1 ∈ [0, 1, 4, 5, 6] by decide)
      have s42 := k1 42 rfl
      rw [fIs_out f1] at s42
      clear k1 f1
      obtain ⟨k6, f6⟩ := hk 6 (show 6 ∈ [0, 1, 4, 5, 6] by decide)
      have s47 := k6 47 rfl
      rw [fIs_out f6] at s47
      clear k6 f6
      exact rf_call hB rfl (wanted_g rfl (yielded_of (d := 42) rfl s42)) (by unfold execOp; go_simp) ((lmOf_any (g.now) w).mono fun e w' ⟨he, hb⟩ => ⟨_, he, hb, rfl⟩)
    · intro a w val own hB hf hown hk
      obtain ⟨k1, f1⟩ := hk 1 (show 1 ∈ [0, 1, 4, 5, 6, 7] by decide)
      have s42 := k1 42 rfl
      rw [fIs_out f1] at s42
      clear k1 f1
      obtain ⟨k4, f4⟩ := hk 4 (show 4 ∈ [0, 1, 4, 5, 6, 7] by decide)
      have s45 := k4 45 rfl
      rw [fIs_out f4] at s45
      clear k4 f4
      obtain ⟨k7, f7⟩ := hk 7 (show 7 ∈ [0, 1, 4, 5, 6, 7] by decide)
      have s48 := k7 48 rfl
      rw [fIs_out f7] at s48
      clear k7 f7
      exact rf_new (v := .slice (some ⟨w.heap.size, 0, none⟩) 2 2) (w' := w.alloc (.cells #[.int .i64 1, .int .i64 7, .int .i64 2, .int .i64 g.now] 37)) hB rfl (wanted_g rfl (yielded_of (d := 42) rfl s42)) (by unfold execOp; go_simp) ((Below.refl _ _).alloc (Nat.le_refl _) _) ⟨_, rfl, Made.new fun w1 _ _ hr => (two_vals w 1 7 2 (g.now) 37 2).of_block (hr _ (Nat.le_refl _) (by simp))⟩
    · intro a w val own hB hf hown hk
      obtain ⟨k1, f1⟩ := hk 1 (show 1 ∈ [0, 1, 3, 4, 5, 6, 7, 8] by decide)
      have s42 := k1 42 rfl
      rw [fIs_out f1] at s42
      clear k1 f1
      obtain ⟨k3, f3⟩ := hk 3 (show 3 ∈ [0, 1, 3, 4, 5, 6, 7, 8] by decide)
      have s44 := k3 44 rfl
      rw [fIs_out f3] at s44
      clear k3 f3
      obtain ⟨k8, x8, e8, m8⟩ := hk 8 (show 8 ∈ [0, 1, 3, 4, 5, 6, 7, 8] by decide)
      have v8 := one_eq e8
      have s49 := k8 49 rfl
      rw [v8] at s49
      clear k8 e8
      exact rf_call hB rfl (wanted_g rfl (yielded_of (d := 42) rfl s42)) (by unfold execOp; go_simp) (after_call hB (HAF.out w x8 hB (m8.here hB)))
    · intro a w val own hB hf hown hk
      obtain ⟨k1, f1⟩ := hk 1 (show 1 ∈ [0, 1, 2, 3, 4, 5, 6, 7, 8, 9] by decide)
      have s42 := k1 42 rfl
      rw [fIs_out f1] at s42
      clear k1 f1
      obtain ⟨k2, f2⟩ := hk 2 (show 2 ∈ [0, 1, 2, 3, 4, 5, 6, 7, 8, 9] by decide)
      have s43 := k2 43 rfl
      rw [fIs_out f2] at s43
      clear k2 f2
      obtain ⟨k9, ⟨aA, kA, bA, lA, VA⟩, e9, o9, m9⟩ := hk 9 (show 9 ∈ [0, 1, 2, 3, 4, 5, 6, 7, 8, 9] by decide)
      have v9 : val 9 = .agg #[.slice aA R.calls.length kA, .int .i64 R.now, .int .i64 R.born, .slice bA R.said.length lA, .int .i64 R.code] := one_eq e9
      have s50 := k9 50 rfl
      rw [v9] at s50
      dsimp only at m9 o9
      clear k9 e9
      exact rf_call hB rfl (wanted_g rfl (yielded_of (d := 42) rfl s42)) (by unfold execOp hpCells; go_simp) ((lmHeap_same R _ _ _ _ w (HX6.out.below hB) (m9.here hB).at).mono fun e w' ⟨he, hb⟩ => ⟨_, he, hb, rfl⟩)
    · intro a w val own hB hf hown hk
      obtain ⟨k1, f1⟩ := hk 1 (show 1 ∈ [0, 1, 2, 3, 4, 5, 6, 7, 8, 9, 10] by decide)
      have s42 := k1 42 rfl
      rw [fIs_out f1] at s42
      clear k1 f1
      obtain ⟨k10, f10⟩ := hk 10 (show 10 ∈ [0, 1, 2, 3, 4, 5, 6, 7, 8, 9, 10] by decide)
      have s51 := k10 51 rfl
      rw [fIs_out f10] at s51
      clear k10 f10
      exact rf_pure (v := .bool true) hB rfl rfl (by unfold execOp; go_simp) rfl
    · intro a w val own hB hf hown hk
      obtain ⟨k11, f11⟩ := hk 11 (show 11 ∈ [0, 1, 2, 3, 4, 5, 6, 7, 8, 9, 10, 11] by decide)
      have s52 := k11 52 rfl
      rw [fIs_out f11] at s52
      clear k11 f11
      exact rf_pure (v := .bool true) hB rfl rfl (by unfold execOp; go_simp) rfl
  intro a w9 val own hB hf hown hk
  obtain ⟨k12, f12⟩ := hk 12 (by decide)
  have s2 := k12 2 rfl
  rw [fIs_out f12] at s2
  obtain ⟨u, hu0, hv⟩ := frame_any a.tmps (n := 53) hf.size
  have hu : a.tmps = (u 0 :: u 1 :: u 2 :: u 3 :: u 4 :: u 5 :: u 6 :: u 7 :: u 8 :: u 9 :: u 10 :: u 11 :: u 12 :: u 13 :: u 14 :: u 15 :: u 16 :: u 17 :: u 18 :: u 19 :: u 20 :: u 21 :: u 22 :: u 23 :: u 24 :: u 25 :: u 26 :: u 27 :: u 28 :: u 29 :: u 30 :: u 31 :: u 32 :: u 33 :: u 34 :: u 35 :: u 36 :: u 37 :: u 38 :: u 39 :: u 40 :: u 41 :: u 42 :: u 43 :: u 44 :: u 45 :: u 46 :: u 47 :: u 48 :: u 49 :: u 50 :: u 51 :: u 52 :: []).toArray := hu0
  rw [(hv 2).trans s2] at hu
  obtain rfl := act_eq hu (show a.defers = [] from hf.defers)
  clear hu hu0 hv hk hown hf
  go_wp2
  go_ret
  exact ⟨rfl, hB6.trans (hB.mono z6)⟩
end Go.Proofs.YtoaalcijdcmboabGreatDoor
