/-
  The law FnHeapSay, walked: whatever bytes come in, it answers true and writes to nothing that was there, where the table opForms lies as its text lays it.
-/
import Derived.Test.YtoaalcijdcmboabGreatDoorDrawHeap
import Derived.Test.YtoaalcijdcmboabGreatDoorHStep
import Derived.Test.YtoaalcijdcmboabGreatDoorHSame
import Derived.Lib.MinMax

namespace Go.Proofs.YtoaalcijdcmboabGreatDoor
open Go.RowKit
set_option maxRecDepth 100000 in
set_option maxHeartbeats 4000000 in
theorem lawHeapSay_any (w : World) (a : Option Addr) (len cap : Nat) (a2 : Option Addr) (len2 cap2 : Nat) (h : BytesAt w a len cap) (hc2 : len2 ≤ 9223372036854775807) (hT : TabAt w) :
    Calls Tryz.prog 14 #[.slice a len cap, .slice a2 len2 cap2] w fun e w' => e = .returned (.bool true) ∧ Below w.heap.size w w' := by
  have hc := h.1
  have hm := h.2.1
  unfold maxLen at hm
  have HB : Hid (BytesAt w a len cap) := h
  have HT : Hid (TabAt w) := hT
  clear h hT
  by_cases hl : 1048576 < len
  · have hlz : (1048576 : Int) < (len : Int) := by omega
    go_enter Tryz.func14, Tryz.ntmps14
    go_wp2
    go_ret
    exact ⟨rfl, Below.refl _ _⟩
  have hlz : (len : Int) ≤ 1048576 := by omega
  by_cases hl2 : 1048576 < len2
  · have hlz2 : (1048576 : Int) < (len2 : Int) := by omega
    go_enter Tryz.func14, Tryz.ntmps14
    go_wp2
    go_ret
    exact ⟨rfl, Below.refl _ _⟩
  have hlz2 : (len2 : Int) ≤ 1048576 := by omega
  go_enter Tryz.func14, Tryz.ntmps14
  go_wp2_with fail
  refine (drawHeapStep_any _ a len cap HB.out).mono ?_
  rintro e w1 ⟨v, vc, vs, ms, H, rfl, hD, hB1⟩
  obtain ⟨hM1, hH1⟩ := hD.st.here
  have l30 := hD.fine.l30
  have sd100 := hD.fine.sd
  have HPO : Hid (progOk ms = true) := hD.ok
  clear hD
  obtain ⟨aV, cV, hvV, _⟩ := id hM1
  obtain ⟨ac, kc, hvc⟩ := hH1.c.shape
  obtain ⟨aD, kD, hvs⟩ := hH1.s.shape
  subst hvV hvc hvs
  have z1 := hB1.size
  clear HB
  unfold hpCells
  go_upto_region 4 with fail
  have N2 : Below w1.heap.size w1 ((w1.alloc (.cells #[.slice aV ms.length cV] 25)).alloc (.cells #[.slice ac H.calls.length kc, .int .i64 H.now, .int .i64 H.born, .slice aD H.said.length kD, .int .i64 H.code] 29)) := ((Below.refl _ _).alloc (Nat.le_refl _) _).alloc (by simp) _
  have rp := (pbox_new w1 (.slice aV ms.length cV)).alloc (.cells #[.slice ac H.calls.length kc, .int .i64 H.now, .int .i64 H.born, .slice aD H.said.length kD, .int .i64 H.code] 29)
  have rh := five_new (w1.alloc (.cells #[.slice aV ms.length cV] 25)) 29 (.slice ac H.calls.length kc) (.int .i64 H.now) (.int .i64 H.born) (.slice aD H.said.length kD) (.int .i64 H.code)
  simp only [World.size_alloc] at rh
  generalize (w1.alloc (.cells #[.slice aV ms.length cV] 25)).alloc (.cells #[.slice ac H.calls.length kc, .int .i64 H.now, .int .i64 H.born, .slice aD H.said.length kD, .int .i64 H.code] 29) = W2 at *
  have hB2 := hB1.trans (N2.mono z1)
  have z2 := hB2.size
  have HMH : Hid (MethsAt W2 (.slice aV ms.length cV) ms ∧ HeapAt W2 (.slice ac H.calls.length kc) (.slice aD H.said.length kD) H ∧ TabAt W2) := ⟨hM1.below N2, hH1.below N2, HT.out.below hB2⟩
  clear hM1 hH1 hB1 N2 HT
  obtain ⟨⟨d0, d1, d2, d3, d4⟩, _⟩ := five_cells rh
  obtain ⟨K, hK⟩ : ∃ K : Nat, (len2 : Int) / 3 % max (H.calls.length : Int) 1 = (K : Int) := ⟨((len2 : Int) / 3 % max (H.calls.length : Int) 1).toNat, (Int.toNat_of_nonneg (Int.emod_nonneg _ (by omega))).symm⟩
  have HKb : Hid ((K : Int) < max (H.calls.length : Int) 1) := by show (K : Int) < _; rw [← hK]; exact Int.emod_lt_of_pos _ (by omega)
  obtain ⟨vv, hvv⟩ : ∃ vv : Int, (len2 : Int) % 90 = vv := ⟨_, rfl⟩
  have hvvb : 0 ≤ vv ∧ vv < 90 := by omega
  obtain ⟨I, hI⟩ : ∃ I : Nat, (len2 : Int) % 3 = (I : Int) := ⟨((len2 : Int) % 3).toNat, by omega⟩
  have hIn : I < 3 := by omega
  have hIz3 : (I : Int) < 3 := by omega
  obtain ⟨va, vb, hvab⟩ : ∃ va vb : Int, ([(0, 0), (1, vv), (2, (K : Int))] : List (Int × Int))[I]'(by simpa using hIn) = (va, vb) := ⟨_, _, rfl⟩
  have HV : Hid ((va = 2 ∧ vb = (K : Int)) ∨ va ≠ 2) := by
    rcases (by omega : I = 0 ∨ I = 1 ∨ I = 2) with rfl | rfl | rfl <;> simp at hvab <;> obtain ⟨rfl, rfl⟩ := hvab
    · exact .inr (by decide)
    · exact .inr (by decide)
    · exact .inl ⟨rfl, rfl⟩
  have HVAB : Hid (([(0, 0), (1, vv), (2, (K : Int))] : List (Int × Int))[I]'(by simpa using hIn) = (va, vb)) := hvab
  clear hvab
  go_wp2_with fail
  refine (lmNum_any _ _).mono ?_
  rintro e w4 ⟨rfl, hb4⟩
  go_wp2_with fail
  refine (lmOf_any _ _).mono ?_
  rintro e w5 ⟨rfl, hb5⟩
  have c5 := hb4.trans (hb5.mono hb4.size)
  have hvs := list_vals w5 [(0, 0), (1, vv), (2, (K : Int))] 37 3 (by simp) #[.int .i64 0, .int .i64 0, .int .i64 1, .int .i64 vv, .int .i64 2, .int .i64 (K : Int)] (fun i hi => by simp at hi; rcases (by omega : i = 0 ∨ i = 1 ∨ i = 2) with rfl | rfl | rfl <;> exact ⟨rfl, rfl⟩)
  obtain ⟨z0, z1⟩ := hvs.cell_lit (i := I) (by simpa using hIn)
  rw [HVAB.out, Nat.zero_add] at z0 z1
  go_upto_region 6 with fail
  have hb3 : Below W2.heap.size W2 ((w5.alloc (.cells #[.int .i64 0, .int .i64 0, .int .i64 1, .int .i64 vv, .int .i64 2, .int .i64 (K : Int)] 37)).alloc (.cells #[.int .i64 va, .int .i64 vb] 37)) := (c5.alloc c5.size _).alloc (c5.alloc c5.size _).size _
  have rv0 := two_new (w5.alloc (.cells #[.int .i64 0, .int .i64 0, .int .i64 1, .int .i64 vv, .int .i64 2, .int .i64 (K : Int)] 37)) 37 (.int .i64 va) (.int .i64 vb)
  simp only [World.size_alloc] at rv0
  have hbv0w : w.heap.size ≤ w5.heap.size + 1 := by have := c5.size; omega
  clear hvs z0 z1 c5 hb4 hb5 hK hvv hI HVAB d0 d1 d2 d3 d4 hIz3
  have HMHn : Hid (MethsAt ((w5.alloc (.cells #[.int .i64 0, .int .i64 0, .int .i64 1, .int .i64 vv, .int .i64 2, .int .i64 (K : Int)] 37)).alloc (.cells #[.int .i64 va, .int .i64 vb] 37)) (.slice aV ms.length cV) ms ∧ HeapAt ((w5.alloc (.cells #[.int .i64 0, .int .i64 0, .int .i64 1, .int .i64 vv, .int .i64 2, .int .i64 (K : Int)] 37)).alloc (.cells #[.int .i64 va, .int .i64 vb] 37)) (.slice ac H.calls.length kc) (.slice aD H.said.length kD) H ∧ TabAt ((w5.alloc (.cells #[.int .i64 0, .int .i64 0, .int .i64 1, .int .i64 vv, .int .i64 2, .int .i64 (K : Int)] 37)).alloc (.cells #[.int .i64 va, .int .i64 vb] 37))) := ⟨HMH.out.1.below hb3, HMH.out.2.1.below hb3, HMH.out.2.2.below hb3⟩
  have rpn := row_below hb3 rp
  have rhn := row_below hb3 rh
  have hB2n := hB2.trans (hb3.mono z2)
  clear hb3
  clear HMH rp rh hB2 z2
  generalize (w5.alloc (.cells #[.int .i64 0, .int .i64 0, .int .i64 1, .int .i64 vv, .int .i64 2, .int .i64 (K : Int)] 37)).alloc (.cells #[.int .i64 va, .int .i64 vb] 37) = W2 at *
  have HMH := HMHn
  have rp := rpn
  have rh := rhn
  have hB2 := hB2n
  have z2 := hB2.size
  clear HMHn rpn rhn hB2n
  generalize w5.heap.size + 1 = bv0 at *
  obtain ⟨⟨d0, d1, d2, d3, d4⟩, _⟩ := five_cells rh
  have dp := rp.cell (i := 0) (by decide)
  have hl1000 : H.calls.length ≤ 1000 := by omega
  refine wp_region_fs [[], [], [], [], [], [3, 4], [0, 1, 2, 3, 4, 5], [0, 1, 2, 3, 4, 5, 6], [0, 1, 2, 3, 4, 5, 6, 7], [0, 1, 2, 3, 4, 5, 6, 7], [0, 1, 2, 3, 4, 5, 6, 7], [], [], [0, 1, 2, 3, 4, 5, 6, 7, 8, 11, 12], [0, 1, 2, 3, 4, 5, 6, 7, 8, 9, 11, 12, 13], [0, 1, 2, 3, 4, 5, 6, 7, 8, 9, 10, 11, 12, 13, 14]] [[0], [1], [2], [3], [4], [5], [6], [7, 6], [8, 7], [9, 7], [10, 7], [11], [12], [11, 8], [12, 9], [15, 10]] [[], [], [], [], [], [], [], [], [], [], [], [], [], [11], [12], []] [fIs (.agg #[.slice aV ms.length cV]), fIs (.agg #[.slice ac H.calls.length kc, .int .i64 H.now, .int .i64 H.born, .slice aD H.said.length kD, .int .i64 H.code]), fIs (.agg #[.int .i64 16, .int .i64 0]), fIs (.agg #[.int .i64 1, .int .i64 7]), fIs (.agg #[.int .i64 va, .int .i64 vb]), fGh 5 (fun (x : Value) l => l = [x]) (fun x w1 => OpsAt w1 x [(1, 7), (va, vb)]), fWith 6 ms H 16 0 [(1, 7), (va, vb)] (.slice aD H.said.length kD), fOf fun l => l.getD 0 undef = l.getD 1 undef, fOf fun l => l.getD 0 undef = tget (l.getD 1 undef) 0, fOf fun l => l.getD 0 undef = tget (l.getD 1 undef) 1, fOf fun l => l.getD 0 undef = tget (l.getD 1 undef) 2, fBox 11 25 1, fBox 12 29 5, fRow 11 25 1 fun b f l => l.getD 0 undef = .pointer (some ⟨b, 0, none⟩) ∧ f = fun q => (l.getD 1 undef).cells.toList.getD q undef, fRow 12 29 5 fun b f l => l.getD 0 undef = .pointer (some ⟨b, 0, none⟩) ∧ f = fun q => (l.getD 1 undef).cells.toList.getD q undef, fOf fun l => l.getD 0 undef = l.getD 1 undef] 16 rfl (by kernel_rfl) (by kernel_rfl) ?_ ?_
  · refine all_lt_succ (all_lt_succ (all_lt_succ (all_lt_succ (all_lt_succ (all_lt_succ (all_lt_succ (all_lt_succ (all_lt_succ (all_lt_succ (all_lt_succ (all_lt_succ (all_lt_succ (all_lt_succ (all_lt_succ (all_lt_succ (all_lt_zero) ?_) ?_) ?_) ?_) ?_) ?_) ?_) ?_) ?_) ?_) ?_) ?_) ?_) ?_) ?_) ?_
    · intro a w val own hB hf hown hk
      have s5 := hf.at (d := 5) (v := .pointer (some ⟨w1.heap.size, 0, none⟩)) (by kernel_rfl) rfl
      have c0 := cell_below hB dp
      exact rf_pure (v := .agg #[.slice aV ms.length cV]) hB rfl rfl (by unfold execOp; go_simp) rfl
    · intro a w val own hB hf hown hk
      have s6 := hf.at (d := 6) (v := .pointer (some ⟨w1.heap.size + 1, 0, none⟩)) (by kernel_rfl) rfl
      obtain ⟨c0, c1, c2, c3, c4⟩ : _ ∧ _ ∧ _ ∧ _ ∧ _ := ⟨cell_below hB d0, cell_below hB d1, cell_below hB d2, cell_below hB d3, cell_below hB d4⟩
      exact rf_pure (v := .agg #[.slice ac H.calls.length kc, .int .i64 H.now, .int .i64 H.born, .slice aD H.said.length kD, .int .i64 H.code]) hB rfl rfl (by unfold execOp; go_simp) rfl
    · intro a w val own hB hf hown hk
      exact rf_pure (v := .agg #[.int .i64 16, .int .i64 0]) hB rfl rfl (by unfold execOp; go_simp) rfl
    · intro a w val own hB hf hown hk
      exact rf_call hB rfl rfl (by unfold execOp; go_simp) ((lmNum_any 7 w).mono fun e w' ⟨he, hb⟩ => ⟨_, he, hb, rfl⟩)
    · intro a w val own hB hf hown hk
      have s8 := hf.at (d := 8) (v := .pointer (some ⟨bv0, 0, none⟩)) (by kernel_rfl) rfl
      obtain ⟨⟨c0, c1⟩, _⟩ := two_cells (row_below hB rv0)
      exact rf_pure (v := .agg #[.int .i64 va, .int .i64 vb]) hB rfl rfl (by unfold execOp; go_simp) rfl
    · intro a w val own hB hf hown hk
      obtain ⟨k3, f3⟩ := hk 3 (show 3 ∈ [3, 4] by decide)
      have s53 := k3 53 rfl
      rw [fIs_out f3] at s53
      clear k3 f3
      obtain ⟨k4, f4⟩ := hk 4 (show 4 ∈ [3, 4] by decide)
      have s54 := k4 54 rfl
      rw [fIs_out f4] at s54
      clear k4 f4
      exact rf_new (v := .slice (some ⟨w.heap.size, 0, none⟩) 2 2) (w' := w.alloc (.cells #[.int .i64 1, .int .i64 7, .int .i64 va, .int .i64 vb] 37)) hB rfl rfl (by unfold execOp; go_simp) ((Below.refl _ _).alloc (Nat.le_refl _) _) ⟨_, rfl, Made.new fun w1 _ _ hr => (two_vals w 1 7 va (vb) 37 2).of_block (hr _ (Nat.le_refl _) (by simp))⟩
    · intro a w val own hB hf hown hk
      obtain ⟨k0, f0⟩ := hk 0 (show 0 ∈ [0, 1, 2, 3, 4, 5] by decide)
      have s50 := k0 50 rfl
      rw [fIs_out f0] at s50
      clear k0 f0
      obtain ⟨k1, f1⟩ := hk 1 (show 1 ∈ [0, 1, 2, 3, 4, 5] by decide)
      have s51 := k1 51 rfl
      rw [fIs_out f1] at s51
      clear k1 f1
      obtain ⟨k2, f2⟩ := hk 2 (show 2 ∈ [0, 1, 2, 3, 4, 5] by decide)
      have s52 := k2 52 rfl
      rw [fIs_out f2] at s52
      clear k2 f2
      obtain ⟨k5, x5, e5, m5⟩ := hk 5 (show 5 ∈ [0, 1, 2, 3, 4, 5] by decide)
      have v5 := one_eq e5
      have s55 := k5 55 rfl
      rw [v5] at s55
      clear k5 e5
      exact rf_call hB rfl rfl (by unfold execOp hpCells; go_simp) (with_call (x := 0) (vc := .slice ac H.calls.length kc) HMH.out.1 HMH.out.2.1 hB (m5.here hB) hl1000 HPO.out (by simp))
    · intro a w val own hB hf hown hk
      have s56 := (hk 6 (show 6 ∈ [0, 1, 2, 3, 4, 5, 6] by decide)).1 56 rfl
      exact rf_pure (v := val 6) hB rfl rfl (by unfold execOp; go_simp) rfl
    · intro a w val own hB hf hown hk
      obtain ⟨k6, ⟨aq, cq, ag, kg, qs, g, ok⟩, ⟨e6, hX⟩, mX⟩ := hk 6 (show 6 ∈ [0, 1, 2, 3, 4, 5, 6, 7] by decide)
      have v6 := one_eq e6
      have s56 := k6 56 rfl
      unfold WG.val at v6
      dsimp only at v6 hX mX
      rw [v6] at s56
      clear k6 e6
      obtain ⟨k7, f7⟩ := hk 7 (show 7 ∈ [0, 1, 2, 3, 4, 5, 6, 7] by decide)
      have v7 : val 7 = _ := Eq.trans f7 v6
      have s49 := k7 49 rfl
      rw [v7] at s49
      clear k7 f7
      exact rf_pure (v := .agg #[.slice aq qs.length cq]) hB rfl rfl (by unfold execOp; go_simp) (by show _ = tget (val 7) 0; rw [v7]; rfl)
    · intro a w val own hB hf hown hk
      obtain ⟨k6, ⟨aq, cq, ag, kg, qs, g, ok⟩, ⟨e6, hX⟩, mX⟩ := hk 6 (show 6 ∈ [0, 1, 2, 3, 4, 5, 6, 7] by decide)
      have v6 := one_eq e6
      have s56 := k6 56 rfl
      unfold WG.val at v6
      dsimp only at v6 hX mX
      rw [v6] at s56
      clear k6 e6
      obtain ⟨k7, f7⟩ := hk 7 (show 7 ∈ [0, 1, 2, 3, 4, 5, 6, 7] by decide)
      have v7 : val 7 = _ := Eq.trans f7 v6
      have s49 := k7 49 rfl
      rw [v7] at s49
      clear k7 f7
      exact rf_pure (v := .agg #[.slice ag g.calls.length kg, .int .i64 g.now, .int .i64 g.born, .slice aD H.said.length kD, .int .i64 g.code]) hB rfl rfl (by unfold execOp; go_simp) (by show _ = tget (val 7) 1; rw [v7]; rfl)
    · intro a w val own hB hf hown hk
      obtain ⟨k6, ⟨aq, cq, ag, kg, qs, g, ok⟩, ⟨e6, hX⟩, mX⟩ := hk 6 (show 6 ∈ [0, 1, 2, 3, 4, 5, 6, 7] by decide)
      have v6 := one_eq e6
      have s56 := k6 56 rfl
      unfold WG.val at v6
      dsimp only at v6 hX mX
      rw [v6] at s56
      clear k6 e6
      obtain ⟨k7, f7⟩ := hk 7 (show 7 ∈ [0, 1, 2, 3, 4, 5, 6, 7] by decide)
      have v7 : val 7 = _ := Eq.trans f7 v6
      have s49 := k7 49 rfl
      rw [v7] at s49
      clear k7 f7
      exact rf_pure (v := .bool ok) hB rfl rfl (by unfold execOp; go_simp) (by show _ = tget (val 7) 2; rw [v7]; rfl)
    · intro a w val own hB hf hown hk
      exact rf_new (v := .pointer (some ⟨w.heap.size, 0, none⟩)) (w' := w.alloc (.cells #[.slice none 0 0] 25)) hB rfl rfl (by unfold execOp; go_simp) ((Below.refl _ _).alloc (Nat.le_refl _) _) (fBox_new hB #[.slice none 0 0])
    · intro a w val own hB hf hown hk
      exact rf_new (v := .pointer (some ⟨w.heap.size, 0, none⟩)) (w' := w.alloc (.cells #[.slice none 0 0, .int .i64 0, .int .i64 0, .slice none 0 0, .int .i64 0] 29)) hB rfl rfl (by unfold execOp; go_simp) ((Below.refl _ _).alloc (Nat.le_refl _) _) (fBox_new hB #[.slice none 0 0, .int .i64 0, .int .i64 0, .slice none 0 0, .int .i64 0])
    · intro a w val own hB hf hown hk
      obtain ⟨k11, bo11, g11, e11, ho11, hW11, r11⟩ := hk 11 (show 11 ∈ [0, 1, 2, 3, 4, 5, 6, 7, 8, 11, 12] by decide)
      have v11 := one_eq e11
      have s9 := k11 9 rfl
      rw [v11] at s9
      clear k11 e11
      obtain ⟨k6, ⟨aq, cq, ag, kg, qs, g, ok⟩, ⟨e6, hX⟩, mX⟩ := hk 6 (show 6 ∈ [0, 1, 2, 3, 4, 5, 6, 7, 8, 11, 12] by decide)
      have v6 := one_eq e6
      have s56 := k6 56 rfl
      unfold WG.val at v6
      dsimp only at v6 hX mX
      rw [v6] at s56
      clear k6 e6
      obtain ⟨k7, f7⟩ := hk 7 (show 7 ∈ [0, 1, 2, 3, 4, 5, 6, 7, 8, 11, 12] by decide)
      have v7 : val 7 = _ := Eq.trans f7 v6
      have s49 := k7 49 rfl
      rw [v7] at s49
      clear k7 f7
      obtain ⟨k8, f8⟩ := hk 8 (show 8 ∈ [0, 1, 2, 3, 4, 5, 6, 7, 8, 11, 12] by decide)
      have v8 : val 8 = .agg #[.slice aq qs.length cq] := by have e : val 8 = tget (val 7) 0 := f8; rw [e, v7]; rfl
      have s57 := k8 57 rfl
      rw [v8] at s57
      clear k8 f8
      have c0 := r11.cell (i := 0) (by decide)
      have z0 := r11.frozen 0
      exact rf_set (w' := setAll w bo11 0 [.slice aq qs.length cq]) rfl rfl (by unfold execOp; simp only [setAll]; go_simp) (setAll_does (show own bo11 ∈ [11] by rw [ho11]; decide) hW11 _ 0 hB) (fRow_set [.slice aq qs.length cq] r11 ho11 hW11 rfl ⟨v11, by show _ = fun q => (val 8).cells.toList.getD q undef; rw [v8]; rfl⟩)
    · intro a w val own hB hf hown hk
      obtain ⟨k12, bo12, g12, e12, ho12, hW12, r12⟩ := hk 12 (show 12 ∈ [0, 1, 2, 3, 4, 5, 6, 7, 8, 9, 11, 12, 13] by decide)
      have v12 := one_eq e12
      have s10 := k12 10 rfl
      rw [v12] at s10
      clear k12 e12
      obtain ⟨k6, ⟨aq, cq, ag, kg, qs, g, ok⟩, ⟨e6, hX⟩, mX⟩ := hk 6 (show 6 ∈ [0, 1, 2, 3, 4, 5, 6, 7, 8, 9, 11, 12, 13] by decide)
      have v6 := one_eq e6
      have s56 := k6 56 rfl
      unfold WG.val at v6
      dsimp only at v6 hX mX
      rw [v6] at s56
      clear k6 e6
      obtain ⟨k7, f7⟩ := hk 7 (show 7 ∈ [0, 1, 2, 3, 4, 5, 6, 7, 8, 9, 11, 12, 13] by decide)
      have v7 : val 7 = _ := Eq.trans f7 v6
      have s49 := k7 49 rfl
      rw [v7] at s49
      clear k7 f7
      obtain ⟨k9, f9⟩ := hk 9 (show 9 ∈ [0, 1, 2, 3, 4, 5, 6, 7, 8, 9, 11, 12, 13] by decide)
      have v9 : val 9 = .agg #[.slice ag g.calls.length kg, .int .i64 g.now, .int .i64 g.born, .slice aD H.said.length kD, .int .i64 g.code] := by have e : val 9 = tget (val 7) 1 := f9; rw [e, v7]; rfl
      have s58 := k9 58 rfl
      rw [v9] at s58
      clear k9 f9
      have c0 := r12.cell (i := 0) (by decide)
      have c1 := r12.cell (i := 1) (by decide)
      have c2 := r12.cell (i := 2) (by decide)
      have c3 := r12.cell (i := 3) (by decide)
      have c4 := r12.cell (i := 4) (by decide)
      have z0 := r12.frozen 0
      have z1 := r12.frozen 1
      have z2 := r12.frozen 2
      have z3 := r12.frozen 3
      have z4 := r12.frozen 4
      exact rf_set (w' := setAll w bo12 0 [.slice ag g.calls.length kg, .int .i64 g.now, .int .i64 g.born, .slice aD H.said.length kD, .int .i64 g.code]) rfl rfl (by unfold execOp; simp only [setAll]; go_simp) (setAll_does (show own bo12 ∈ [12] by rw [ho12]; decide) hW12 _ 0 hB) (fRow_set [.slice ag g.calls.length kg, .int .i64 g.now, .int .i64 g.born, .slice aD H.said.length kD, .int .i64 g.code] r12 ho12 hW12 rfl ⟨v12, by show _ = fun q => (val 9).cells.toList.getD q undef; rw [v9]; rfl⟩)
    · intro a w val own hB hf hown hk
      have s59 := (hk 10 (show 10 ∈ [0, 1, 2, 3, 4, 5, 6, 7, 8, 9, 10, 11, 12, 13, 14] by decide)).1 59 rfl
      exact rf_pure (v := val 10) hB rfl rfl (by unfold execOp; go_simp) rfl
  intro a w3 val own hB hf hown hk
  obtain ⟨k11, bo11, g11, e11, ho11, hW11, r11⟩ := hk 11 (by decide)
  have v11 := one_eq e11
  have s9 := k11 9 rfl
  rw [v11] at s9
  clear k11 e11
  obtain ⟨k6, ⟨aq, cq, ag, kg, qs, g, ok⟩, ⟨e6, hX⟩, mX⟩ := hk 6 (by decide)
  have v6 := one_eq e6
  have s56 := k6 56 rfl
  unfold WG.val at v6
  dsimp only at v6 hX mX
  rw [v6] at s56
  clear k6 e6
  obtain ⟨k7, f7⟩ := hk 7 (by decide)
  have v7 : val 7 = _ := Eq.trans f7 v6
  have s49 := k7 49 rfl
  rw [v7] at s49
  clear k7 f7
  obtain ⟨k8, f8⟩ := hk 8 (by decide)
  have v8 : val 8 = .agg #[.slice aq qs.length cq] := by have e : val 8 = tget (val 7) 0 := f8; rw [e, v7]; rfl
  have s57 := k8 57 rfl
  rw [v8] at s57
  clear k8 f8
  obtain ⟨_, bo13, g13, ⟨e13, hg13⟩, _, _, r13⟩ := hk 13 (by decide)
  have q13 : bo13 = bo11 := by have e : val 11 = _ := e13; rw [v11] at e; injection e with e; injection e with e; injection e with e; exact e.symm
  subst q13
  have hg13 : g13 = fun q => (val 8).cells.toList.getD q undef := hg13
  rw [v8] at hg13
  subst hg13
  have r13 : w3.rowIs bo13 _ _ (fun q => [.slice aq qs.length cq].getD q undef) := r13
  clear e13
  obtain ⟨k12, bo12, g12, e12, ho12, hW12, r12⟩ := hk 12 (by decide)
  have v12 := one_eq e12
  have s10 := k12 10 rfl
  rw [v12] at s10
  clear k12 e12
  obtain ⟨k9, f9⟩ := hk 9 (by decide)
  have v9 : val 9 = .agg #[.slice ag g.calls.length kg, .int .i64 g.now, .int .i64 g.born, .slice aD H.said.length kD, .int .i64 g.code] := by have e : val 9 = tget (val 7) 1 := f9; rw [e, v7]; rfl
  have s58 := k9 58 rfl
  rw [v9] at s58
  clear k9 f9
  obtain ⟨_, bo14, g14, ⟨e14, hg14⟩, _, _, r14⟩ := hk 14 (by decide)
  have q14 : bo14 = bo12 := by have e : val 12 = _ := e14; rw [v12] at e; injection e with e; injection e with e; injection e with e; exact e.symm
  subst q14
  have hg14 : g14 = fun q => (val 9).cells.toList.getD q undef := hg14
  rw [v9] at hg14
  subst hg14
  have r14 : w3.rowIs bo14 _ _ (fun q => [.slice ag g.calls.length kg, .int .i64 g.now, .int .i64 g.born, .slice aD H.said.length kD, .int .i64 g.code].getD q undef) := r14
  clear e14
  obtain ⟨k10, f10⟩ := hk 10 (by decide)
  have v10 : val 10 = .bool ok := by have e : val 10 = tget (val 7) 2 := f10; rw [e, v7]; rfl
  have s59 := k10 59 rfl
  rw [v10] at s59
  clear k10 f10
  obtain ⟨k15, f15⟩ := hk 15 (by decide)
  have v15 : val 15 = _ := Eq.trans f15 v10
  have s11 := k15 11 rfl
  rw [v15] at s11
  clear k15 f15
  have s5 := hf.at (d := 5) (v := .pointer (some ⟨w1.heap.size, 0, none⟩)) (by kernel_rfl) rfl
  have s6 := hf.at (d := 6) (v := .pointer (some ⟨w1.heap.size + 1, 0, none⟩)) (by kernel_rfl) rfl
  have s7 := hf.at (d := 7) (v := .int .i64 (K : Int)) (by kernel_rfl) rfl
  have s8 := hf.at (d := 8) (v := .pointer (some ⟨bv0, 0, none⟩)) (by kernel_rfl) rfl
  obtain ⟨u, hu0, hv⟩ := frame_any a.tmps (n := 99) hf.size
  have hu : a.tmps = (u 0 :: u 1 :: u 2 :: u 3 :: u 4 :: u 5 :: u 6 :: u 7 :: u 8 :: u 9 :: u 10 :: u 11 :: u 12 :: u 13 :: u 14 :: u 15 :: u 16 :: u 17 :: u 18 :: u 19 :: u 20 :: u 21 :: u 22 :: u 23 :: u 24 :: u 25 :: u 26 :: u 27 :: u 28 :: u 29 :: u 30 :: u 31 :: u 32 :: u 33 :: u 34 :: u 35 :: u 36 :: u 37 :: u 38 :: u 39 :: u 40 :: u 41 :: u 42 :: u 43 :: u 44 :: u 45 :: u 46 :: u 47 :: u 48 :: u 49 :: u 50 :: u 51 :: u 52 :: u 53 :: u 54 :: u 55 :: u 56 :: u 57 :: u 58 :: u 59 :: u 60 :: u 61 :: u 62 :: u 63 :: u 64 :: u 65 :: u 66 :: u 67 :: u 68 :: u 69 :: u 70 :: u 71 :: u 72 :: u 73 :: u 74 :: u 75 :: u 76 :: u 77 :: u 78 :: u 79 :: u 80 :: u 81 :: u 82 :: u 83 :: u 84 :: u 85 :: u 86 :: u 87 :: u 88 :: u 89 :: u 90 :: u 91 :: u 92 :: u 93 :: u 94 :: u 95 :: u 96 :: u 97 :: u 98 :: []).toArray := hu0
  rw [(hv 5).trans s5, (hv 6).trans s6, (hv 7).trans s7, (hv 8).trans s8, (hv 9).trans s9, (hv 10).trans s10, (hv 11).trans s11] at hu
  obtain rfl := act_eq hu (show a.defers = [] from hf.defers)
  obtain ⟨hM3, hH3⟩ := mX.here hB
  have rq := row_one r13
  have rg := row_five r14
  have hB3 := hB
  clear hu hu0 hv hk hown hf mX hB s5 s6 s7 s8 s9 s10 s11
  generalize bo13 = bq at *
  generalize bo14 = bg at *
  clear d0 d1 d2 d3 d4 dp rp rh
  have z3 := hB3.size
  have hlg : g.calls.length ≤ 1000 := by have := hX.l; omega
  have hsg : g.said.length ≤ 800000 := by rw [hX.s]; omega
  have hT3 := HMH.out.2.2.below hB3
  have HI := implHeapStep_any _ _ _ qs g w3 hM3 hT3 hH3 hlg hsg
  have HMX : Hid (MethsAt w3 (.slice aq (List.length qs) cq) qs ∧ HeapAt w3 (.slice ag g.calls.length kg) (.slice aD H.said.length kD) g ∧ WithOk ms H 16 0 [(1, 7), (va, vb)] qs g ok) := ⟨hM3, hH3, hX⟩
  have HRE : Hid (ok = true → heapOk qs g = true ∧ hRun qs g 1 = (sayH (afterH g [(1, 7)]) (va, vb)) ∧ Good qs g ∧ ∃ j : Nat, g.now = (j : Int) ∧ ∃ hj : j < g.calls.length, 0 ≤ g.calls[j].pc ∧ g.calls[j].pc ≤ 1000) := fun e => by
    subst e
    obtain ⟨_, _, _, ho⟩ := hX.yes rfl
    have hA := with_at hX
    obtain ⟨hg, hc, hr, hs, j, m, pc, hj, hm, hpl, hn, hcur, hst, hme, hpc, hop⟩ := hA
    refine ⟨ho, ?_, hg, j, hn, hj, ?_⟩
    · have e := with_step hX (t := 1) (l := 0) rfl (by simp) rfl; rw [e]; rfl
    · have := (hg.cl j hj).pc
      have hp := hg.head.p
      unfold progOk at hp
      simp only [Bool.and_eq_true] at hp
      have ha := List.all_eq_true.1 hp.2 _ (List.getElem_mem hm)
      unfold methOk at ha
      simp only [Bool.and_eq_true, decide_eq_true_eq] at ha
      have h14 := ha.1.2
      rw [hpc]
      omega
  clear hM3 hH3 hX hT3
  generalize hRun qs g 1 = R at *
  obtain ⟨fb, hfb⟩ : ∃ fb, heapOk qs g = fb := ⟨_, rfl⟩
  rw [hfb] at HI
  have HFB : Hid (heapOk qs g = fb) := hfb
  clear hfb
  unfold hpCells at HI
  obtain ⟨⟨d0, d1, d2, d3, d4⟩, _⟩ := five_cells rg
  have dp := rq.cell (i := 0) (by decide)
  go_wp2_with fail
  refine HI.mono ?_
  rintro e w5 ⟨⟨vc5, vs5, V5, rfl, hO5⟩, hb5⟩
  obtain ⟨a5, k5, hv5⟩ := hO5.at.c.shape
  obtain ⟨b5, l5, hs5⟩ := hO5.at.s.shape
  subst hv5 hs5
  have z5 := hb5.size
  have rq5 := row_below hb5 rq
  have rg5 := row_below hb5 rg
  clear HI d0 d1 d2 d3 d4 dp rq rg
  go_upto_region 8 with fail
  have N6 : Below w5.heap.size w5 (w5.alloc (.cells #[.slice a5 R.calls.length k5, .int .i64 R.now, .int .i64 R.born, .slice b5 R.said.length l5, .int .i64 R.code] 29)) := (Below.refl _ _).alloc (Nat.le_refl _) _
  have rx6 := five_new w5 29 (.slice a5 R.calls.length k5) (.int .i64 R.now) (.int .i64 R.born) (.slice b5 R.said.length l5) (.int .i64 R.code)
  have rq6 := row_below N6 rq5
  have rg6 := row_below N6 rg5
  have b6 := hb5.trans (N6.mono z5)
  have HX6 : Hid (HeapAt (w5.alloc (.cells #[.slice a5 R.calls.length k5, .int .i64 R.now, .int .i64 R.born, .slice b5 R.said.length l5, .int .i64 R.code] 29)) (.slice a5 R.calls.length k5) (.slice b5 R.said.length l5) R) := hO5.at.below N6
  have HXO : Hid (OwnHeap w3.heap.size (w5.alloc (.cells #[.slice a5 R.calls.length k5, .int .i64 R.now, .int .i64 R.born, .slice b5 R.said.length l5, .int .i64 R.code] 29)) (.slice a5 R.calls.length k5) (.slice b5 R.said.length l5) R V5) := hO5.below N6
  clear hO5 rq5 rg5 N6
  generalize w5.alloc (.cells #[.slice a5 R.calls.length k5, .int .i64 R.now, .int .i64 R.born, .slice b5 R.said.length l5, .int .i64 R.code] 29) = W6 at *
  generalize w5.heap.size = bx at *
  have HM6 : Hid (MethsAt W6 (.slice aq (List.length qs) cq) qs ∧ HeapAt W6 (.slice ag g.calls.length kg) (.slice aD H.said.length kD) g) := ⟨HMX.out.1.below b6, HMX.out.2.1.below b6⟩
  have hB6 := (hB2.trans (hB3.mono z2)).trans (b6.mono (by have := hB2.size; omega))
  have z6 := hB6.size
  cases ok
  · have HOK := specHeapOk_any _ _ _ qs g W6 HM6.out.1 HM6.out.2 (by omega)
    rw [HFB.out] at HOK
    unfold hpCells at HOK
    obtain ⟨⟨d0, d1, d2, d3, d4⟩, _⟩ := five_cells rg6
    have dp := rq6.cell (i := 0) (by decide)
    go_wp2_with fail
    refine HOK.mono ?_
    rintro e w7 ⟨rfl, hb7⟩
    go_wp2
    go_ret
    exact ⟨ret_bool (by cases fb <;> rfl), hB6.trans (hb7.mono z6)⟩
  obtain ⟨hfb, hRE, hgd, j, hnj, hj, hpcj⟩ := HRE.out rfl
  have hfb2 : fb = true := by rw [← HFB.out]; exact hfb
  subst hfb2
  have HRA : Hid (R = (sayH (afterH g [(1, 7)]) (va, vb))) := hRE
  have HGN : Hid (Good qs g ∧ g.now = (j : Int) ∧ j < g.calls.length) := ⟨hgd, hnj, hj⟩
  clear hRE HRE hfb hnj hgd
  obtain ⟨A, hA⟩ : ∃ A : Hp, A = afterH g [(1, 7)] := ⟨_, rfl⟩
  have HAA : Hid (A = afterH g [(1, 7)]) := hA
  have HAn : Hid (A.now = (j : Int) ∧ A.calls.length = g.calls.length ∧ A.born = g.born ∧ A.said = g.said ∧ A.code = g.code) := by obtain ⟨x1, x2, x3, x4, x5⟩ := afterH_fields g [(1, 7)]; rw [hA]; exact ⟨x1.trans HGN.out.2.1, x2, x3, x4, x5⟩
  clear hA
  have HAF : Hid (∀ (W : World) (vk : Value), Below W6.heap.size W6 W → OpsAt W vk [(1, 7)] → Calls Tryz.prog 22 #[.agg #[.slice ag g.calls.length kg, .int .i64 g.now, .int .i64 g.born, .slice aD H.said.length kD, .int .i64 g.code], vk] W fun e w' => (∃ vc' vs' V', e = .returned (.agg (hpCells vc' vs' A)) ∧ OwnHeap W.heap.size w' vc' vs' A V') ∧ Below W.heap.size W w') := fun W vk hW hk => by
    rw [HAA.out]
    have hl := HGN.out.1.lens
    exact lmAfter_any _ _ vk g _ j W (HM6.out.2.below hW) hk HGN.out.2.1 hj hpcj (by simp) (by omega) (fun i hi => by have := hl.2 i hi; omega) (by omega)
  go_wp2_with fail
  refine wp_region_fs [[], [], [1], [0, 1, 2], [], [0, 1, 2, 3, 4]] [[0], [1], [2], [3], [4], [4, 3]] [[], [], [], [], [], [4]] [fIs (.agg #[.slice ag g.calls.length kg, .int .i64 g.now, .int .i64 g.born, .slice aD H.said.length kD, .int .i64 g.code]), fIs (.agg #[.int .i64 1, .int .i64 7]), fGh 2 (fun (x : Value) l => l = [x]) (fun x w1 => OpsAt w1 x [(1, 7)]), fAfter 3 A, fBox 4 29 5, fRow 4 29 5 fun b f l => l.getD 0 undef = .pointer (some ⟨b, 0, none⟩) ∧ f = fun q => (l.getD 1 undef).cells.toList.getD q undef] 6 rfl (by kernel_rfl) (by kernel_rfl) ?_ ?_
  · refine all_lt_succ (all_lt_succ (all_lt_succ (all_lt_succ (all_lt_succ (all_lt_succ (all_lt_zero) ?_) ?_) ?_) ?_) ?_) ?_
    · intro a w val own hB hf hown hk
      have s10 := hf.at (d := 10) (v := .pointer (some ⟨bg, 0, none⟩)) (by kernel_rfl) rfl
      obtain ⟨⟨c0, c1, c2, c3, c4⟩, _⟩ := five_cells (row_below hB rg6)
      exact rf_pure (v := .agg #[.slice ag g.calls.length kg, .int .i64 g.now, .int .i64 g.born, .slice aD H.said.length kD, .int .i64 g.code]) hB rfl rfl (by unfold execOp; go_simp) rfl
    · intro a w val own hB hf hown hk
      exact rf_call hB rfl rfl (by unfold execOp; go_simp) ((lmNum_any 7 w).mono fun e w' ⟨he, hb⟩ => ⟨_, he, hb, rfl⟩)
    · intro a w val own hB hf hown hk
      obtain ⟨k1, f1⟩ := hk 1 (show 1 ∈ [1] by decide)
      have s74 := k1 74 rfl
      rw [fIs_out f1] at s74
      clear k1 f1
      exact rf_new (v := .slice (some ⟨w.heap.size, 0, none⟩) 1 1) (w' := w.alloc (.cells #[.int .i64 1, .int .i64 7] 37)) hB rfl rfl (by unfold execOp; go_simp) ((Below.refl _ _).alloc (Nat.le_refl _) _) ⟨_, rfl, Made.new fun w1 _ _ hr => (one_vals w 1 7 37 1).of_block (hr _ (Nat.le_refl _) (by simp))⟩
    · intro a w val own hB hf hown hk
      obtain ⟨k0, f0⟩ := hk 0 (show 0 ∈ [0, 1, 2] by decide)
      have s73 := k0 73 rfl
      rw [fIs_out f0] at s73
      clear k0 f0
      obtain ⟨k2, x2, e2, m2⟩ := hk 2 (show 2 ∈ [0, 1, 2] by decide)
      have v2 := one_eq e2
      have s75 := k2 75 rfl
      rw [v2] at s75
      clear k2 e2
      exact rf_call hB rfl rfl (by unfold execOp; go_simp) (after_call hB (HAF.out w x2 hB (m2.here hB)))
    · intro a w val own hB hf hown hk
      exact rf_new (v := .pointer (some ⟨w.heap.size, 0, none⟩)) (w' := w.alloc (.cells #[.slice none 0 0, .int .i64 0, .int .i64 0, .slice none 0 0, .int .i64 0] 29)) hB rfl rfl (by unfold execOp; go_simp) ((Below.refl _ _).alloc (Nat.le_refl _) _) (fBox_new hB #[.slice none 0 0, .int .i64 0, .int .i64 0, .slice none 0 0, .int .i64 0])
    · intro a w val own hB hf hown hk
      obtain ⟨k4, bo4, g4, e4, ho4, hW4, r4⟩ := hk 4 (show 4 ∈ [0, 1, 2, 3, 4] by decide)
      have v4 := one_eq e4
      have s14 := k4 14 rfl
      rw [v4] at s14
      clear k4 e4
      obtain ⟨k3, ⟨aA, kA, bA, lA, VA⟩, e3, o3, m3⟩ := hk 3 (show 3 ∈ [0, 1, 2, 3, 4] by decide)
      have v3 : val 3 = .agg #[.slice aA A.calls.length kA, .int .i64 A.now, .int .i64 A.born, .slice bA A.said.length lA, .int .i64 A.code] := one_eq e3
      have s76 := k3 76 rfl
      rw [v3] at s76
      dsimp only at m3 o3
      clear k3 e3
      have c0 := r4.cell (i := 0) (by decide)
      have c1 := r4.cell (i := 1) (by decide)
      have c2 := r4.cell (i := 2) (by decide)
      have c3 := r4.cell (i := 3) (by decide)
      have c4 := r4.cell (i := 4) (by decide)
      have z0 := r4.frozen 0
      have z1 := r4.frozen 1
      have z2 := r4.frozen 2
      have z3 := r4.frozen 3
      have z4 := r4.frozen 4
      exact rf_set (w' := setAll w bo4 0 [.slice aA A.calls.length kA, .int .i64 A.now, .int .i64 A.born, .slice bA A.said.length lA, .int .i64 A.code]) rfl rfl (by unfold execOp; simp only [setAll]; go_simp) (setAll_does (show own bo4 ∈ [4] by rw [ho4]; decide) hW4 _ 0 hB) (fRow_set [.slice aA A.calls.length kA, .int .i64 A.now, .int .i64 A.born, .slice bA A.said.length lA, .int .i64 A.code] r4 ho4 hW4 rfl ⟨v4, by show _ = fun q => (val 3).cells.toList.getD q undef; rw [v3]; rfl⟩)
  intro a w9 val own hB hf hown hk
  obtain ⟨k4, bo4, g4, e4, ho4, hW4, r4⟩ := hk 4 (by decide)
  have v4 := one_eq e4
  have s14 := k4 14 rfl
  rw [v4] at s14
  clear k4 e4
  obtain ⟨k3, ⟨aA, kA, bA, lA, VA⟩, e3, o3, m3⟩ := hk 3 (by decide)
  have v3 : val 3 = .agg #[.slice aA A.calls.length kA, .int .i64 A.now, .int .i64 A.born, .slice bA A.said.length lA, .int .i64 A.code] := one_eq e3
  have s76 := k3 76 rfl
  rw [v3] at s76
  dsimp only at m3 o3
  clear k3 e3
  obtain ⟨_, bo5, g5, ⟨e5, hg5⟩, _, _, r5⟩ := hk 5 (by decide)
  have q5 : bo5 = bo4 := by have e : val 4 = _ := e5; rw [v4] at e; injection e with e; injection e with e; injection e with e; exact e.symm
  subst q5
  have hg5 : g5 = fun q => (val 3).cells.toList.getD q undef := hg5
  rw [v3] at hg5
  subst hg5
  have r5 : w9.rowIs bo5 _ _ (fun q => [.slice aA A.calls.length kA, .int .i64 A.now, .int .i64 A.born, .slice bA A.said.length lA, .int .i64 A.code].getD q undef) := r5
  clear e5
  have s5 := hf.at (d := 5) (v := .pointer (some ⟨w1.heap.size, 0, none⟩)) (by kernel_rfl) rfl
  have s6 := hf.at (d := 6) (v := .pointer (some ⟨w1.heap.size + 1, 0, none⟩)) (by kernel_rfl) rfl
  have s7 := hf.at (d := 7) (v := .int .i64 (K : Int)) (by kernel_rfl) rfl
  have s8 := hf.at (d := 8) (v := .pointer (some ⟨bv0, 0, none⟩)) (by kernel_rfl) rfl
  have s9 := hf.at (d := 9) (v := .pointer (some ⟨bq, 0, none⟩)) (by kernel_rfl) rfl
  have s10 := hf.at (d := 10) (v := .pointer (some ⟨bg, 0, none⟩)) (by kernel_rfl) rfl
  have s12 := hf.at (d := 12) (v := .pointer (some ⟨bx, 0, none⟩)) (by kernel_rfl) rfl
  have s13 := hf.at (d := 13) (v := .bool true) (by kernel_rfl) rfl
  obtain ⟨u, hu0, hv⟩ := frame_any a.tmps (n := 99) hf.size
  have hu : a.tmps = (u 0 :: u 1 :: u 2 :: u 3 :: u 4 :: u 5 :: u 6 :: u 7 :: u 8 :: u 9 :: u 10 :: u 11 :: u 12 :: u 13 :: u 14 :: u 15 :: u 16 :: u 17 :: u 18 :: u 19 :: u 20 :: u 21 :: u 22 :: u 23 :: u 24 :: u 25 :: u 26 :: u 27 :: u 28 :: u 29 :: u 30 :: u 31 :: u 32 :: u 33 :: u 34 :: u 35 :: u 36 :: u 37 :: u 38 :: u 39 :: u 40 :: u 41 :: u 42 :: u 43 :: u 44 :: u 45 :: u 46 :: u 47 :: u 48 :: u 49 :: u 50 :: u 51 :: u 52 :: u 53 :: u 54 :: u 55 :: u 56 :: u 57 :: u 58 :: u 59 :: u 60 :: u 61 :: u 62 :: u 63 :: u 64 :: u 65 :: u 66 :: u 67 :: u 68 :: u 69 :: u 70 :: u 71 :: u 72 :: u 73 :: u 74 :: u 75 :: u 76 :: u 77 :: u 78 :: u 79 :: u 80 :: u 81 :: u 82 :: u 83 :: u 84 :: u 85 :: u 86 :: u 87 :: u 88 :: u 89 :: u 90 :: u 91 :: u 92 :: u 93 :: u 94 :: u 95 :: u 96 :: u 97 :: u 98 :: []).toArray := hu0
  rw [(hv 5).trans s5, (hv 6).trans s6, (hv 7).trans s7, (hv 8).trans s8, (hv 9).trans s9, (hv 10).trans s10, (hv 12).trans s12, (hv 13).trans s13, (hv 14).trans s14] at hu
  obtain rfl := act_eq hu (show a.defers = [] from hf.defers)
  have hOA := m3.here hB
  have rw9 := row_five r5
  have rx9 := row_below hB rx6
  have rg9 := row_below hB rg6
  have hwn : ¬ HeapBlocks (.slice aA A.calls.length kA) (.slice bA A.said.length lA) A.calls.length VA bo5 := fun e => by have e2 := (o3 _ e).1; rw [ho4] at e2; exact absurd e2 (by decide)
  have hw6 : W6.heap.size ≤ bo5 := hW4
  have HX9 : Hid (HeapAt w9 (.slice a5 R.calls.length k5) (.slice b5 R.said.length l5) R ∧ HeapAt w9 (.slice ag g.calls.length kg) (.slice aD H.said.length kD) g ∧ MethsAt w9 (.slice aq (List.length qs) cq) qs) := ⟨HX6.out.below hB, HM6.out.2.below hB, HM6.out.1.below hB⟩
  have hB9 := hB
  clear hu hu0 hv hk hown hf hB s5 s6 s7 s8 s9 s10 s12 s13 s14 m3 o3 r5
  generalize bo5 = bw at *
  have rv9 := row_below ((hB3.trans (b6.mono hB3.size)).trans (hB9.mono (hB3.trans (b6.mono hB3.size)).size)) rv0
  have hjA : j < A.calls.length := by rw [HAn.out.2.1]; exact hj
  obtain ⟨gA, oA, cA, hvA, hgA, _⟩ := hOA.c.form (by omega)
  injection hvA with hvA1 _ hvA2
  subst hvA1 hvA2
  have hgw : gA ≠ bw := fun e => hwn (.inr (.inl (by rw [e]; rfl)))
  have hgx : gA ≠ bx := fun e => by have := rx6.lt; omega
  obtain ⟨⟨q0, q1, q2, q3, q4, q5⟩, qf0, qf1, qf2, qf3, qf4, qf5⟩ := ocell_at hOA.c hjA
  obtain ⟨⟨y0, y1, y2, y3, y4⟩, yf0, yf1, yf2, yf3, yf4⟩ := five_cells rw9
  rw [HAn.out.1] at y1
  clear y0 y1 y2 y3 y4 yf0 yf1 yf2 yf3 yf4 q0 q1 q2 q3 q4 q5 qf0 qf1 qf2 qf3 qf4 qf5
  obtain ⟨⟨v0, v1⟩, vf0, vf1⟩ := two_cells rv9
  by_cases hv2 : va = 2
  case pos =>
    obtain ⟨_, hvK⟩ : va = 2 ∧ vb = (K : Int) := HV.out.elim id (fun h => absurd hv2 h)
    have hKg : K < g.calls.length := by have e1 := HMX.out.2.2.l; have e2 := HKb.out; omega
    have hps := HM6.out.2.c
    obtain ⟨aE, cE, hvE, _, hcE⟩ := hps
    injection hvE with hvE1 _ hvE2
    obtain ⟨gb, og, vtK, vsK, hab, hclK⟩ := hcE K hKg
    rw [← hvE1] at hab
    obtain ⟨p0, p1, p2, p3, p4, p5, hpt, hps⟩ := hclK
    clear hcE hvE1 hvE2
    have hgnj := HGN.out.2.1
    obtain ⟨⟨d0, d1, d2, d3, d4⟩, _⟩ := five_cells rg6
    obtain ⟨mm, hmm⟩ : ∃ mm : Int, g.calls[K].m = mm := ⟨_, rfl⟩
    rw [hmm] at p0
    have HMM : Hid ((A.calls.getD K Cl.none).m = mm) := by show _ = _; rw [HAA.out]; exact (after_same HGN.out.2.1 HGN.out.2.2 [(1, 7)] hKg).2.2.2.trans hmm
    have p09 := cell_below hB9 p0
    have d09 := cell_below hB9 d0
    clear hmm p0 p1 p2 p3 p4 p5 hpt hps d0 d1 d2 d3 d4
    have HK2 : Hid (va = 2 ∧ vb = (K : Int)) := ⟨hv2, hvK⟩
    go_wp2_with fail
    refine (lmOf_any _ _).mono ?_
    rintro e w10 ⟨rfl, hb10⟩
    have rv10 := row_below hb10 rv9
    clear v0 v1 vf0 vf1
    obtain ⟨⟨v0, v1⟩, vf0, vf1⟩ := two_cells rv10
    go_upto_region 13 with fail
    have hbv6 : bv0 < w3.heap.size := by have := rv0.lt; omega
    have hw36 : w3.heap.size ≤ W6.heap.size := b6.size
    have hbl : ∀ q, q ≠ bv0 → ((w10.setCell ⟨bv0, 0, none⟩ (.int .i64 2)).setCell ⟨bv0, 1, none⟩ (.int .i64 mm)).heap[q]? = w10.heap[q]? := fun q e => (Below.heap_setCell _ _ _ _ e).trans (Below.heap_setCell _ _ _ _ e)
    have rvC := two_set1 (two_set0 rv10 (.int .i64 2)) (.int .i64 mm)
    have rwC := (row_below hb10 rw9).of_block (hbl bw (by omega))
    have rxC := (row_below hb10 rx9).of_block (hbl bx (by omega))
    have hOC := (hOA.below hb10).kept (w' := (w10.setCell ⟨bv0, 0, none⟩ (.int .i64 2)).setCell ⟨bv0, 1, none⟩ (.int .i64 mm)) (by simp [World.setCell]) (fun q hq => hbl q (by have := (hOA.lt hq).1; omega))
    have HXC : Hid (OwnHeap w3.heap.size ((w10.setCell ⟨bv0, 0, none⟩ (.int .i64 2)).setCell ⟨bv0, 1, none⟩ (.int .i64 mm)) (.slice a5 R.calls.length k5) (.slice b5 R.said.length l5) R V5) := ((HXO.out.below hB9).below hb10).kept (by simp [World.setCell]) (fun q hq => hbl q (by have := (HXO.out.lt hq).1; omega))
    have bC0 := (hB6.trans (hB9.mono z6)).trans (hb10.mono (hB6.trans (hB9.mono z6)).size)
    have bCw : Below w.heap.size w ((w10.setCell ⟨bv0, 0, none⟩ (.int .i64 2)).setCell ⟨bv0, 1, none⟩ (.int .i64 mm)) := (bC0.setCell (p := ⟨bv0, 0, none⟩) hbv0w _).setCell (p := ⟨bv0, 1, none⟩) hbv0w _
    have hz6 : W6.heap.size ≤ ((w10.setCell ⟨bv0, 0, none⟩ (.int .i64 2)).setCell ⟨bv0, 1, none⟩ (.int .i64 mm)).heap.size := by simp [World.setCell]; have := hB9.size; have := hb10.size; omega
    clear hbl rv10 rv9 rw9 rx9 hOA v0 v1 vf0 vf1 p09 d09 hab hgnj hv2 hvK hb10 bC0 rg9
    generalize (w10.setCell ⟨bv0, 0, none⟩ (.int .i64 2)).setCell ⟨bv0, 1, none⟩ (.int .i64 mm) = WC at *
    obtain ⟨⟨v0, v1⟩, vf0, vf1⟩ := two_cells rvC
    have N1 : Below WC.heap.size WC (WC.alloc (.cells #[.int .i64 2, .int .i64 mm] 37)) := (Below.refl _ _).alloc (Nat.le_refl _) _
    have hone := one_vals WC 2 mm 37 1
    have hSS := hOC.s.below N1
    have hbl0 : bw < WC.heap.size := rwC.lt
    have hblx : bx < WC.heap.size := rxC.lt
    have hsl : A.said.length ≤ 800000 := by rw [HAn.out.2.2.2.1]; omega
    have hnl : ∀ q, (Value.slice bA A.said.length lA).ownBlock = some q → W6.heap.size ≤ q := fun q e => (hOC.s.lt _ e).1
    have hnw : ¬ (Value.slice bA A.said.length lA).ownBlock = some bw := fun e => hwn (.inl e)
    have HOC : Hid (OwnHeap W6.heap.size WC (.slice (some ⟨gA, oA, none⟩) A.calls.length kA) (.slice bA A.said.length lA) A VA) := hOC
    have hbx6 := rx6.lt
    obtain ⟨⟨y0, y1, y2, y3, y4⟩, yf0, yf1, yf2, yf3, yf4⟩ := five_cells rwC
    clear hOC
    go_upto_region 14 with (at_builtin; refine append_vals _ (by rfl) _ _ (by rfl) W6.heap.size _ _ A.said [(2, mm)] (by rfl) (by rfl) hSS hone (by simp; omega) (by simp; omega) ?_; intro vS wS hrS hgS hvS; obtain ⟨aS, cS, hvS2, _⟩ := hrS.slice; subst hvS2; have rwS := (row_below N1 rwC).of_block (hgS.block bw (by simp; omega) (Ne.symm hnw)); obtain ⟨⟨t0, t1, t2, t3, t4⟩, tf0, tf1, tf2, tf3, tf4⟩ := five_cells rwS)
    have hS1 : (A.said ++ [(2, mm)]).length = A.said.length + 1 := by simp
    rw [hS1] at hrS hvS
    have hzS : WC.heap.size ≤ wS.heap.size := by have := hgS.size; simp at this; omega
    have hblS : ∀ q, q < WC.heap.size → (Value.slice bA A.said.length lA).ownBlock ≠ some q → wS.heap[q]? = WC.heap[q]? := fun q h1 h2 => (hgS.block q (by simp; omega) (Ne.symm h2)).trans (N1.block q h1)
    have hvn : ∀ q, (Value.slice aS (A.said.length + 1) cS).ownBlock = some q → (Value.slice bA A.said.length lA).ownBlock = some q ∨ WC.heap.size ≤ q := fun q e => by
      rcases hvS with h | h
      · exact .inl (by rw [← h]; exact e)
      · rw [h] at e; injection e with e; simp at e; exact .inr (by omega)
    have hOS := HOC.out.say (.slice aS (A.said.length + 1) cS) (A.said ++ [(2, mm)]) hzS hblS hrS hvn
    have hwnS : ∀ q, HeapBlocks (.slice (some ⟨gA, oA, none⟩) A.calls.length kA) (.slice aS (A.said.length + 1) cS) A.calls.length VA q → q ≠ bw := fun q hq e => by
      subst e
      rcases hq with hq | hq
      · rcases hvn _ hq with h | h
        · exact hnw h
        · omega
      · exact hwn (.inr hq)
    have hOE := hOS.kept (w' := (wS.setCell ⟨bw, 3, none⟩ (.slice aS (A.said.length + 1) cS))) (by simp [World.setCell]) (fun q hq => Below.heap_setCell _ _ _ _ (hwnS q hq))
    have rwE := five_set3 rwS (.slice aS (A.said.length + 1) cS)
    have hlow : ∀ q, q < W6.heap.size → (wS.setCell ⟨bw, 3, none⟩ (.slice aS (A.said.length + 1) cS)).heap[q]? = WC.heap[q]? := fun q hq => (Below.heap_setCell _ _ _ _ (by show q ≠ bw; omega)).trans (hblS q (by omega) (fun e => by have := hnl q e; omega))
    have rxE := rxC.of_block (hlow bx hbx6)
    have hzE : WC.heap.size ≤ (wS.setCell ⟨bw, 3, none⟩ (.slice aS (A.said.length + 1) cS)).heap.size := Nat.le_trans hzS (by simp [World.setCell])
    have HXE : Hid (OwnHeap w3.heap.size (wS.setCell ⟨bw, 3, none⟩ (.slice aS (A.said.length + 1) cS)) (.slice a5 R.calls.length k5) (.slice b5 R.said.length l5) R V5) := HXC.out.kept hzE (fun q hq => hlow q (HXO.out.lt hq).2)
    have bEw : Below w.heap.size w (wS.setCell ⟨bw, 3, none⟩ (.slice aS (A.said.length + 1) cS)) := (((bCw.trans (N1.mono bCw.size)).grown hgS (by have := bCw.size; simp; omega) (fun q e => by have := hnl q e; have := hB6.size; omega))).setCell (p := ⟨bw, 3, none⟩) (by show w.heap.size ≤ bw; have := hB6.size; omega) _
    clear t0 t1 t2 t3 t4 tf0 tf1 tf2 tf3 tf4 y0 y1 y2 y3 y4 yf0 yf1 yf2 yf3 yf4 hwnS hOS hvn hblS hzS hzE hrS hvS hgS rwS rwC rxC HXC bCw N1 hone hSS hlow HOC
    generalize (wS.setCell ⟨bw, 3, none⟩ (.slice aS (A.said.length + 1) cS)) = WE at *
    have hRA : R = { A with said := A.said ++ [(2, mm)] } := by rw [HRA.out, ← HAA.out]; unfold sayH; rw [show sayV A (va, vb) = (2, mm) from by rw [HK2.out.1, HK2.out.2]; show (2, (A.calls.getD (K : Int).toNat Cl.none).m) = (2, mm); rw [Int.toNat_natCast, HMM.out]]
    have HpE : Hid (HeapAt WE (.slice (some ⟨gA, oA, none⟩) R.calls.length kA) (.slice aS R.said.length cS) R) := by
      show HeapAt _ _ _ _
      rw [hRA]
      simpa using hOE.at
    have HXF : Hid (HeapAt WE (.slice a5 R.calls.length k5) (.slice b5 R.said.length l5) R) := HXE.out.at
    clear hOE
    have hRw : R.calls.length = A.calls.length ∧ R.now = A.now ∧ R.born = A.born ∧ R.said.length = A.said.length + 1 ∧ R.code = A.code := by rw [hRA]; exact ⟨rfl, rfl, rfl, by simp, rfl⟩
    obtain ⟨hR0, hR1, hR2, hR3, hR4⟩ := hRw
    clear hRA
    obtain ⟨⟨x0, x1, x2, x3, x4⟩, _⟩ := five_cells rxE
    obtain ⟨⟨y0, y1, y2, y3, y4⟩, _⟩ := five_cells rwE
    rw [← hR0] at y0
    rw [← hR1] at y1
    rw [← hR2] at y2
    rw [← hR3] at y3
    rw [← hR4] at y4
    have HLM := lmHeap_same R _ _ _ _ WE HXF.out HpE.out
    unfold hpCells at HLM
    clear hR0 hR1 hR2 hR3 hR4 rxE rwE
    go_wp2_with fail
    refine HLM.mono ?_
    rintro e wZ ⟨rfl, hbZ⟩
    go_wp2
    go_ret
    exact ⟨ret_bool (by first | rfl | simp), bEw.trans (hbZ.mono bEw.size)⟩
  case neg =>
    go_upto_region 13 with fail
    have hOC := hOA
    have rwC := rw9
    have rxC := rx9
    have HXC : Hid (OwnHeap w3.heap.size w9 (.slice a5 R.calls.length k5) (.slice b5 R.said.length l5) R V5) := HXO.out.below hB9
    have bCw := hB6.trans (hB9.mono z6)
    have hz6 : W6.heap.size ≤ w9.heap.size := hB9.size
    clear hOA rw9 rx9 v0 v1 vf0 vf1
    obtain ⟨⟨v0, v1⟩, vf0, vf1⟩ := two_cells rv9
    have N1 : Below w9.heap.size w9 (w9.alloc (.cells #[.int .i64 va, .int .i64 vb] 37)) := (Below.refl _ _).alloc (Nat.le_refl _) _
    have hone := one_vals w9 va vb 37 1
    have hSS := hOC.s.below N1
    have hbl0 : bw < w9.heap.size := rwC.lt
    have hblx : bx < w9.heap.size := rxC.lt
    have hsl : A.said.length ≤ 800000 := by rw [HAn.out.2.2.2.1]; omega
    have hnl : ∀ q, (Value.slice bA A.said.length lA).ownBlock = some q → W6.heap.size ≤ q := fun q e => (hOC.s.lt _ e).1
    have hnw : ¬ (Value.slice bA A.said.length lA).ownBlock = some bw := fun e => hwn (.inl e)
    have HOC : Hid (OwnHeap W6.heap.size w9 (.slice (some ⟨gA, oA, none⟩) A.calls.length kA) (.slice bA A.said.length lA) A VA) := hOC
    have hbx6 := rx6.lt
    obtain ⟨⟨y0, y1, y2, y3, y4⟩, yf0, yf1, yf2, yf3, yf4⟩ := five_cells rwC
    clear hOC
    go_upto_region 14 with (at_builtin; refine append_vals _ (by rfl) _ _ (by rfl) W6.heap.size _ _ A.said [(va, vb)] (by rfl) (by rfl) hSS hone (by simp; omega) (by simp; omega) ?_; intro vS wS hrS hgS hvS; obtain ⟨aS, cS, hvS2, _⟩ := hrS.slice; subst hvS2; have rwS := (row_below N1 rwC).of_block (hgS.block bw (by simp; omega) (Ne.symm hnw)); obtain ⟨⟨t0, t1, t2, t3, t4⟩, tf0, tf1, tf2, tf3, tf4⟩ := five_cells rwS)
    have hS1 : (A.said ++ [(va, vb)]).length = A.said.length + 1 := by simp
    rw [hS1] at hrS hvS
    have hzS : w9.heap.size ≤ wS.heap.size := by have := hgS.size; simp at this; omega
    have hblS : ∀ q, q < w9.heap.size → (Value.slice bA A.said.length lA).ownBlock ≠ some q → wS.heap[q]? = w9.heap[q]? := fun q h1 h2 => (hgS.block q (by simp; omega) (Ne.symm h2)).trans (N1.block q h1)
    have hvn : ∀ q, (Value.slice aS (A.said.length + 1) cS).ownBlock = some q → (Value.slice bA A.said.length lA).ownBlock = some q ∨ w9.heap.size ≤ q := fun q e => by
      rcases hvS with h | h
      · exact .inl (by rw [← h]; exact e)
      · rw [h] at e; injection e with e; simp at e; exact .inr (by omega)
    have hOS := HOC.out.say (.slice aS (A.said.length + 1) cS) (A.said ++ [(va, vb)]) hzS hblS hrS hvn
    have hwnS : ∀ q, HeapBlocks (.slice (some ⟨gA, oA, none⟩) A.calls.length kA) (.slice aS (A.said.length + 1) cS) A.calls.length VA q → q ≠ bw := fun q hq e => by
      subst e
      rcases hq with hq | hq
      · rcases hvn _ hq with h | h
        · exact hnw h
        · omega
      · exact hwn (.inr hq)
    have hOE := hOS.kept (w' := (wS.setCell ⟨bw, 3, none⟩ (.slice aS (A.said.length + 1) cS))) (by simp [World.setCell]) (fun q hq => Below.heap_setCell _ _ _ _ (hwnS q hq))
    have rwE := five_set3 rwS (.slice aS (A.said.length + 1) cS)
    have hlow : ∀ q, q < W6.heap.size → (wS.setCell ⟨bw, 3, none⟩ (.slice aS (A.said.length + 1) cS)).heap[q]? = w9.heap[q]? := fun q hq => (Below.heap_setCell _ _ _ _ (by show q ≠ bw; omega)).trans (hblS q (by omega) (fun e => by have := hnl q e; omega))
    have rxE := rxC.of_block (hlow bx hbx6)
    have hzE : w9.heap.size ≤ (wS.setCell ⟨bw, 3, none⟩ (.slice aS (A.said.length + 1) cS)).heap.size := Nat.le_trans hzS (by simp [World.setCell])
    have HXE : Hid (OwnHeap w3.heap.size (wS.setCell ⟨bw, 3, none⟩ (.slice aS (A.said.length + 1) cS)) (.slice a5 R.calls.length k5) (.slice b5 R.said.length l5) R V5) := HXC.out.kept hzE (fun q hq => hlow q (HXO.out.lt hq).2)
    have bEw : Below w.heap.size w (wS.setCell ⟨bw, 3, none⟩ (.slice aS (A.said.length + 1) cS)) := (((bCw.trans (N1.mono bCw.size)).grown hgS (by have := bCw.size; simp; omega) (fun q e => by have := hnl q e; have := hB6.size; omega))).setCell (p := ⟨bw, 3, none⟩) (by show w.heap.size ≤ bw; have := hB6.size; omega) _
    clear t0 t1 t2 t3 t4 tf0 tf1 tf2 tf3 tf4 y0 y1 y2 y3 y4 yf0 yf1 yf2 yf3 yf4 hwnS hOS hvn hblS hzS hzE hrS hvS hgS rwS rwC rxC HXC bCw N1 hone hSS hlow HOC
    generalize (wS.setCell ⟨bw, 3, none⟩ (.slice aS (A.said.length + 1) cS)) = WE at *
    have hRA : R = { A with said := A.said ++ [(va, vb)] } := by rw [HRA.out, ← HAA.out]; unfold sayH; rw [show sayV A (va, vb) = (va, vb) from if_neg hv2]
    have HpE : Hid (HeapAt WE (.slice (some ⟨gA, oA, none⟩) R.calls.length kA) (.slice aS R.said.length cS) R) := by
      show HeapAt _ _ _ _
      rw [hRA]
      simpa using hOE.at
    have HXF : Hid (HeapAt WE (.slice a5 R.calls.length k5) (.slice b5 R.said.length l5) R) := HXE.out.at
    clear hOE
    have hRw : R.calls.length = A.calls.length ∧ R.now = A.now ∧ R.born = A.born ∧ R.said.length = A.said.length + 1 ∧ R.code = A.code := by rw [hRA]; exact ⟨rfl, rfl, rfl, by simp, rfl⟩
    obtain ⟨hR0, hR1, hR2, hR3, hR4⟩ := hRw
    clear hRA
    obtain ⟨⟨x0, x1, x2, x3, x4⟩, _⟩ := five_cells rxE
    obtain ⟨⟨y0, y1, y2, y3, y4⟩, _⟩ := five_cells rwE
    rw [← hR0] at y0
    rw [← hR1] at y1
    rw [← hR2] at y2
    rw [← hR3] at y3
    rw [← hR4] at y4
    have HLM := lmHeap_same R _ _ _ _ WE HXF.out HpE.out
    unfold hpCells at HLM
    clear hR0 hR1 hR2 hR3 hR4 rxE rwE
    go_wp2_with fail
    refine HLM.mono ?_
    rintro e wZ ⟨rfl, hbZ⟩
    go_wp2
    go_ret
    exact ⟨ret_bool (by first | rfl | simp), bEw.trans (hbZ.mono bEw.size)⟩
end Go.Proofs.YtoaalcijdcmboabGreatDoor
