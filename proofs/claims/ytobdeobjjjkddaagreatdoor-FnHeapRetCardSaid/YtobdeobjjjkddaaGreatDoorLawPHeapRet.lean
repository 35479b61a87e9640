/-
  The law FnHeapRet, walked: whatever bytes come in, it answers true and writes to nothing that was there, where the table opForms lies as its text lays it.
-/
import Derived.Test.YtobdeobjjjkddaaGreatDoorDrawHeapStep
import Derived.Test.YtobdeobjjjkddaaGreatDoorLmStep
import Derived.Test.YtobdeobjjjkddaaGreatDoorHSame
import Derived.Test.YtobdeobjjjkddaaGreatDoorLWalk15
import Derived.Lib.MinMax

namespace Go.Proofs.YtobdeobjjjkddaaGreatDoor
open Go.RowKit
set_option maxRecDepth 100000 in
set_option maxHeartbeats 4000000 in
theorem lawHeapRet_any (w : World) (a : Option Addr) (len cap : Nat) (a2 : Option Addr) (len2 cap2 : Nat) (h : BytesAt w a len cap) (hc2 : len2 ≤ 9223372036854775807) (hT : TabAt w) :
    Calls Tryz.prog 4 #[.slice a len cap, .slice a2 len2 cap2] w fun e w' => e = .returned (.bool true) ∧ Below w.heap.size w w' := by
  have hc := h.1
  have hm := h.2.1
  unfold maxLen at hm
  have HB : Hid (BytesAt w a len cap) := h
  have HT : Hid (TabAt w) := hT
  clear h hT
  by_cases hl : 1048576 < len
  · have hlz : (1048576 : Int) < (len : Int) := by omega
    go_enter Tryz.func4, Tryz.ntmps4
    go_wp2
    go_ret
    exact ⟨rfl, Below.refl _ _⟩
  have hlz : (len : Int) ≤ 1048576 := by omega
  by_cases hl2 : 1048576 < len2
  · have hlz2 : (1048576 : Int) < (len2 : Int) := by omega
    go_enter Tryz.func4, Tryz.ntmps4
    go_wp2
    go_ret
    exact ⟨rfl, Below.refl _ _⟩
  have hlz2 : (len2 : Int) ≤ 1048576 := by omega
  go_enter Tryz.func4, Tryz.ntmps4
  go_wp2_with fail
  refine (drawHeapStep_any _ a len cap HB.out).mono ?_
  rintro e w1 ⟨v, vc, vs, ms, H, rfl, hD, hB1⟩
  obtain ⟨hM1, hH1⟩ := hD.st.here
  have l30 := hD.fine.l30
  have sd100 := hD.fine.sd
  have HPO : Hid (progOk ms = true) := hD.ok
  clear hD
  obtain ⟨aV, cV, hvV, _⟩ := id hM1
  obtain ⟨ac, kc, hvc⟩ := hH1.c.shape
  obtain ⟨aD, kD, hvs⟩ := hH1.s.shape
  subst hvV hvc hvs
  have z1 := hB1.size
  clear HB
  unfold hpCells
  go_upto_region 4 with fail
  have N2 : Below w1.heap.size w1 ((w1.alloc (.cells #[.slice aV ms.length cV] 25)).alloc (.cells #[.slice ac H.calls.length kc, .int .i64 H.now, .int .i64 H.born, .slice aD H.said.length kD, .int .i64 H.code] 29)) := ((Below.refl _ _).alloc (Nat.le_refl _) _).alloc (by simp) _
  have rp := (pbox_new w1 (.slice aV ms.length cV)).alloc (.cells #[.slice ac H.calls.length kc, .int .i64 H.now, .int .i64 H.born, .slice aD H.said.length kD, .int .i64 H.code] 29)
  have rh := five_new (w1.alloc (.cells #[.slice aV ms.length cV] 25)) 29 (.slice ac H.calls.length kc) (.int .i64 H.now) (.int .i64 H.born) (.slice aD H.said.length kD) (.int .i64 H.code)
  simp only [World.size_alloc] at rh
  generalize (w1.alloc (.cells #[.slice aV ms.length cV] 25)).alloc (.cells #[.slice ac H.calls.length kc, .int .i64 H.now, .int .i64 H.born, .slice aD H.said.length kD, .int .i64 H.code] 29) = W2 at *
  have hB2 := hB1.trans (N2.mono z1)
  have z2 := hB2.size
  have HMH : Hid (MethsAt W2 (.slice aV ms.length cV) ms ∧ HeapAt W2 (.slice ac H.calls.length kc) (.slice aD H.said.length kD) H ∧ TabAt W2) := ⟨hM1.below N2, hH1.below N2, HT.out.below hB2⟩
  clear hM1 hH1 hB1 N2 HT
  obtain ⟨vv, hvv⟩ : ∃ vv : Int, (len2 : Int) % 90 = vv := ⟨_, rfl⟩
  have hvvb : 0 ≤ vv ∧ vv < 90 := by omega
  obtain ⟨I, hI⟩ : ∃ I : Nat, (len2 : Int) % 2 = (I : Int) := ⟨((len2 : Int) % 2).toNat, by omega⟩
  have hIn : I < 2 := by omega
  have hIz2 : (I : Int) < 2 := by omega
  obtain ⟨va, vb, hvab⟩ : ∃ va vb : Int, ([(0, 0), (1, vv)] : List (Int × Int))[I]'(by simpa using hIn) = (va, vb) := ⟨_, _, rfl⟩
  have HV : Hid (va ≠ 2) := by
    show va ≠ 2
    rcases (by omega : I = 0 ∨ I = 1) with rfl | rfl <;> simp at hvab <;> obtain ⟨rfl, rfl⟩ := hvab <;> decide
  have HVAB : Hid (([(0, 0), (1, vv)] : List (Int × Int))[I]'(by simpa using hIn) = (va, vb)) := hvab
  clear hvab
  go_wp2_with fail
  refine (lmNum_any _ _).mono ?_
  rintro e w4 ⟨rfl, hb4⟩
  have hvs := two_vals w4 0 0 1 vv 37 2
  obtain ⟨z0, z1⟩ := hvs.cell_lit (i := I) (by simpa using hIn)
  rw [HVAB.out, Nat.zero_add] at z0 z1
  go_upto_region 5 with fail
  have hb3 : Below W2.heap.size W2 ((w4.alloc (.cells #[.int .i64 0, .int .i64 0, .int .i64 1, .int .i64 vv] 37)).alloc (.cells #[.int .i64 va, .int .i64 vb] 37)) := (hb4.alloc hb4.size _).alloc (hb4.alloc hb4.size _).size _
  have rv0 := two_new (w4.alloc (.cells #[.int .i64 0, .int .i64 0, .int .i64 1, .int .i64 vv] 37)) 37 (.int .i64 va) (.int .i64 vb)
  simp only [World.size_alloc] at rv0
  have hbv0w : w.heap.size ≤ w4.heap.size + 1 := by have := hb4.size; omega
  clear hvs z0 z1 hb4 hvv hI HVAB hIz2
  have HMHn : Hid (MethsAt ((w4.alloc (.cells #[.int .i64 0, .int .i64 0, .int .i64 1, .int .i64 vv] 37)).alloc (.cells #[.int .i64 va, .int .i64 vb] 37)) (.slice aV ms.length cV) ms ∧ HeapAt ((w4.alloc (.cells #[.int .i64 0, .int .i64 0, .int .i64 1, .int .i64 vv] 37)).alloc (.cells #[.int .i64 va, .int .i64 vb] 37)) (.slice ac H.calls.length kc) (.slice aD H.said.length kD) H ∧ TabAt ((w4.alloc (.cells #[.int .i64 0, .int .i64 0, .int .i64 1, .int .i64 vv] 37)).alloc (.cells #[.int .i64 va, .int .i64 vb] 37))) := ⟨HMH.out.1.below hb3, HMH.out.2.1.below hb3, HMH.out.2.2.below hb3⟩
  have rpn := row_below hb3 rp
  have rhn := row_below hb3 rh
  have hB2n := hB2.trans (hb3.mono z2)
  clear hb3
  clear HMH rp rh hB2 z2
  generalize (w4.alloc (.cells #[.int .i64 0, .int .i64 0, .int .i64 1, .int .i64 vv] 37)).alloc (.cells #[.int .i64 va, .int .i64 vb] 37) = W2 at *
  have HMH := HMHn
  have rp := rpn
  have rh := rhn
  have hB2 := hB2n
  have z2 := hB2.size
  clear HMHn rpn rhn hB2n
  generalize w4.heap.size + 1 = bv0 at *
  obtain ⟨⟨d0, d1, d2, d3, d4⟩, _⟩ := five_cells rh
  have dp := rp.cell (i := 0) (by decide)
  have hl1000 : H.calls.length ≤ 1000 := by omega
  refine wp_region_fs [[], [], [], [], [], [3, 4], [0, 1, 2, 3, 4, 5], [0, 1, 2, 3, 4, 5, 6], [0, 1, 2, 3, 4, 5, 6, 7], [0, 1, 2, 3, 4, 5, 6, 7], [0, 1, 2, 3, 4, 5, 6, 7], [], [], [0, 1, 2, 3, 4, 5, 6, 7, 8, 11, 12], [0, 1, 2, 3, 4, 5, 6, 7, 8, 9, 11, 12, 13], [0, 1, 2, 3, 4, 5, 6, 7, 8, 9, 10, 11, 12, 13, 14]] [[0], [1], [2], [3], [4], [5], [6], [7, 6], [8, 7], [9, 7], [10, 7], [11], [12], [11, 8], [12, 9], [15, 10]] [[], [], [], [], [], [], [], [], [], [], [], [], [], [11], [12], []] [fIs (.agg #[.slice aV ms.length cV]), fIs (.agg #[.slice ac H.calls.length kc, .int .i64 H.now, .int .i64 H.born, .slice aD H.said.length kD, .int .i64 H.code]), fIs (.agg #[.int .i64 10, .int .i64 0]), fIs (.agg #[.int .i64 1, .int .i64 7]), fIs (.agg #[.int .i64 va, .int .i64 vb]), fGh 5 (fun (x : Value) l => l = [x]) (fun x w1 => OpsAt w1 x [(1, 7), (va, vb)]), fWith 6 ms H 10 0 [(1, 7), (va, vb)] (.slice aD H.said.length kD), fOf fun l => l.getD 0 undef = l.getD 1 undef, fOf fun l => l.getD 0 undef = tget (l.getD 1 undef) 0, fOf fun l => l.getD 0 undef = tget (l.getD 1 undef) 1, fOf fun l => l.getD 0 undef = tget (l.getD 1 undef) 2, fBox 11 25 1, fBox 12 29 5, fRow 11 25 1 fun b f l => l.getD 0 undef = .pointer (some ⟨b, 0, none⟩) ∧ f = fun q => (l.getD 1 undef).cells.toList.getD q undef, fRow 12 29 5 fun b f l => l.getD 0 undef = .pointer (some ⟨b, 0, none⟩) ∧ f = fun q => (l.getD 1 undef).cells.toList.getD q undef, fOf fun l => l.getD 0 undef = l.getD 1 undef] 16 rfl (by kernel_rfl) (by kernel_rfl) ?_ ?_
  · refine all_lt_succ (all_lt_succ (all_lt_succ (all_lt_succ (all_lt_succ (all_lt_succ (all_lt_succ (all_lt_succ (all_lt_succ (all_lt_succ (all_lt_succ (all_lt_succ (all_lt_succ (all_lt_succ (all_lt_succ (all_lt_succ (all_lt_zero) ?_) ?_) ?_) ?_) ?_) ?_) ?_) ?_) ?_) ?_) ?_) ?_) ?_) ?_) ?_) ?_
    · intro a w val own hB hf hown hk
      have s5 := hf.at (d := 5) (v := .pointer (some ⟨w1.heap.size, 0, none⟩)) (by kernel_rfl) rfl
      have c0 := cell_below hB dp
      exact rf_pure (v := .agg #[.slice aV ms.length cV]) hB rfl rfl (by unfold execOp; go_simp) rfl
    · intro a w val own hB hf hown hk
      have s6 := hf.at (d := 6) (v := .pointer (some ⟨w1.heap.size + 1, 0, none⟩)) (by kernel_rfl) rfl
      obtain ⟨c0, c1, c2, c3, c4⟩ : _ ∧ _ ∧ _ ∧ _ ∧ _ := ⟨cell_below hB d0, cell_below hB d1, cell_below hB d2, cell_below hB d3, cell_below hB d4⟩
      exact rf_pure (v := .agg #[.slice ac H.calls.length kc, .int .i64 H.now, .int .i64 H.born, .slice aD H.said.length kD, .int .i64 H.code]) hB rfl rfl (by unfold execOp; go_simp) rfl
    · intro a w val own hB hf hown hk
      exact rf_pure (v := .agg #[.int .i64 10, .int .i64 0]) hB rfl rfl (by unfold execOp; go_simp) rfl
    · intro a w val own hB hf hown hk
      exact rf_call hB rfl rfl (by unfold execOp; go_simp) ((lmNum_any 7 w).mono fun e w' ⟨he, hb⟩ => ⟨_, he, hb, rfl⟩)
    · intro a w val own hB hf hown hk
      have s7 := hf.at (d := 7) (v := .pointer (some ⟨bv0, 0, none⟩)) (by kernel_rfl) rfl
      obtain ⟨⟨c0, c1⟩, _⟩ := two_cells (row_below hB rv0)
      exact rf_pure (v := .agg #[.int .i64 va, .int .i64 vb]) hB rfl rfl (by unfold execOp; go_simp) rfl
    · intro a w val own hB hf hown hk
      obtain ⟨k3, f3⟩ := hk 3 (show 3 ∈ [3, 4] by decide)
      have s43 := k3 43 rfl
      rw [fIs_out f3] at s43
      clear k3 f3
      obtain ⟨k4, f4⟩ := hk 4 (show 4 ∈ [3, 4] by decide)
      have s44 := k4 44 rfl
      rw [fIs_out f4] at s44
      clear k4 f4
      exact rf_new (v := .slice (some ⟨w.heap.size, 0, none⟩) 2 2) (w' := w.alloc (.cells #[.int .i64 1, .int .i64 7, .int .i64 va, .int .i64 vb] 37)) hB rfl rfl (by unfold execOp; go_simp) ((Below.refl _ _).alloc (Nat.le_refl _) _) ⟨_, rfl, Made.new fun w1 _ _ hr => (two_vals w 1 7 va (vb) 37 2).of_block (hr _ (Nat.le_refl _) (by simp))⟩
    · intro a w val own hB hf hown hk
      obtain ⟨k0, f0⟩ := hk 0 (show 0 ∈ [0, 1, 2, 3, 4, 5] by decide)
      have s40 := k0 40 rfl
      rw [fIs_out f0] at s40
      clear k0 f0
      obtain ⟨k1, f1⟩ := hk 1 (show 1 ∈ [0, 1, 2, 3, 4, 5] by decide)
      have s41 := k1 41 rfl
      rw [fIs_out f1] at s41
      clear k1 f1
      obtain ⟨k2, f2⟩ := hk 2 (show 2 ∈ [0, 1, 2, 3, 4, 5] by decide)
      have s42 := k2 42 rfl
      rw [fIs_out f2] at s42
      clear k2 f2
      obtain ⟨k5, x5, e5, m5⟩ := hk 5 (show 5 ∈ [0, 1, 2, 3, 4, 5] by decide)
      have v5 := one_eq e5
      have s45 := k5 45 rfl
      rw [v5] at s45
      clear k5 e5
      exact rf_call hB rfl rfl (by unfold execOp hpCells; go_simp) (with_call (x := 0) (vc := .slice ac H.calls.length kc) HMH.out.1 HMH.out.2.1 hB (m5.here hB) hl1000 HPO.out (by simp))
    · intro a w val own hB hf hown hk
      have s46 := (hk 6 (show 6 ∈ [0, 1, 2, 3, 4, 5, 6] by decide)).1 46 rfl
      exact rf_pure (v := val 6) hB rfl rfl (by unfold execOp; go_simp) rfl
    · intro a w val own hB hf hown hk
      obtain ⟨k6, ⟨aq, cq, ag, kg, qs, g, ok⟩, ⟨e6, hX⟩, mX⟩ := hk 6 (show 6 ∈ [0, 1, 2, 3, 4, 5, 6, 7] by decide)
      have v6 := one_eq e6
      have s46 := k6 46 rfl
      unfold WG.val at v6
      dsimp only at v6 hX mX
      rw [v6] at s46
      clear k6 e6
      obtain ⟨k7, f7⟩ := hk 7 (show 7 ∈ [0, 1, 2, 3, 4, 5, 6, 7] by decide)
      have v7 : val 7 = _ := Eq.trans f7 v6
      have s39 := k7 39 rfl
      rw [v7] at s39
      clear k7 f7
      exact rf_pure (v := .agg #[.slice aq qs.length cq]) hB rfl rfl (by unfold execOp; go_simp) (by show _ = tget (val 7) 0; rw [v7]; rfl)
    · intro a w val own hB hf hown hk
      obtain ⟨k6, ⟨aq, cq, ag, kg, qs, g, ok⟩, ⟨e6, hX⟩, mX⟩ := hk 6 (show 6 ∈ [0, 1, 2, 3, 4, 5, 6, 7] by decide)
      have v6 := one_eq e6
      have s46 := k6 46 rfl
      unfold WG.val at v6
      dsimp only at v6 hX mX
      rw [v6] at s46
      clear k6 e6
      obtain ⟨k7, f7⟩ := hk 7 (show 7 ∈ [0, 1, 2, 3, 4, 5, 6, 7] by decide)
      have v7 : val 7 = _ := Eq.trans f7 v6
      have s39 := k7 39 rfl
      rw [v7] at s39
      clear k7 f7
      exact rf_pure (v := .agg #[.slice ag g.calls.length kg, .int .i64 g.now, .int .i64 g.born, .slice aD H.said.length kD, .int .i64 g.code]) hB rfl rfl (by unfold execOp; go_simp) (by show _ = tget (val 7) 1; rw [v7]; rfl)
    · intro a w val own hB hf hown hk
      obtain ⟨k6, ⟨aq, cq, ag, kg, qs, g, ok⟩, ⟨e6, hX⟩, mX⟩ := hk 6 (show 6 ∈ [0, 1, 2, 3, 4, 5, 6, 7] by decide)
      have v6 := one_eq e6
      have s46 := k6 46 rfl
      unfold WG.val at v6
      dsimp only at v6 hX mX
      rw [v6] at s46
      clear k6 e6
      obtain ⟨k7, f7⟩ := hk 7 (show 7 ∈ [0, 1, 2, 3, 4, 5, 6, 7] by decide)
      have v7 : val 7 = _ := Eq.trans f7 v6
      have s39 := k7 39 rfl
      rw [v7] at s39
      clear k7 f7
      exact rf_pure (v := .bool ok) hB rfl rfl (by unfold execOp; go_simp) (by show _ = tget (val 7) 2; rw [v7]; rfl)
    · intro a w val own hB hf hown hk
      exact rf_new (v := .pointer (some ⟨w.heap.size, 0, none⟩)) (w' := w.alloc (.cells #[.slice none 0 0] 25)) hB rfl rfl (by unfold execOp; go_simp) ((Below.refl _ _).alloc (Nat.le_refl _) _) (fBox_new hB #[.slice none 0 0])
    · intro a w val own hB hf hown hk
      exact rf_new (v := .pointer (some ⟨w.heap.size, 0, none⟩)) (w' := w.alloc (.cells #[.slice none 0 0, .int .i64 0, .int .i64 0, .slice none 0 0, .int .i64 0] 29)) hB rfl rfl (by unfold execOp; go_simp) ((Below.refl _ _).alloc (Nat.le_refl _) _) (fBox_new hB #[.slice none 0 0, .int .i64 0, .int .i64 0, .slice none 0 0, .int .i64 0])
    · intro a w val own hB hf hown hk
      obtain ⟨k11, bo11, g11, e11, ho11, hW11, r11⟩ := hk 11 (show 11 ∈ [0, 1, 2, 3, 4, 5, 6, 7, 8, 11, 12] by decide)
      have v11 := one_eq e11
      have s8 := k11 8 rfl
      rw [v11] at s8
      clear k11 e11
      obtain ⟨k6, ⟨aq, cq, ag, kg, qs, g, ok⟩, ⟨e6, hX⟩, mX⟩ := hk 6 (show 6 ∈ [0, 1, 2, 3, 4, 5, 6, 7, 8, 11, 12] by decide)
      have v6 := one_eq e6
      have s46 := k6 46 rfl
      unfold WG.val at v6
      dsimp only at v6 hX mX
      rw [v6] at s46
      clear k6 e6
      obtain ⟨k7, f7⟩ := hk 7 (show 7 ∈ [0, 1, 2, 3, 4, 5, 6, 7, 8, 11, 12] by decide)
      have v7 : val 7 = _ := Eq.trans f7 v6
      have s39 := k7 39 rfl
      rw [v7] at s39
      clear k7 f7
      obtain ⟨k8, f8⟩ := hk 8 (show 8 ∈ [0, 1, 2, 3, 4, 5, 6, 7, 8, 11, 12] by decide)
      have v8 : val 8 = .agg #[.slice aq qs.length cq] := by have e : val 8 = tget (val 7) 0 := f8; rw [e, v7]; rfl
      have s47 := k8 47 rfl
      rw [v8] at s47
      clear k8 f8
      have c0 := r11.cell (i := 0) (by decide)
      have z0 := r11.frozen 0
      exact rf_set (w' := setAll w bo11 0 [.slice aq qs.length cq]) rfl rfl (by unfold execOp; simp only [setAll]; go_simp) (setAll_does (show own bo11 ∈ [11] by rw [ho11]; decide) hW11 _ 0 hB) (fRow_set [.slice aq qs.length cq] r11 ho11 hW11 rfl ⟨v11, by show _ = fun q => (val 8).cells.toList.getD q undef; rw [v8]; rfl⟩)
    · intro a w val own hB hf hown hk
      obtain ⟨k12, bo12, g12, e12, ho12, hW12, r12⟩ := hk 12 (show 12 ∈ [0, 1, 2, 3, 4, 5, 6, 7, 8, 9, 11, 12, 13] by decide)
      have v12 := one_eq e12
      have s9 := k12 9 rfl
      rw [v12] at s9
      clear k12 e12
      obtain ⟨k6, ⟨aq, cq, ag, kg, qs, g, ok⟩, ⟨e6, hX⟩, mX⟩ := hk 6 (show 6 ∈ [0, 1, 2, 3, 4, 5, 6, 7, 8, 9, 11, 12, 13] by decide)
      have v6 := one_eq e6
      have s46 := k6 46 rfl
      unfold WG.val at v6
      dsimp only at v6 hX mX
      rw [v6] at s46
      clear k6 e6
      obtain ⟨k7, f7⟩ := hk 7 (show 7 ∈ [0, 1, 2, 3, 4, 5, 6, 7, 8, 9, 11, 12, 13] by decide)
      have v7 : val 7 = _ := Eq.trans f7 v6
      have s39 := k7 39 rfl
      rw [v7] at s39
      clear k7 f7
      obtain ⟨k9, f9⟩ := hk 9 (show 9 ∈ [0, 1, 2, 3, 4, 5, 6, 7, 8, 9, 11, 12, 13] by decide)
      have v9 : val 9 = .agg #[.slice ag g.calls.length kg, .int .i64 g.now, .int .i64 g.born, .slice aD H.said.length kD, .int .i64 g.code] := by have e : val 9 = tget (val 7) 1 := f9; rw [e, v7]; rfl
      have s48 := k9 48 rfl
      rw [v9] at s48
      clear k9 f9
      have c0 := r12.cell (i := 0) (by decide)
      have c1 := r12.cell (i := 1) (by decide)
      have c2 := r12.cell (i := 2) (by decide)
      have c3 := r12.cell (i := 3) (by decide)
      have c4 := r12.cell (i := 4) (by decide)
      have z0 := r12.frozen 0
      have z1 := r12.frozen 1
      have z2 := r12.frozen 2
      have z3 := r12.frozen 3
      have z4 := r12.frozen 4
      exact rf_set (w' := setAll w bo12 0 [.slice ag g.calls.length kg, .int .i64 g.now, .int .i64 g.born, .slice aD H.said.length kD, .int .i64 g.code]) rfl rfl (by unfold execOp; simp only [setAll]; go_simp) (setAll_does (show own bo12 ∈ [12] by rw [ho12]; decide) hW12 _ 0 hB) (fRow_set [.slice ag g.calls.length kg, .int .i64 g.now, .int .i64 g.born, .slice aD H.said.length kD, .int .i64 g.code] r12 ho12 hW12 rfl ⟨v12, by show _ = fun q => (val 9).cells.toList.getD q undef; rw [v9]; rfl⟩)
    · intro a w val own hB hf hown hk
      have s49 := (hk 10 (show 10 ∈ [0, 1, 2, 3, 4, 5, 6, 7, 8, 9, 10, 11, 12, 13, 14] by decide)).1 49 rfl
      exact rf_pure (v := val 10) hB rfl rfl (by unfold execOp; go_simp) rfl
  intro a w3 val own hB hf hown hk
  obtain ⟨k11, bo11, g11, e11, ho11, hW11, r11⟩ := hk 11 (by decide)
  have v11 := one_eq e11
  have s8 := k11 8 rfl
  rw [v11] at s8
  clear k11 e11
  obtain ⟨k6, ⟨aq, cq, ag, kg, qs, g, ok⟩, ⟨e6, hX⟩, mX⟩ := hk 6 (by decide)
  have v6 := one_eq e6
  have s46 := k6 46 rfl
  unfold WG.val at v6
  dsimp only at v6 hX mX
  rw [v6] at s46
  clear k6 e6
  obtain ⟨k7, f7⟩ := hk 7 (by decide)
  have v7 : val 7 = _ := Eq.trans f7 v6
  have s39 := k7 39 rfl
  rw [v7] at s39
  clear k7 f7
  obtain ⟨k8, f8⟩ := hk 8 (by decide)
  have v8 : val 8 = .agg #[.slice aq qs.length cq] := by have e : val 8 = tget (val 7) 0 := f8; rw [e, v7]; rfl
  have s47 := k8 47 rfl
  rw [v8] at s47
  clear k8 f8
  obtain ⟨_, bo13, g13, ⟨e13, hg13⟩, _, _, r13⟩ := hk 13 (by decide)
  have q13 : bo13 = bo11 := by have e : val 11 = _ := e13; rw [v11] at e; injection e with e; injection e with e; injection e with e; exact e.symm
  subst q13
  have hg13 : g13 = fun q => (val 8).cells.toList.getD q undef := hg13
  rw [v8] at hg13
  subst hg13
  have r13 : w3.rowIs bo13 _ _ (fun q => [.slice aq qs.length cq].getD q undef) := r13
  clear e13
  obtain ⟨k12, bo12, g12, e12, ho12, hW12, r12⟩ := hk 12 (by decide)
  have v12 := one_eq e12
  have s9 := k12 9 rfl
  rw [v12] at s9
  clear k12 e12
  obtain ⟨k9, f9⟩ := hk 9 (by decide)
  have v9 : val 9 = .agg #[.slice ag g.calls.length kg, .int .i64 g.now, .int .i64 g.born, .slice aD H.said.length kD, .int .i64 g.code] := by have e : val 9 = tget (val 7) 1 := f9; rw [e, v7]; rfl
  have s48 := k9 48 rfl
  rw [v9] at s48
  clear k9 f9
  obtain ⟨_, bo14, g14, ⟨e14, hg14⟩, _, _, r14⟩ := hk 14 (by decide)
  have q14 : bo14 = bo12 := by have e : val 12 = _ := e14; rw [v12] at e; injection e with e; injection e with e; injection e with e; exact e.symm
  subst q14
  have hg14 : g14 = fun q => (val 9).cells.toList.getD q undef := hg14
  rw [v9] at hg14
  subst hg14
  have r14 : w3.rowIs bo14 _ _ (fun q => [.slice ag g.calls.length kg, .int .i64 g.now, .int .i64 g.born, .slice aD H.said.length kD, .int .i64 g.code].getD q undef) := r14
  clear e14
  obtain ⟨k10, f10⟩ := hk 10 (by decide)
  have v10 : val 10 = .bool ok := by have e : val 10 = tget (val 7) 2 := f10; rw [e, v7]; rfl
  have s49 := k10 49 rfl
  rw [v10] at s49
  clear k10 f10
  obtain ⟨k15, f15⟩ := hk 15 (by decide)
  have v15 : val 15 = _ := Eq.trans f15 v10
  have s10 := k15 10 rfl
  rw [v15] at s10
  clear k15 f15
  have s5 := hf.at (d := 5) (v := .pointer (some ⟨w1.heap.size, 0, none⟩)) (by kernel_rfl) rfl
  have s6 := hf.at (d := 6) (v := .pointer (some ⟨w1.heap.size + 1, 0, none⟩)) (by kernel_rfl) rfl
  have s7 := hf.at (d := 7) (v := .pointer (some ⟨bv0, 0, none⟩)) (by kernel_rfl) rfl
  obtain ⟨u, hu0, hv⟩ := frame_any a.tmps (n := 115) hf.size
  have hu : a.tmps = (u 0 :: u 1 :: u 2 :: u 3 :: u 4 :: u 5 :: u 6 :: u 7 :: u 8 :: u 9 :: u 10 :: u 11 :: u 12 :: u 13 :: u 14 :: u 15 :: u 16 :: u 17 :: u 18 :: u 19 :: u 20 :: u 21 :: u 22 :: u 23 :: u 24 :: u 25 :: u 26 :: u 27 :: u 28 :: u 29 :: u 30 :: u 31 :: u 32 :: u 33 :: u 34 :: u 35 :: u 36 :: u 37 :: u 38 :: u 39 :: u 40 :: u 41 :: u 42 :: u 43 :: u 44 :: u 45 :: u 46 :: u 47 :: u 48 :: u 49 :: u 50 :: u 51 :: u 52 :: u 53 :: u 54 :: u 55 :: u 56 :: u 57 :: u 58 :: u 59 :: u 60 :: u 61 :: u 62 :: u 63 :: u 64 :: u 65 :: u 66 :: u 67 :: u 68 :: u 69 :: u 70 :: u 71 :: u 72 :: u 73 :: u 74 :: u 75 :: u 76 :: u 77 :: u 78 :: u 79 :: u 80 :: u 81 :: u 82 :: u 83 :: u 84 :: u 85 :: u 86 :: u 87 :: u 88 :: u 89 :: u 90 :: u 91 :: u 92 :: u 93 :: u 94 :: u 95 :: u 96 :: u 97 :: u 98 :: u 99 :: u 100 :: u 101 :: u 102 :: u 103 :: u 104 :: u 105 :: u 106 :: u 107 :: u 108 :: u 109 :: u 110 :: u 111 :: u 112 :: u 113 :: u 114 :: []).toArray := hu0
  rw [(hv 5).trans s5, (hv 6).trans s6, (hv 7).trans s7, (hv 8).trans s8, (hv 9).trans s9, (hv 10).trans s10] at hu
  obtain rfl := act_eq hu (show a.defers = [] from hf.defers)
  obtain ⟨hM3, hH3⟩ := mX.here hB
  have rq := row_one r13
  have rg := row_five r14
  have hB3 := hB
  clear hu hu0 hv hk hown hf mX hB s5 s6 s7 s8 s9 s10
  generalize bo13 = bq at *
  generalize bo14 = bg at *
  clear d0 d1 d2 d3 d4 dp rp rh
  have z3 := hB3.size
  have hlg : g.calls.length ≤ 1000 := by have := hX.l; omega
  have hsg : g.said.length ≤ 1048576 := by rw [hX.s]; omega
  have hT3 := HMH.out.2.2.below hB3
  have HI := implHeapStep_any _ _ _ qs g w3 hM3 hT3 hH3 hlg hsg
  have HMX : Hid (MethsAt w3 (.slice aq (List.length qs) cq) qs ∧ HeapAt w3 (.slice ag g.calls.length kg) (.slice aD H.said.length kD) g ∧ WithOk ms H 10 0 [(1, 7), (va, vb)] qs g ok) := ⟨hM3, hH3, hX⟩
  have HRE : Hid (ok = true → heapOk qs g = true ∧ hRun qs g 1 = (retH (afterH g [(1, 7)]) (va, vb)) ∧ Good qs g ∧ ∃ j : Nat, g.now = (j : Int) ∧ ∃ hj : j < g.calls.length, 0 ≤ g.calls[j].pc ∧ g.calls[j].pc ≤ 1000) := fun e => by
    subst e
    obtain ⟨_, _, _, ho⟩ := hX.yes rfl
    have hA := with_at hX
    obtain ⟨hg, hc, hr, hs, j, m, pc, hj, hm, hpl, hn, hcur, hst, hme, hpc, hop⟩ := hA
    refine ⟨ho, ?_, hg, j, hn, hj, ?_⟩
    · have e := with_step hX (t := 1) (l := 0) rfl (by simp) rfl; rw [e]; rfl
    · have := (hg.cl j hj).pc
      have hp := hg.head.p
      unfold progOk at hp
      simp only [Bool.and_eq_true] at hp
      have ha := List.all_eq_true.1 hp.2 _ (List.getElem_mem hm)
      unfold methOk at ha
      simp only [Bool.and_eq_true, decide_eq_true_eq] at ha
      have h14 := ha.1.2
      rw [hpc]
      omega
  clear hM3 hH3 hX hT3
  generalize hRun qs g 1 = R at *
  obtain ⟨fb, hfb⟩ : ∃ fb, heapOk qs g = fb := ⟨_, rfl⟩
  rw [hfb] at HI
  have HFB : Hid (heapOk qs g = fb) := hfb
  clear hfb
  unfold hpCells at HI
  obtain ⟨⟨d0, d1, d2, d3, d4⟩, _⟩ := five_cells rg
  have dp := rq.cell (i := 0) (by decide)
  go_wp2_with fail
  refine HI.mono ?_
  rintro e w5 ⟨⟨vc5, vs5, V5, rfl, hO5⟩, hb5⟩
  obtain ⟨a5, k5, hv5⟩ := hO5.at.c.shape
  obtain ⟨b5, l5, hs5⟩ := hO5.at.s.shape
  subst hv5 hs5
  have z5 := hb5.size
  have rq5 := row_below hb5 rq
  have rg5 := row_below hb5 rg
  clear HI d0 d1 d2 d3 d4 dp rq rg
  go_upto_region 7 with fail
  have N6 : Below w5.heap.size w5 (w5.alloc (.cells #[.slice a5 R.calls.length k5, .int .i64 R.now, .int .i64 R.born, .slice b5 R.said.length l5, .int .i64 R.code] 29)) := (Below.refl _ _).alloc (Nat.le_refl _) _
  have rx6 := five_new w5 29 (.slice a5 R.calls.length k5) (.int .i64 R.now) (.int .i64 R.born) (.slice b5 R.said.length l5) (.int .i64 R.code)
  have rq6 := row_below N6 rq5
  have rg6 := row_below N6 rg5
  have b6 := hb5.trans (N6.mono z5)
  have HX6 : Hid (HeapAt (w5.alloc (.cells #[.slice a5 R.calls.length k5, .int .i64 R.now, .int .i64 R.born, .slice b5 R.said.length l5, .int .i64 R.code] 29)) (.slice a5 R.calls.length k5) (.slice b5 R.said.length l5) R) := hO5.at.below N6
  have HXO : Hid (OwnHeap w3.heap.size (w5.alloc (.cells #[.slice a5 R.calls.length k5, .int .i64 R.now, .int .i64 R.born, .slice b5 R.said.length l5, .int .i64 R.code] 29)) (.slice a5 R.calls.length k5) (.slice b5 R.said.length l5) R V5) := hO5.below N6
  clear hO5 rq5 rg5 N6
  generalize w5.alloc (.cells #[.slice a5 R.calls.length k5, .int .i64 R.now, .int .i64 R.born, .slice b5 R.said.length l5, .int .i64 R.code] 29) = W6 at *
  generalize w5.heap.size = bx at *
  have HM6 : Hid (MethsAt W6 (.slice aq (List.length qs) cq) qs ∧ HeapAt W6 (.slice ag g.calls.length kg) (.slice aD H.said.length kD) g) := ⟨HMX.out.1.below b6, HMX.out.2.1.below b6⟩
  have hB6 := (hB2.trans (hB3.mono z2)).trans (b6.mono (by have := hB2.size; omega))
  have z6 := hB6.size
  cases ok
  · have HOK := specHeapOk_any _ _ _ qs g W6 HM6.out.1 HM6.out.2 (by omega)
    rw [HFB.out] at HOK
    unfold hpCells at HOK
    obtain ⟨⟨d0, d1, d2, d3, d4⟩, _⟩ := five_cells rg6
    have dp := rq6.cell (i := 0) (by decide)
    go_wp2_with fail
    refine HOK.mono ?_
    rintro e w7 ⟨rfl, hb7⟩
    go_wp2
    go_ret
    exact ⟨ret_bool (by cases fb <;> rfl), hB6.trans (hb7.mono z6)⟩
  obtain ⟨hfb, hRE, hgd, j, hnj, hj, hpcj⟩ := HRE.out rfl
  have hfb2 : fb = true := by rw [← HFB.out]; exact hfb
  subst hfb2
  have HRA : Hid (R = (retH (afterH g [(1, 7)]) (va, vb))) := hRE
  have HGN : Hid (Good qs g ∧ g.now = (j : Int) ∧ j < g.calls.length) := ⟨hgd, hnj, hj⟩
  clear hRE HRE hfb hnj hgd
  obtain ⟨A, hA⟩ : ∃ A : Hp, A = afterH g [] := ⟨_, rfl⟩
  have HAA : Hid (A = afterH g []) := hA
  have HAn : Hid (A.now = (j : Int) ∧ A.calls.length = g.calls.length ∧ A.born = g.born ∧ A.said = g.said ∧ A.code = g.code) := by obtain ⟨x1, x2, x3, x4, x5⟩ := afterH_fields g []; rw [hA]; exact ⟨x1.trans HGN.out.2.1, x2, x3, x4, x5⟩
  clear hA
  have HAF : Hid (∀ (W : World) (vk : Value), Below W6.heap.size W6 W → OpsAt W vk [] → Calls Tryz.prog 11 #[.agg #[.slice ag g.calls.length kg, .int .i64 g.now, .int .i64 g.born, .slice aD H.said.length kD, .int .i64 g.code], vk] W fun e w' => (∃ vc' vs' V', e = .returned (.agg (hpCells vc' vs' A)) ∧ OwnHeap W.heap.size w' vc' vs' A V') ∧ Below W.heap.size W w') := fun W vk hW hk => by
    rw [HAA.out]
    have hl := HGN.out.1.lens
    exact lmAfter_any _ _ vk g _ j W (HM6.out.2.below hW) hk HGN.out.2.1 hj hpcj (by simp) (by omega) (fun i hi => by have := hl.2 i hi; omega) (by omega)
  go_upto_region 9 with fail
  refine wp_region_fsl [[], [0], [], [0, 1, 2]] [[0], [1], [2], [2, 1]] [[], [], [], [2]] [fIs (.agg #[.slice ag g.calls.length kg, .int .i64 g.now, .int .i64 g.born, .slice aD H.said.length kD, .int .i64 g.code]), fAfter 1 A, fBox 2 29 5, fRow 2 29 5 fun b f l => l.getD 0 undef = .pointer (some ⟨b, 0, none⟩) ∧ f = fun q => (l.getD 1 undef).cells.toList.getD q undef] 4 rfl (by kernel_rfl) (by kernel_rfl) ?_ ?_
  · refine all_lt_succ (all_lt_succ (all_lt_succ (all_lt_succ (all_lt_zero) ?_) ?_) ?_) ?_
    · intro a w val own hB hf hown hk
      have s9 := hf.at (d := 9) (v := .pointer (some ⟨bg, 0, none⟩)) (by kernel_rfl) rfl
      obtain ⟨⟨c0, c1, c2, c3, c4⟩, _⟩ := five_cells (row_below hB rg6)
      exact rf_pure (v := .agg #[.slice ag g.calls.length kg, .int .i64 g.now, .int .i64 g.born, .slice aD H.said.length kD, .int .i64 g.code]) hB rfl rfl (by unfold execOp; go_simp) rfl
    · intro a w val own hB hf hown hk
      obtain ⟨k0, f0⟩ := hk 0 (show 0 ∈ [0] by decide)
      have s63 := k0 63 rfl
      rw [fIs_out f0] at s63
      clear k0 f0
      exact rf_call hB rfl rfl (by unfold execOp; go_simp) (after_call hB (HAF.out w (.slice none 0 0) hB (PairRow.nil 0 w).at))
    · intro a w val own hB hf hown hk
      exact rf_new (v := .pointer (some ⟨w.heap.size, 0, none⟩)) (w' := w.alloc (.cells #[.slice none 0 0, .int .i64 0, .int .i64 0, .slice none 0 0, .int .i64 0] 29)) hB rfl rfl (by unfold execOp; go_simp) ((Below.refl _ _).alloc (Nat.le_refl _) _) (fBox_new hB #[.slice none 0 0, .int .i64 0, .int .i64 0, .slice none 0 0, .int .i64 0])
    · intro a w val own hB hf hown hk
      obtain ⟨k2, bo2, g2, e2, ho2, hW2, r2⟩ := hk 2 (show 2 ∈ [0, 1, 2] by decide)
      have v2 := one_eq e2
      have s13 := k2 13 rfl
      rw [v2] at s13
      clear k2 e2
      obtain ⟨k1, ⟨aA, kA, bA, lA, VA⟩, e1, o1, m1⟩ := hk 1 (show 1 ∈ [0, 1, 2] by decide)
      have v1 : val 1 = .agg #[.slice aA A.calls.length kA, .int .i64 A.now, .int .i64 A.born, .slice bA A.said.length lA, .int .i64 A.code] := one_eq e1
      have s64 := k1 64 rfl
      rw [v1] at s64
      dsimp only at m1 o1
      clear k1 e1
      have c0 := r2.cell (i := 0) (by decide)
      have c1 := r2.cell (i := 1) (by decide)
      have c2 := r2.cell (i := 2) (by decide)
      have c3 := r2.cell (i := 3) (by decide)
      have c4 := r2.cell (i := 4) (by decide)
      have z0 := r2.frozen 0
      have z1 := r2.frozen 1
      have z2 := r2.frozen 2
      have z3 := r2.frozen 3
      have z4 := r2.frozen 4
      exact rf_set (w' := setAll w bo2 0 [.slice aA A.calls.length kA, .int .i64 A.now, .int .i64 A.born, .slice bA A.said.length lA, .int .i64 A.code]) rfl rfl (by unfold execOp; simp only [setAll]; go_simp) (setAll_does (show own bo2 ∈ [2] by rw [ho2]; decide) hW2 _ 0 hB) (fRow_set [.slice aA A.calls.length kA, .int .i64 A.now, .int .i64 A.born, .slice bA A.said.length lA, .int .i64 A.code] r2 ho2 hW2 rfl ⟨v2, by show _ = fun q => (val 1).cells.toList.getD q undef; rw [v1]; rfl⟩)
  intro a w9 val own hB hf hown hk
  obtain ⟨k2, bo2, g2, e2, ho2, hW2, r2⟩ := hk 2 (by decide)
  have v2 := one_eq e2
  have s13 := k2 13 rfl
  rw [v2] at s13
  clear k2 e2
  obtain ⟨k1, ⟨aA, kA, bA, lA, VA⟩, e1, o1, m1⟩ := hk 1 (by decide)
  have v1 : val 1 = .agg #[.slice aA A.calls.length kA, .int .i64 A.now, .int .i64 A.born, .slice bA A.said.length lA, .int .i64 A.code] := one_eq e1
  have s64 := k1 64 rfl
  rw [v1] at s64
  dsimp only at m1 o1
  clear k1 e1
  obtain ⟨_, bo3, g3, ⟨e3, hg3⟩, _, _, r3⟩ := hk 3 (by decide)
  have q3 : bo3 = bo2 := by have e : val 2 = _ := e3; rw [v2] at e; injection e with e; injection e with e; injection e with e; exact e.symm
  subst q3
  have hg3 : g3 = fun q => (val 1).cells.toList.getD q undef := hg3
  rw [v1] at hg3
  subst hg3
  have r3 : w9.rowIs bo3 _ _ (fun q => [.slice aA A.calls.length kA, .int .i64 A.now, .int .i64 A.born, .slice bA A.said.length lA, .int .i64 A.code].getD q undef) := r3
  clear e3
  have s5 := hf.at (d := 5) (v := .pointer (some ⟨w1.heap.size, 0, none⟩)) (by kernel_rfl) rfl
  have s6 := hf.at (d := 6) (v := .pointer (some ⟨w1.heap.size + 1, 0, none⟩)) (by kernel_rfl) rfl
  have s7 := hf.at (d := 7) (v := .pointer (some ⟨bv0, 0, none⟩)) (by kernel_rfl) rfl
  have s8 := hf.at (d := 8) (v := .pointer (some ⟨bq, 0, none⟩)) (by kernel_rfl) rfl
  have s9 := hf.at (d := 9) (v := .pointer (some ⟨bg, 0, none⟩)) (by kernel_rfl) rfl
  have s11 := hf.at (d := 11) (v := .pointer (some ⟨bx, 0, none⟩)) (by kernel_rfl) rfl
  have s12 := hf.at (d := 12) (v := .bool true) (by kernel_rfl) rfl
  obtain ⟨u, hu0, hv⟩ := frame_any a.tmps (n := 115) hf.size
  have hu : a.tmps = (u 0 :: u 1 :: u 2 :: u 3 :: u 4 :: u 5 :: u 6 :: u 7 :: u 8 :: u 9 :: u 10 :: u 11 :: u 12 :: u 13 :: u 14 :: u 15 :: u 16 :: u 17 :: u 18 :: u 19 :: u 20 :: u 21 :: u 22 :: u 23 :: u 24 :: u 25 :: u 26 :: u 27 :: u 28 :: u 29 :: u 30 :: u 31 :: u 32 :: u 33 :: u 34 :: u 35 :: u 36 :: u 37 :: u 38 :: u 39 :: u 40 :: u 41 :: u 42 :: u 43 :: u 44 :: u 45 :: u 46 :: u 47 :: u 48 :: u 49 :: u 50 :: u 51 :: u 52 :: u 53 :: u 54 :: u 55 :: u 56 :: u 57 :: u 58 :: u 59 :: u 60 :: u 61 :: u 62 :: u 63 :: u 64 :: u 65 :: u 66 :: u 67 :: u 68 :: u 69 :: u 70 :: u 71 :: u 72 :: u 73 :: u 74 :: u 75 :: u 76 :: u 77 :: u 78 :: u 79 :: u 80 :: u 81 :: u 82 :: u 83 :: u 84 :: u 85 :: u 86 :: u 87 :: u 88 :: u 89 :: u 90 :: u 91 :: u 92 :: u 93 :: u 94 :: u 95 :: u 96 :: u 97 :: u 98 :: u 99 :: u 100 :: u 101 :: u 102 :: u 103 :: u 104 :: u 105 :: u 106 :: u 107 :: u 108 :: u 109 :: u 110 :: u 111 :: u 112 :: u 113 :: u 114 :: []).toArray := hu0
  rw [(hv 5).trans s5, (hv 6).trans s6, (hv 7).trans s7, (hv 8).trans s8, (hv 9).trans s9, (hv 11).trans s11, (hv 12).trans s12, (hv 13).trans s13] at hu
  obtain rfl := act_eq hu (show a.defers = [] from hf.defers)
  have hOA := m1.here hB
  have rw9 := row_five r3
  have rx9 := row_below hB rx6
  have rg9 := row_below hB rg6
  have hwn : ¬ HeapBlocks (.slice aA A.calls.length kA) (.slice bA A.said.length lA) A.calls.length VA bo3 := fun e => by have e2 := (o1 _ e).1; rw [ho2] at e2; exact absurd e2 (by decide)
  have hw6 : W6.heap.size ≤ bo3 := hW2
  have HX9 : Hid (HeapAt w9 (.slice a5 R.calls.length k5) (.slice b5 R.said.length l5) R ∧ HeapAt w9 (.slice ag g.calls.length kg) (.slice aD H.said.length kD) g ∧ MethsAt w9 (.slice aq (List.length qs) cq) qs) := ⟨HX6.out.below hB, HM6.out.2.below hB, HM6.out.1.below hB⟩
  have hB9 := hB
  clear hu hu0 hv hk hown hf hB s5 s6 s7 s8 s9 s11 s12 s13 m1 o1 r3
  generalize bo3 = bw at *
  have rv9 := row_below ((hB3.trans (b6.mono hB3.size)).trans (hB9.mono (hB3.trans (b6.mono hB3.size)).size)) rv0
  have hjA : j < A.calls.length := by rw [HAn.out.2.1]; exact hj
  obtain ⟨gA, oA, cA, hvA, hgA, _⟩ := hOA.c.form (by omega)
  injection hvA with hvA1 _ hvA2
  subst hvA1 hvA2
  have hgw : gA ≠ bw := fun e => hwn (.inr (.inl (by rw [e]; rfl)))
  have hgx : gA ≠ bx := fun e => by have := rx6.lt; omega
  obtain ⟨⟨q0, q1, q2, q3, q4, q5⟩, qf0, qf1, qf2, qf3, qf4, qf5⟩ := ocell_at hOA.c hjA
  obtain ⟨⟨y0, y1, y2, y3, y4⟩, yf0, yf1, yf2, yf3, yf4⟩ := five_cells rw9
  rw [HAn.out.1] at y1
  obtain ⟨tq, hto⟩ : ∃ tq : Int, A.calls[j].sender = tq := ⟨_, rfl⟩
  rw [hto] at q4
  have HTO : Hid (A.calls[j].sender = tq) := hto
  clear hto
  go_upto_region 14 with fail
  have hO1 := hOA.put hjA (put_cell hOA.c hjA 5 (.bool true) { A.calls[j] with dead := true } (.inr (.inr rfl)) rfl rfl rfl (by simp) (by simp) (by simp))
  rw [putV_self] at hO1
  have hj1 : j < (A.calls.set j { A.calls[j] with dead := true }).length := by rw [List.length_set]; exact hjA
  have hO2 := hO1.put hj1 (put_cell hO1.c hj1 4 (.int .i64 (-1)) { (A.calls.set j { A.calls[j] with dead := true })[j] with sender := -1 } (.inr (.inl rfl)) rfl rfl rfl (by simp) (by simp) (by simp))
  rw [putV_self] at hO2
  have hO3 := hO2.kept (w' := (((w9.setCell ⟨gA, oA + j * 6 + 5, none⟩ (.bool true)).setCell ⟨gA, oA + j * 6 + 4, none⟩ (.int .i64 (-1))).setCell ⟨bw, 1, none⟩ (.int .i64 tq))) (by simp [World.setCell]) (fun q hq => Below.heap_setCell _ _ _ _ (fun e => hwn (by rw [show (⟨bw, 1, none⟩ : Addr).block = bw from rfl] at e; rw [← e]; simpa using hq)))
  obtain ⟨D, hD⟩ : ∃ D : Hp, D = { A with calls := A.calls.set j { A.calls[j] with sender := -1, dead := true }, now := tq } := ⟨_, rfl⟩
  have HDf : Hid (D.calls.length = A.calls.length ∧ D.said = A.said ∧ D.born = A.born ∧ D.code = A.code ∧ D.now = tq) := by rw [hD]; exact ⟨by simp, rfl, rfl, rfl, rfl⟩
  have HDL : Hid (leaveH (afterH g [(1, 7)]) = D) := by
    show _ = _
    have e1 := leave_after HGN.out.2.1 hj [(1, 7)]
    have e2 := after_at HGN.out.2.1 hj [] hj
    rw [← HAA.out, if_pos rfl] at e2
    have e3 : A.calls[j] = { g.calls[j] with stack := [], pc := g.calls[j].pc + 1 } := by rw [← e2]; simp [hjA]
    have e4 : A.calls.set j { A.calls[j] with sender := -1, dead := true } = g.calls.set j { g.calls[j] with pc := g.calls[j].pc + 1, stack := [], sender := -1, dead := true } := by
      rw [e3]
      have : A.calls = g.calls.set j { g.calls[j] with stack := [], pc := g.calls[j].pc + 1 } := by rw [HAA.out]; unfold afterH; rw [setH_at HGN.out.2.1 hj, curC_at HGN.out.2.1 hj]
      rw [this, List.set_set]
    have e5 : tq = g.calls[j].sender := by rw [← HTO.out, e3]
    obtain ⟨_, _, f3, f4, f5⟩ := afterH_fields g []
    rw [← HAA.out] at f3 f4 f5
    rw [e1, hD, e4, e5, f3, f4, f5]
  have HSTK : Hid (∀ T, (hT : T < D.calls.length) → D.calls[T].stack.length ≤ 100) := by
    intro T hT
    have hTA : T < A.calls.length := by rw [← HDf.out.1]; exact hT
    have hTg : T < g.calls.length := by rw [← HAn.out.2.1]; exact hTA
    have e2 := after_at HGN.out.2.1 hj [] hTg
    rw [← HAA.out] at e2
    have hS : A.calls[T].stack.length ≤ 100 := by
      have h6 := (HGN.out.1.cl T hTg).s
      have e3 : A.calls[T] = A.calls.getD T Cl.none := by simp [hTA]
      rw [e3, e2]
      split <;> simp <;> omega
    have e4 : D.calls[T] = (A.calls.set j { A.calls[j] with sender := -1, dead := true })[T]'(by rw [List.length_set]; exact hTA) := by simp only [hD]
    rw [e4, List.getElem_set]
    split
    · rename_i e5
      subst e5
      exact hS
    · exact hS
  have hOD : OwnHeap W6.heap.size (((w9.setCell ⟨gA, oA + j * 6 + 5, none⟩ (.bool true)).setCell ⟨gA, oA + j * 6 + 4, none⟩ (.int .i64 (-1))).setCell ⟨bw, 1, none⟩ (.int .i64 tq)) (.slice (some ⟨gA, oA, none⟩) D.calls.length kA) (.slice bA D.said.length lA) D VA := by
    rw [hD]
    exact ⟨by simpa using hO3.c, by simpa using hO3.s, by simpa using hO3.apart⟩
  have hwnD : ¬ HeapBlocks (.slice (some ⟨gA, oA, none⟩) D.calls.length kA) (.slice bA D.said.length lA) D.calls.length VA bw := by rw [HDf.out.1, HDf.out.2.1]; exact hwn
  have hbl : ∀ q, q ≠ gA → ((w9.setCell ⟨gA, oA + j * 6 + 5, none⟩ (.bool true)).setCell ⟨gA, oA + j * 6 + 4, none⟩ (.int .i64 (-1))).heap[q]? = w9.heap[q]? := fun q e => (Below.heap_setCell _ _ _ _ e).trans (Below.heap_setCell _ _ _ _ e)
  have rw0 := five_set1 (rw9.of_block (hbl bw (Ne.symm hgw))) (.int .i64 tq)
  rw [← HDf.out.1, ← HDf.out.2.1, ← HDf.out.2.2.1, ← HDf.out.2.2.2.1] at rw0
  have hblD : ∀ q, q ≠ gA → q ≠ bw → (((w9.setCell ⟨gA, oA + j * 6 + 5, none⟩ (.bool true)).setCell ⟨gA, oA + j * 6 + 4, none⟩ (.int .i64 (-1))).setCell ⟨bw, 1, none⟩ (.int .i64 tq)).heap[q]? = w9.heap[q]? := fun q e1 e2 => (Below.heap_setCell _ _ _ _ e2).trans (hbl q e1)
  have hbx6 := rx6.lt
  have hv6 : bv0 < W6.heap.size := by have := rv0.lt; have := (hB3.trans (b6.mono hB3.size)).size; omega
  have rxD := rx9.of_block (hblD bx hgx.symm (by omega))
  have rvD := rv9.of_block (hblD bv0 (by omega) (by omega))
  have HXD : Hid (OwnHeap w3.heap.size (((w9.setCell ⟨gA, oA + j * 6 + 5, none⟩ (.bool true)).setCell ⟨gA, oA + j * 6 + 4, none⟩ (.int .i64 (-1))).setCell ⟨bw, 1, none⟩ (.int .i64 tq)) (.slice a5 R.calls.length k5) (.slice b5 R.said.length l5) R V5) := (HXO.out.below hB9).kept (by simp [World.setCell]) (fun q hq => hblD q (by have := (HXO.out.lt hq).2; omega) (by have := (HXO.out.lt hq).2; omega))
  have b69 := hB6.trans (hB9.mono z6)
  have bDw : Below w.heap.size w (((w9.setCell ⟨gA, oA + j * 6 + 5, none⟩ (.bool true)).setCell ⟨gA, oA + j * 6 + 4, none⟩ (.int .i64 (-1))).setCell ⟨bw, 1, none⟩ (.int .i64 tq)) := (((b69.setCell (p := ⟨gA, oA + j * 6 + 5, none⟩) (by show w.heap.size ≤ gA; omega) _).setCell (p := ⟨gA, oA + j * 6 + 4, none⟩) (by show w.heap.size ≤ gA; omega) _).setCell (p := ⟨bw, 1, none⟩) (by show w.heap.size ≤ bw; omega) _)
  have hzD : W6.heap.size ≤ (((w9.setCell ⟨gA, oA + j * 6 + 5, none⟩ (.bool true)).setCell ⟨gA, oA + j * 6 + 4, none⟩ (.int .i64 (-1))).setCell ⟨bw, 1, none⟩ (.int .i64 tq)).heap.size := by simp [World.setCell]; exact hB9.size
  clear hbl hblD rw9 rx9 rv9 hO1 hO2 hO3 hOA q0 q1 q2 q3 q4 q5 qf0 qf1 qf2 qf3 qf4 qf5 y0 y1 y2 y3 y4 yf0 yf1 yf2 yf3 yf4 hD b69 rg9
  generalize (((w9.setCell ⟨gA, oA + j * 6 + 5, none⟩ (.bool true)).setCell ⟨gA, oA + j * 6 + 4, none⟩ (.int .i64 (-1))).setCell ⟨bw, 1, none⟩ (.int .i64 tq)) = WC at *
  by_cases ht0 : tq < 0
  case neg =>
    obtain ⟨T, hTq⟩ : ∃ T : Nat, tq = (T : Int) := ⟨tq.toNat, by omega⟩
    subst hTq
    have HTQ : Hid (A.calls[j].sender = (T : Int)) := HTO.out
    have HDn : Hid (D.now = (T : Int)) := HDf.out.2.2.2.2
    have hcsd : ¬ (curC (afterH g [(1, 7)])).sender < 0 := by
      have e := (after_same HGN.out.2.1 hj [(1, 7)] hj).2.1
      have e2 := (after_same HGN.out.2.1 hj [] hj).2.1
      rw [← HAA.out] at e2
      have e3 : A.calls[j].sender = g.calls[j].sender := by rw [← e2]; simp [hjA]
      unfold curC
      rw [show (afterH g [(1, 7)]).now = (j : Int) from HGN.out.2.1, Int.toNat_natCast, e, ← e3, HTQ.out]
      omega
    have hTD : T < D.calls.length := by
      have e2 := (after_same HGN.out.2.1 hj [] hj).2.1
      rw [← HAA.out] at e2
      have e3 : A.calls[j].sender = g.calls[j].sender := by rw [← e2]; simp [hjA]
      have := (HGN.out.1.cl j hj).sd.2
      rw [← e3, HTQ.out] at this
      rw [HDf.out.1, HAn.out.2.1]
      omega
    have hRA : R = { D with calls := D.calls.set T { D.calls[T] with stack := D.calls[T].stack ++ [(va, vb)] } } := by
      rw [HRA.out]
      unfold retH
      rw [if_neg hcsd, HDL.out]
      unfold pushH setH curC
      rw [HDn.out, Int.toNat_natCast]
      simp [hTD]
    have hTs : D.calls[T].stack.length ≤ 100 := HSTK.out T hTD
    clear hcsd
    obtain ⟨⟨p0, p1, p2, p3, p4, p5⟩, pf0, pf1, pf2, pf3, pf4, pf5⟩ := ocell_at hOD.c hTD
    have hPT := (hOD.c.lists T hTD).2
    obtain ⟨aT, cT, hvT, _⟩ := hPT.slice
    rw [hvT] at p3 hPT
    have HVT : Hid ((VA T).2 = .slice aT D.calls[T].stack.length cT) := hvT
    clear hvT p0 p1 p2 p4 p5 pf0 pf1 pf2 pf4 pf5
    have HRAh : Hid (R = { D with calls := D.calls.set T { D.calls[T] with stack := D.calls[T].stack ++ [(va, vb)] } }) := hRA
    clear hRA
    obtain ⟨⟨v0, v1⟩, vf0, vf1⟩ := two_cells rvD
    have hbwl : bw < WC.heap.size := rw0.lt
    have hgAl : gA < WC.heap.size := (hOD.c.lt (g := gA) (.inl rfl)).2
    have hbvl : bv0 < WC.heap.size := rvD.lt
    have hnT : ∀ q, (Value.slice aT D.calls[T].stack.length cT).ownBlock = some q → W6.heap.size ≤ q := fun q e => (hPT.lt q e).1
    have hap := hOD.c.apart (T * 2 + 1) (by omega)
    have hnA : (Value.slice aT D.calls[T].stack.length cT).ownBlock ≠ some gA := fun e => (hap gA (by rw [lst_1, HVT.out]; exact e)).1 rfl
    have hnw : (Value.slice aT D.calls[T].stack.length cT).ownBlock ≠ some bw := fun e => hwnD (.inr (.inr ⟨T * 2 + 1, by omega, by rw [lst_1, HVT.out]; exact e⟩))
    have hnv : (Value.slice aT D.calls[T].stack.length cT).ownBlock ≠ some bv0 := fun e => by have := hnT _ e; omega
    have HOD : Hid (OwnHeap W6.heap.size WC (.slice (some ⟨gA, oA, none⟩) D.calls.length kA) (.slice bA D.said.length lA) D VA) := hOD
    obtain ⟨⟨y0, y1, y2, y3, y4⟩, yf0, yf1, yf2, yf3, yf4⟩ := five_cells rw0
    clear hOD hap y1 y2 y3 y4 yf0 yf1 yf2 yf3 yf4 vf0 vf1
    have hTz : (T : Int) < (D.calls.length : Int) := by omega
    have hgA6 : W6.heap.size ≤ gA := hgA
    have hgv : gA ≠ bv0 := by omega
    have hBW : W6.heap.size ≤ WC.heap.size := hzD
    obtain ⟨own0, h901, h902, h903⟩ : ∃ own0 : Nat → Nat, (∀ r, (Value.slice aT D.calls[T].stack.length cT).ownBlock = some r → own0 r = 901) ∧ own0 gA = 902 ∧ (∀ r, r ≠ gA → (Value.slice aT D.calls[T].stack.length cT).ownBlock ≠ some r → own0 r = 903) := ⟨fun r => if (Value.slice aT D.calls[T].stack.length cT).ownBlock = some r then 901 else if r = gA then 902 else 903, fun r e => if_pos e, by dsimp only; rw [if_neg hnA, if_pos rfl], fun r e1 e2 => by dsimp only; rw [if_neg e2, if_neg e1]⟩
    have hln : D.calls[T].stack.length + [((va : Int), (vb : Int))].length ≤ 3000000 := by simp; omega
    go_upto_region 17 with fail
    refine wp_region_fx W6.heap.size own0 [iRest WC gA (.slice aT D.calls[T].stack.length cT), iRow WC gA, iList (.slice aT D.calls[T].stack.length cT) D.calls[T].stack] [[], [0], [], [], [3], [], [3, 4, 5], [3, 4, 5, 6], [3, 4, 5, 6, 7], [], [9], [3, 4, 5, 6, 7, 8, 9, 10], [0, 1, 2, 3, 4, 5, 6, 7, 8, 9, 10, 11], [0, 1, 2, 3, 4, 5, 6, 7, 8, 9, 10, 11, 12], [0, 1, 2, 3, 4, 5, 6, 7, 8, 9, 10, 11, 12, 13]] [[0], [1], [2], [3], [4], [5], [6], [7], [8], [9], [10], [11], [12], [13], [11]] [[], [], [], [], [], [], [], [], [], [], [], [901], [], [], [902]] [fIs (.pointer (some ⟨bw, 0, none⟩)), fIs (.slice (some ⟨gA, oA, none⟩) D.calls.length kA), fIs (.int .i64 (T : Int)), fIs (.pointer (some ⟨bw, 0, none⟩)), fIs (.slice (some ⟨gA, oA, none⟩) D.calls.length kA), fIs (.int .i64 (T : Int)), fIs (.pointer (some ⟨gA, oA + T * 6, none⟩)), fIs (.pointer (some ⟨gA, oA + T * 6 + 3, none⟩)), fIs (.slice aT D.calls[T].stack.length cT), fIs (.agg #[.int .i64 va, .int .i64 vb]), fGh 10 (fun (x : Value) l => l = [x]) (fun x w1 => OpsAt w1 x [(va, vb)]), fApp 901 11 (D.calls[T].stack ++ [(va, vb)]).length (D.calls[T].stack ++ [(va, vb)]), fIs (.pointer (some ⟨gA, oA + T * 6, none⟩)), fIs (.pointer (some ⟨gA, oA + T * 6 + 3, none⟩)), fSet 902 gA WC (oA + T * 6 + 3)] 15 rfl (by kernel_rfl) (by kernel_rfl) ?_ ?_ ?_
    · intro f hf
      rcases List.mem_cons.1 hf with rfl | hf
      · exact ⟨fun r hr => ⟨h903 r hr.2.1 hr.2.2, hr.1⟩, Nat.le_refl _, fun _ _ _ _ => rfl⟩
      rcases List.mem_cons.1 hf with rfl | hf
      · exact ⟨fun r hr => by rw [show r = gA from hr]; exact ⟨h902, hgAl⟩, rfl⟩
      obtain rfl := List.mem_singleton.1 hf
      exact ⟨fun r hr => ⟨h901 r hr, (hPT.lt r hr).2⟩, hPT.below (Below.refl _ _).drew⟩
    · refine all_lt_succ (all_lt_succ (all_lt_succ (all_lt_succ (all_lt_succ (all_lt_succ (all_lt_succ (all_lt_succ (all_lt_succ (all_lt_succ (all_lt_succ (all_lt_succ (all_lt_succ (all_lt_succ (all_lt_succ (all_lt_zero) ?_) ?_) ?_) ?_) ?_) ?_) ?_) ?_) ?_) ?_) ?_) ?_) ?_) ?_) ?_
      · intro a w val own hB hf hown hk hin
        have s13 := hf.at (d := 13) (v := .pointer (some ⟨bw, 0, none⟩)) (by kernel_rfl) rfl
        exact rf_pure (v := .pointer (some ⟨bw, 0, none⟩)) hB rfl rfl (by unfold execOp; go_simp) rfl
      · intro a w val own hB hf hown hk hin
        obtain ⟨k0, f0⟩ := hk 0 (show 0 ∈ [0] by decide)
        have s95 := k0 95 rfl
        rw [fIs_out f0] at s95
        clear k0 f0
        have q0 := iRest_out (hin (iRest WC gA (.slice aT D.calls[T].stack.length cT)) (List.mem_cons_self ..) (by kernel_rfl))
        have c0 := (World.cell?_of_block (a := ⟨bw, 0, none⟩) (q0.2 bw hbwl hgw.symm hnw)).trans y0
        exact rf_pure (v := .slice (some ⟨gA, oA, none⟩) D.calls.length kA) hB rfl rfl (by unfold execOp; go_simp) rfl
      · intro a w val own hB hf hown hk hin
        have s14 := hf.at (d := 14) (v := .int .i64 (T : Int)) (by kernel_rfl) rfl
        exact rf_pure (v := .int .i64 (T : Int)) hB rfl rfl (by unfold execOp; go_simp) rfl
      · intro a w val own hB hf hown hk hin
        have s13 := hf.at (d := 13) (v := .pointer (some ⟨bw, 0, none⟩)) (by kernel_rfl) rfl
        exact rf_pure (v := .pointer (some ⟨bw, 0, none⟩)) hB rfl rfl (by unfold execOp; go_simp) rfl
      · intro a w val own hB hf hown hk hin
        obtain ⟨k3, f3⟩ := hk 3 (show 3 ∈ [3] by decide)
        have s98 := k3 98 rfl
        rw [fIs_out f3] at s98
        clear k3 f3
        have q0 := iRest_out (hin (iRest WC gA (.slice aT D.calls[T].stack.length cT)) (List.mem_cons_self ..) (by kernel_rfl))
        have c0 := (World.cell?_of_block (a := ⟨bw, 0, none⟩) (q0.2 bw hbwl hgw.symm hnw)).trans y0
        exact rf_pure (v := .slice (some ⟨gA, oA, none⟩) D.calls.length kA) hB rfl rfl (by unfold execOp; go_simp) rfl
      · intro a w val own hB hf hown hk hin
        have s14 := hf.at (d := 14) (v := .int .i64 (T : Int)) (by kernel_rfl) rfl
        exact rf_pure (v := .int .i64 (T : Int)) hB rfl rfl (by unfold execOp; go_simp) rfl
      · intro a w val own hB hf hown hk hin
        obtain ⟨k4, f4⟩ := hk 4 (show 4 ∈ [3, 4, 5] by decide)
        have s99 := k4 99 rfl
        rw [fIs_out f4] at s99
        clear k4 f4
        obtain ⟨k5, f5⟩ := hk 5 (show 5 ∈ [3, 4, 5] by decide)
        have s100 := k5 100 rfl
        rw [fIs_out f5] at s100
        clear k5 f5
        have hTz2 : (T : Int) < (D.calls.length : Int) := hTz
        exact rf_pure (v := .pointer (some ⟨gA, oA + T * 6, none⟩)) hB rfl rfl (by unfold execOp; go_simp) rfl
      · intro a w val own hB hf hown hk hin
        obtain ⟨k6, f6⟩ := hk 6 (show 6 ∈ [3, 4, 5, 6] by decide)
        have s101 := k6 101 rfl
        rw [fIs_out f6] at s101
        clear k6 f6
        exact rf_pure (v := .pointer (some ⟨gA, oA + T * 6 + 3, none⟩)) hB rfl rfl (by unfold execOp; go_simp) rfl
      · intro a w val own hB hf hown hk hin
        obtain ⟨k7, f7⟩ := hk 7 (show 7 ∈ [3, 4, 5, 6, 7] by decide)
        have s102 := k7 102 rfl
        rw [fIs_out f7] at s102
        clear k7 f7
        have q1 := iRow_out (hin (iRow WC gA) (List.mem_cons_of_mem _ (List.mem_cons_self ..)) (by kernel_rfl))
        have c0 := (World.cell?_of_block (a := ⟨gA, oA + T * 6 + 3, none⟩) q1.2.2).trans p3
        exact rf_pure (v := .slice aT D.calls[T].stack.length cT) hB rfl rfl (by unfold execOp; go_simp) rfl
      · intro a w val own hB hf hown hk hin
        have s7 := hf.at (d := 7) (v := .pointer (some ⟨bv0, 0, none⟩)) (by kernel_rfl) rfl
        have q0 := iRest_out (hin (iRest WC gA (.slice aT D.calls[T].stack.length cT)) (List.mem_cons_self ..) (by kernel_rfl))
        have c0 := (World.cell?_of_block (a := ⟨bv0, 0, none⟩) (q0.2 bv0 hbvl hgv.symm hnv)).trans v0
        have c1 := (World.cell?_of_block (a := ⟨bv0, 1, none⟩) (q0.2 bv0 hbvl hgv.symm hnv)).trans v1
        exact rf_pure (v := .agg #[.int .i64 va, .int .i64 vb]) hB rfl rfl (by unfold execOp; go_simp) rfl
      · intro a w val own hB hf hown hk hin
        obtain ⟨k9, f9⟩ := hk 9 (show 9 ∈ [9] by decide)
        have s104 := k9 104 rfl
        rw [fIs_out f9] at s104
        clear k9 f9
        exact rf_newB hBW (v := .slice (some ⟨w.heap.size, 0, none⟩) 1 1) (w' := w.alloc (.cells #[.int .i64 va, .int .i64 vb] 37)) hB rfl rfl (by unfold execOp; go_simp) ((Below.refl _ _).alloc (Nat.le_refl _) _) ⟨_, rfl, Made.new fun w1 _ _ hr => (one_vals w va vb 37 1).of_block (hr _ (Nat.le_refl _) (by simp))⟩
      · intro a w val own hB hf hown hk hin
        obtain ⟨k8, f8⟩ := hk 8 (show 8 ∈ [3, 4, 5, 6, 7, 8, 9, 10] by decide)
        have s103 := k8 103 rfl
        rw [fIs_out f8] at s103
        clear k8 f8
        obtain ⟨k10, x10, e10, m10⟩ := hk 10 (show 10 ∈ [3, 4, 5, 6, 7, 8, 9, 10] by decide)
        have v10 := one_eq e10
        have s105 := k10 105 rfl
        rw [v10] at s105
        clear k10 e10
        have q2 := iList_out (hin (iList (.slice aT D.calls[T].stack.length cT) D.calls[T].stack) (List.mem_cons_of_mem _ (List.mem_cons_of_mem _ (List.mem_cons_self ..))) (by kernel_rfl))
        exact rfx_append (v := .slice aT D.calls[T].stack.length cT) (xv := x10) hBW hB rfl rfl rfl (by go_simp) (by go_simp) q2.1 q2.2 (m10.here hB) hln rfl (fun y w' h1 h2 => ⟨y, rfl, h1, h2⟩)
      · intro a w val own hB hf hown hk hin
        obtain ⟨k1, f1⟩ := hk 1 (show 1 ∈ [0, 1, 2, 3, 4, 5, 6, 7, 8, 9, 10, 11] by decide)
        have s96 := k1 96 rfl
        rw [fIs_out f1] at s96
        clear k1 f1
        obtain ⟨k2, f2⟩ := hk 2 (show 2 ∈ [0, 1, 2, 3, 4, 5, 6, 7, 8, 9, 10, 11] by decide)
        have s97 := k2 97 rfl
        rw [fIs_out f2] at s97
        clear k2 f2
        have hTz2 : (T : Int) < (D.calls.length : Int) := hTz
        exact rf_pure (v := .pointer (some ⟨gA, oA + T * 6, none⟩)) hB rfl rfl (by unfold execOp; go_simp) rfl
      · intro a w val own hB hf hown hk hin
        obtain ⟨k12, f12⟩ := hk 12 (show 12 ∈ [0, 1, 2, 3, 4, 5, 6, 7, 8, 9, 10, 11, 12] by decide)
        have s107 := k12 107 rfl
        rw [fIs_out f12] at s107
        clear k12 f12
        exact rf_pure (v := .pointer (some ⟨gA, oA + T * 6 + 3, none⟩)) hB rfl rfl (by unfold execOp; go_simp) rfl
      · intro a w val own hB hf hown hk hin
        obtain ⟨k13, f13⟩ := hk 13 (show 13 ∈ [0, 1, 2, 3, 4, 5, 6, 7, 8, 9, 10, 11, 12, 13] by decide)
        have s108 := k13 108 rfl
        rw [fIs_out f13] at s108
        clear k13 f13
        obtain ⟨k11, y11, e11, o11, P11⟩ := hk 11 (show 11 ∈ [0, 1, 2, 3, 4, 5, 6, 7, 8, 9, 10, 11, 12, 13] by decide)
        have v11 := one_eq e11
        have s106 := k11 106 rfl
        rw [v11] at s106
        clear k11 e11
        have q1 := iRow_out (hin (iRow WC gA) (List.mem_cons_of_mem _ (List.mem_cons_self ..)) (by kernel_rfl))
        have c0 := (World.cell?_of_block (a := ⟨gA, oA + T * 6 + 3, none⟩) q1.2.2).trans p3
        have z0 := (World.frozen?_of_block (a := ⟨gA, oA + T * 6 + 3, none⟩) q1.2.2).trans pf3
        exact rf_set (w' := w.setCell ⟨gA, oA + T * 6 + 3, none⟩ (.slice y11.1 (D.calls[T].stack ++ [(va, vb)]).length y11.2)) rfl rfl (by unfold execOp; go_simp) (Does.set hB (show own gA ∈ [902] by rw [q1.1]; decide) hgA6 _ _) ⟨(if_pos q1.2.1).trans q1.1, by simpa [World.setCell] using q1.2.1, by show _ = (WC.setCell ⟨gA, oA + T * 6 + 3, none⟩ (val 11)).heap[gA]?; rw [v11]; exact set_block q1.2.2 _ _⟩
    intro a wE val own hB hf hown hk hin
    obtain ⟨k11, y11, e11, o11, P11⟩ := hk 11 (by decide)
    have v11 := one_eq e11
    have s106 := k11 106 rfl
    rw [v11] at s106
    clear k11 e11
    obtain ⟨_, g14, g14l, g14h⟩ := hk 14 (by decide)
    have h14 : wE.heap[gA]? = (WC.setCell ⟨gA, oA + T * 6 + 3, none⟩ (val 11)).heap[gA]? := g14h
    rw [v11] at h14
    have q0 := iRest_out (hin (iRest WC gA (.slice aT D.calls[T].stack.length cT)) (List.mem_cons_self ..) (show ∀ k, k < 15 → ∀ x ∈ ([[], [], [], [], [], [], [], [], [], [], [], [901], [], [], [902]] : List (List Nat)).getD k [], x ∉ [903] by decide))
    clear g14h g14 g14l
    have s7 := hf.at (d := 7) (v := .pointer (some ⟨bv0, 0, none⟩)) (by kernel_rfl) rfl
    have s11 := hf.at (d := 11) (v := .pointer (some ⟨bx, 0, none⟩)) (by kernel_rfl) rfl
    have s12 := hf.at (d := 12) (v := .bool true) (by kernel_rfl) rfl
    have s13 := hf.at (d := 13) (v := .pointer (some ⟨bw, 0, none⟩)) (by kernel_rfl) rfl
    have s14 := hf.at (d := 14) (v := .int .i64 (T : Int)) (by kernel_rfl) rfl
    obtain ⟨u', hu0, hv⟩ := frame_any a.tmps (n := 115) hf.size
    have hu : a.tmps = (u' 0 :: u' 1 :: u' 2 :: u' 3 :: u' 4 :: u' 5 :: u' 6 :: u' 7 :: u' 8 :: u' 9 :: u' 10 :: u' 11 :: u' 12 :: u' 13 :: u' 14 :: u' 15 :: u' 16 :: u' 17 :: u' 18 :: u' 19 :: u' 20 :: u' 21 :: u' 22 :: u' 23 :: u' 24 :: u' 25 :: u' 26 :: u' 27 :: u' 28 :: u' 29 :: u' 30 :: u' 31 :: u' 32 :: u' 33 :: u' 34 :: u' 35 :: u' 36 :: u' 37 :: u' 38 :: u' 39 :: u' 40 :: u' 41 :: u' 42 :: u' 43 :: u' 44 :: u' 45 :: u' 46 :: u' 47 :: u' 48 :: u' 49 :: u' 50 :: u' 51 :: u' 52 :: u' 53 :: u' 54 :: u' 55 :: u' 56 :: u' 57 :: u' 58 :: u' 59 :: u' 60 :: u' 61 :: u' 62 :: u' 63 :: u' 64 :: u' 65 :: u' 66 :: u' 67 :: u' 68 :: u' 69 :: u' 70 :: u' 71 :: u' 72 :: u' 73 :: u' 74 :: u' 75 :: u' 76 :: u' 77 :: u' 78 :: u' 79 :: u' 80 :: u' 81 :: u' 82 :: u' 83 :: u' 84 :: u' 85 :: u' 86 :: u' 87 :: u' 88 :: u' 89 :: u' 90 :: u' 91 :: u' 92 :: u' 93 :: u' 94 :: u' 95 :: u' 96 :: u' 97 :: u' 98 :: u' 99 :: u' 100 :: u' 101 :: u' 102 :: u' 103 :: u' 104 :: u' 105 :: u' 106 :: u' 107 :: u' 108 :: u' 109 :: u' 110 :: u' 111 :: u' 112 :: u' 113 :: u' 114 :: []).toArray := hu0
    rw [(hv 7).trans s7, (hv 11).trans s11, (hv 12).trans s12, (hv 13).trans s13, (hv 14).trans s14] at hu
    obtain rfl := act_eq hu (show a.defers = [] from hf.defers)
    have hBE := hB
    have HOW : Hid (∀ r, r < WC.heap.size → own r = own0 r) := hown
    clear hu hu0 hv hk hown hf hB hin s7 s11 s12 s13 s14 s106
    have hzE : WC.heap.size ≤ wE.heap.size := q0.1
    have hlow : ∀ q, q < W6.heap.size → wE.heap[q]? = WC.heap[q]? := fun q hq => q0.2 q (by omega) (by omega) (fun e => by have := hnT q e; omega)
    have hO' := HOD.out.put hTD (put_stackB HOD.out.c hTD (.slice y11.1 (D.calls[T].stack ++ [(va, vb)]).length y11.2) (D.calls[T].stack ++ [(va, vb)]) hzE h14 (fun k h1 h2 h3 => q0.2 k h1 h2 (by rw [← HVT.out]; exact h3)) P11 (fun q e => by
      by_cases hq : q < WC.heap.size
      · left
        rw [HVT.out]
        obtain ⟨h5, _⟩ := o11 q e
        rw [HOW.out q hq] at h5
        by_cases hs : (Value.slice aT D.calls[T].stack.length cT).ownBlock = some q
        · exact hs
        · exfalso
          by_cases hg : q = gA
          · subst hg
            rw [h902] at h5
            omega
          · rw [h903 q hg hs] at h5
            omega
      · exact .inr (by omega)))
    have rwE := rw0.of_block (q0.2 bw hbwl hgw.symm hnw)
    have rxE := rxD.of_block (hlow bx hbx6)
    have HXE : Hid (HeapAt wE (.slice a5 R.calls.length k5) (.slice b5 R.said.length l5) R) := (HXD.out.kept hzE (fun q hq => hlow q (HXO.out.lt hq).2)).at
    have bEw : Below w.heap.size w wE := bDw.trans (hBE.mono hB6.size)
    have hRA := HRAh.out
    have HpE : Hid (HeapAt wE (.slice (some ⟨gA, oA, none⟩) R.calls.length kA) (.slice bA R.said.length lA) R) := by
      show HeapAt _ _ _ _
      rw [hRA]
      exact ⟨by simpa using hO'.c.at, by simpa using hO'.s.at⟩
    clear hO' hlow h14 P11 o11 hzE q0 rw0 rxD HXD bDw hzD hBE h901 h902 h903 HOW
    have hRw : R.calls.length = D.calls.length ∧ R.now = (T : Int) ∧ R.born = D.born ∧ R.said.length = D.said.length ∧ R.code = D.code := by rw [hRA]; exact ⟨by simp, HDn.out, rfl, rfl, rfl⟩
    obtain ⟨hR0, hR1, hR2, hR3, hR4⟩ := hRw
    clear hRA
    obtain ⟨⟨x0, x1, x2, x3, x4⟩, _⟩ := five_cells rxE
    obtain ⟨⟨y0, y1, y2, y3, y4⟩, _⟩ := five_cells rwE
    rw [← hR0] at y0
    rw [← hR1] at y1
    rw [← hR2] at y2
    rw [← hR3] at y3
    rw [← hR4] at y4
    have HLM := lmHeap_same R _ _ _ _ wE HXE.out HpE.out
    unfold hpCells at HLM
    clear hR0 hR1 hR2 hR3 hR4 rxE rwE
    go_wp2_with fail
    refine HLM.mono ?_
    rintro e wZ ⟨rfl, hbZ⟩
    go_wp2
    go_ret
    exact ⟨ret_bool (by first | rfl | simp), bEw.trans (hbZ.mono bEw.size)⟩
  have hOC := hOD
  have rwC := rw0
  have rxC := rxD
  have HXC := HXD
  have bCw := bDw
  have hz6 := hzD
  have hwn := hwnD
  clear hOD rw0 rxD HXD bDw hzD
  obtain ⟨⟨v0, v1⟩, vf0, vf1⟩ := two_cells rvD
  go_upto_region 15 with fail
  have N1 : Below WC.heap.size WC (WC.alloc (.cells #[.int .i64 va, .int .i64 vb] 37)) := (Below.refl _ _).alloc (Nat.le_refl _) _
  have hone := one_vals WC va vb 37 1
  have hSS := hOC.s.below N1
  have hbl0 : bw < WC.heap.size := rwC.lt
  have hblx : bx < WC.heap.size := rxC.lt
  have hsl : D.said.length ≤ 1048576 := by rw [HDf.out.2.1, HAn.out.2.2.2.1]; omega
  have hnl : ∀ q, (Value.slice bA D.said.length lA).ownBlock = some q → W6.heap.size ≤ q := fun q e => (hOC.s.lt _ e).1
  have hnw : ¬ (Value.slice bA D.said.length lA).ownBlock = some bw := fun e => hwn (.inl e)
  have HOC : Hid (OwnHeap W6.heap.size WC (.slice (some ⟨gA, oA, none⟩) D.calls.length kA) (.slice bA D.said.length lA) D VA) := hOC
  have hbx6 := rx6.lt
  obtain ⟨⟨y0, y1, y2, y3, y4⟩, yf0, yf1, yf2, yf3, yf4⟩ := five_cells rwC
  clear hOC
  go_upto_region 16 with (at_builtin; refine append_vals _ (by rfl) _ _ (by rfl) W6.heap.size _ _ D.said [(va, vb)] (by rfl) (by rfl) hSS hone (by simp; omega) (by simp; omega) ?_; intro vS wS hrS hgS hvS; obtain ⟨aS, cS, hvS2, _⟩ := hrS.slice; subst hvS2; have rwS := (row_below N1 rwC).of_block (hgS.block bw (by simp; omega) (Ne.symm hnw)); obtain ⟨⟨t0, t1, t2, t3, t4⟩, tf0, tf1, tf2, tf3, tf4⟩ := five_cells rwS)
  have hS1 : (D.said ++ [(va, vb)]).length = D.said.length + 1 := by simp
  rw [hS1] at hrS hvS
  have hzS : WC.heap.size ≤ wS.heap.size := by have := hgS.size; simp at this; omega
  have hblS : ∀ q, q < WC.heap.size → (Value.slice bA D.said.length lA).ownBlock ≠ some q → wS.heap[q]? = WC.heap[q]? := fun q h1 h2 => (hgS.block q (by simp; omega) (Ne.symm h2)).trans (N1.block q h1)
  have hvn : ∀ q, (Value.slice aS (D.said.length + 1) cS).ownBlock = some q → (Value.slice bA D.said.length lA).ownBlock = some q ∨ WC.heap.size ≤ q := fun q e => by
    rcases hvS with h | h
    · exact .inl (by rw [← h]; exact e)
    · rw [h] at e; injection e with e; simp at e; exact .inr (by omega)
  have hOS := HOC.out.say (.slice aS (D.said.length + 1) cS) (D.said ++ [(va, vb)]) hzS hblS hrS hvn
  have hwnS : ∀ q, HeapBlocks (.slice (some ⟨gA, oA, none⟩) D.calls.length kA) (.slice aS (D.said.length + 1) cS) D.calls.length VA q → q ≠ bw := fun q hq e => by
    subst e
    rcases hq with hq | hq
    · rcases hvn _ hq with h | h
      · exact hnw h
      · omega
    · exact hwn (.inr hq)
  have hOE := hOS.kept (w' := (wS.setCell ⟨bw, 3, none⟩ (.slice aS (D.said.length + 1) cS))) (by simp [World.setCell]) (fun q hq => Below.heap_setCell _ _ _ _ (hwnS q hq))
  have rwE := five_set3 rwS (.slice aS (D.said.length + 1) cS)
  have hlow : ∀ q, q < W6.heap.size → (wS.setCell ⟨bw, 3, none⟩ (.slice aS (D.said.length + 1) cS)).heap[q]? = WC.heap[q]? := fun q hq => (Below.heap_setCell _ _ _ _ (by show q ≠ bw; omega)).trans (hblS q (by omega) (fun e => by have := hnl q e; omega))
  have rxE := rxC.of_block (hlow bx hbx6)
  have hzE : WC.heap.size ≤ (wS.setCell ⟨bw, 3, none⟩ (.slice aS (D.said.length + 1) cS)).heap.size := Nat.le_trans hzS (by simp [World.setCell])
  have HXE : Hid (OwnHeap w3.heap.size (wS.setCell ⟨bw, 3, none⟩ (.slice aS (D.said.length + 1) cS)) (.slice a5 R.calls.length k5) (.slice b5 R.said.length l5) R V5) := HXC.out.kept hzE (fun q hq => hlow q (HXO.out.lt hq).2)
  have bEw : Below w.heap.size w (wS.setCell ⟨bw, 3, none⟩ (.slice aS (D.said.length + 1) cS)) := (((bCw.trans (N1.mono bCw.size)).grown hgS (by have := bCw.size; simp; omega) (fun q e => by have := hnl q e; have := hB6.size; omega))).setCell (p := ⟨bw, 3, none⟩) (by show w.heap.size ≤ bw; have := hB6.size; omega) _
  clear t0 t1 t2 t3 t4 tf0 tf1 tf2 tf3 tf4 y0 y1 y2 y3 y4 yf0 yf1 yf2 yf3 yf4 hOS hvn hblS hzS hzE hrS hvS hgS rwS rwC rxC HXC bCw N1 hone hSS hlow HOC
  generalize (wS.setCell ⟨bw, 3, none⟩ (.slice aS (D.said.length + 1) cS)) = WE at *
  obtain ⟨⟨y0, y1, y2, y3, y4⟩, yf0, yf1, yf2, yf3, yf4⟩ := five_cells rwE
  go_upto_region 18 with fail
  have rwF := five_set4 rwE (.int .i64 1)
  have hOF := hOE.kept (w' := WE.setCell ⟨bw, 4, none⟩ (.int .i64 1)) (by simp [World.setCell]) (fun q hq => Below.heap_setCell _ _ _ _ (hwnS q (by simpa using hq)))
  have hblF : ∀ q, q ≠ bw → (WE.setCell ⟨bw, 4, none⟩ (.int .i64 1)).heap[q]? = WE.heap[q]? := fun q e => Below.heap_setCell _ _ _ _ e
  have rxF := rxE.of_block (hblF bx (by omega))
  have HXF : Hid (HeapAt (WE.setCell ⟨bw, 4, none⟩ (.int .i64 1)) (.slice a5 R.calls.length k5) (.slice b5 R.said.length l5) R) := (HXE.out.kept (by simp [World.setCell]) (fun q hq => hblF q (by have := (HXO.out.lt hq).2; omega))).at
  have bFw : Below w.heap.size w (WE.setCell ⟨bw, 4, none⟩ (.int .i64 1)) := bEw.setCell (p := ⟨bw, 4, none⟩) (by show w.heap.size ≤ bw; omega) _
  have hcs : (curC (afterH g [(1, 7)])).sender < 0 := by
    have e := (after_same HGN.out.2.1 hj [(1, 7)] hj).2.1
    have e2 := (after_same HGN.out.2.1 hj [] hj).2.1
    rw [← HAA.out] at e2
    have e3 : A.calls[j].sender = g.calls[j].sender := by rw [← e2]; simp [hjA]
    unfold curC
    rw [show (afterH g [(1, 7)]).now = (j : Int) from HGN.out.2.1, Int.toNat_natCast, e, ← e3, HTO.out]
    exact ht0
  have hRA : R = { D with said := D.said ++ [(va, vb)], code := 1 } := by rw [HRA.out]; unfold retH; rw [if_pos hcs, HDL.out]; unfold codeH sayH; rw [show sayV D (va, vb) = (va, vb) from if_neg HV.out]
  have HpE : Hid (HeapAt (WE.setCell ⟨bw, 4, none⟩ (.int .i64 1)) (.slice (some ⟨gA, oA, none⟩) R.calls.length kA) (.slice aS R.said.length cS) R) := by
    show HeapAt _ _ _ _
    rw [hRA]
    exact ⟨by simpa using hOF.c.at, by simpa using hOF.s.at⟩
  clear hOE hOF hblF rwE rxE HXE bEw hcs y0 y1 y2 y3 y4 yf0 yf1 yf2 yf3 yf4 hwnS
  have rwE := rwF
  have rxE := rxF
  clear rwF rxF
  generalize WE.setCell ⟨bw, 4, none⟩ (.int .i64 1) = WF at *
  have hRw : R.calls.length = D.calls.length ∧ R.now = tq ∧ R.born = D.born ∧ R.said.length = D.said.length + 1 ∧ R.code = 1 := by rw [hRA]; exact ⟨rfl, HDf.out.2.2.2.2, rfl, by simp, rfl⟩
  obtain ⟨hR0, hR1, hR2, hR3, hR4⟩ := hRw
  clear hRA
  obtain ⟨⟨x0, x1, x2, x3, x4⟩, _⟩ := five_cells rxE
  obtain ⟨⟨y0, y1, y2, y3, y4⟩, _⟩ := five_cells rwE
  rw [← hR0] at y0
  rw [← hR1] at y1
  rw [← hR2] at y2
  rw [← hR3] at y3
  rw [← hR4] at y4
  have HLM := lmHeap_same R _ _ _ _ WF HXF.out HpE.out
  unfold hpCells at HLM
  clear hR0 hR1 hR2 hR3 hR4 rxE rwE
  go_wp2_with fail
  refine HLM.mono ?_
  rintro e wZ ⟨rfl, hbZ⟩
  go_wp2
  go_ret
  exact ⟨ret_bool (by first | rfl | simp), bFw.trans (hbZ.mono bFw.size)⟩
end Go.Proofs.YtobdeobjjjkddaaGreatDoor
