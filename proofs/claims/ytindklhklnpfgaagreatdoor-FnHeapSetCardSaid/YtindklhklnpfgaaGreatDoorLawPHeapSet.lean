/-
  The law FnHeapSet, walked: whatever bytes come in, it answers true and writes to nothing that was there, where the table opForms lies as its text lays it.
-/
import Derived.Test.YtindklhklnpfgaaGreatDoorDrawHeapStep
import Derived.Test.YtindklhklnpfgaaGreatDoorLmStep
import Derived.Test.YtindklhklnpfgaaGreatDoorHSame
import Derived.Lib.MinMax

namespace Go.Proofs.YtindklhklnpfgaaGreatDoor
open Go.RowKit
set_option maxRecDepth 100000 in
set_option maxHeartbeats 4000000 in
theorem lawHeapSet_any (w : World) (a : Option Addr) (len cap : Nat) (a2 : Option Addr) (len2 cap2 : Nat) (h : BytesAt w a len cap) (hc2 : len2 ≤ 9223372036854775807) (hT : TabAt w) :
    Calls Tryz.prog 5 #[.slice a len cap, .slice a2 len2 cap2] w fun e w' => e = .returned (.bool true) ∧ Below w.heap.size w w' := by
  have hc := h.1
  have hm := h.2.1
  unfold maxLen at hm
  have HB : Hid (BytesAt w a len cap) := h
  have HT : Hid (TabAt w) := hT
  clear h hT
  by_cases hl : 1048576 < len
  · have hlz : (1048576 : Int) < (len : Int) := by omega
    go_enter Tryz.func5, Tryz.ntmps5
    go_wp2
    go_ret
    exact ⟨rfl, Below.refl _ _⟩
  have hlz : (len : Int) ≤ 1048576 := by omega
  by_cases hl2 : 1048576 < len2
  · have hlz2 : (1048576 : Int) < (len2 : Int) := by omega
    go_enter Tryz.func5, Tryz.ntmps5
    go_wp2
    go_ret
    exact ⟨rfl, Below.refl _ _⟩
  have hlz2 : (len2 : Int) ≤ 1048576 := by omega
  go_enter Tryz.func5, Tryz.ntmps5
  go_wp2_with fail
  refine (drawHeapStep_any _ a len cap HB.out).mono ?_
  rintro e w1 ⟨v, vc, vs, ms, H, rfl, hD, hB1⟩
  obtain ⟨hM1, hH1⟩ := hD.st.here
  have l30 := hD.fine.l30
  have sd100 := hD.fine.sd
  have HPO : Hid (progOk ms = true) := hD.ok
  clear hD
  obtain ⟨aV, cV, hvV, _⟩ := id hM1
  obtain ⟨ac, kc, hvc⟩ := hH1.c.shape
  obtain ⟨aD, kD, hvs⟩ := hH1.s.shape
  subst hvV hvc hvs
  have z1 := hB1.size
  clear HB
  unfold hpCells
  go_upto_region 4 with fail
  have N2 : Below w1.heap.size w1 ((w1.alloc (.cells #[.slice aV ms.length cV] 25)).alloc (.cells #[.slice ac H.calls.length kc, .int .i64 H.now, .int .i64 H.born, .slice aD H.said.length kD, .int .i64 H.code] 29)) := ((Below.refl _ _).alloc (Nat.le_refl _) _).alloc (by simp) _
  have rp := (pbox_new w1 (.slice aV ms.length cV)).alloc (.cells #[.slice ac H.calls.length kc, .int .i64 H.now, .int .i64 H.born, .slice aD H.said.length kD, .int .i64 H.code] 29)
  have rh := five_new (w1.alloc (.cells #[.slice aV ms.length cV] 25)) 29 (.slice ac H.calls.length kc) (.int .i64 H.now) (.int .i64 H.born) (.slice aD H.said.length kD) (.int .i64 H.code)
  simp only [World.size_alloc] at rh
  generalize (w1.alloc (.cells #[.slice aV ms.length cV] 25)).alloc (.cells #[.slice ac H.calls.length kc, .int .i64 H.now, .int .i64 H.born, .slice aD H.said.length kD, .int .i64 H.code] 29) = W2 at *
  have hB2 := hB1.trans (N2.mono z1)
  have z2 := hB2.size
  have HMH : Hid (MethsAt W2 (.slice aV ms.length cV) ms ∧ HeapAt W2 (.slice ac H.calls.length kc) (.slice aD H.said.length kD) H ∧ TabAt W2) := ⟨hM1.below N2, hH1.below N2, HT.out.below hB2⟩
  clear hM1 hH1 hB1 N2 HT
  obtain ⟨⟨d0, d1, d2, d3, d4⟩, _⟩ := five_cells rh
  have dp := rp.cell (i := 0) (by decide)
  have hl1000 : H.calls.length ≤ 1000 := by omega
  obtain ⟨nn, hnn⟩ : ∃ nn : Int, (len2 : Int) % 4 = nn := ⟨_, rfl⟩
  have hnnb : 0 ≤ nn ∧ nn < 4 := by omega
  have Hnn : Hid ((len2 : Int) % 4 = nn) := hnn
  clear hnn
  obtain ⟨vv, hvv⟩ : ∃ vv : Int, (len2 : Int) % 50 = vv := ⟨_, rfl⟩
  have hvvb : 0 ≤ vv ∧ vv < 50 := by omega
  have Hvv : Hid ((len2 : Int) % 50 = vv) := hvv
  clear hvv
  refine wp_region_fs [[], [], [], [2], [2, 3], [2, 3, 4], [], [], [7], [7, 8], [6, 7, 8, 9], [6, 7, 8, 9, 10], [0, 1, 2, 3, 4, 5, 6, 7, 8, 9, 10, 11], [0, 1, 2, 3, 4, 5, 6, 7, 8, 9, 10, 11, 12], [0, 1, 2, 3, 4, 5, 6, 7, 8, 9, 10, 11, 12, 13], [0, 1, 2, 3, 4, 5, 6, 7, 8, 9, 10, 11, 12, 13], [0, 1, 2, 3, 4, 5, 6, 7, 8, 9, 10, 11, 12, 13], [], [], [0, 1, 2, 3, 4, 5, 6, 7, 8, 9, 10, 11, 12, 13, 14, 17, 18], [0, 1, 2, 3, 4, 5, 6, 7, 8, 9, 10, 11, 12, 13, 14, 15, 17, 18, 19], [0, 1, 2, 3, 4, 5, 6, 7, 8, 9, 10, 11, 12, 13, 14, 15, 16, 17, 18, 19, 20]] [[0], [1], [2], [3], [4], [5], [6], [7], [8], [9], [10], [11], [12], [13, 12], [14, 13], [15, 13], [16, 13], [17], [18], [17, 14], [18, 15], [21, 16]] [[], [], [], [], [], [], [], [], [], [], [], [], [], [], [], [], [], [], [], [17], [18], []] [fIs (.agg #[.slice aV ms.length cV]), fIs (.agg #[.slice ac H.calls.length kc, .int .i64 H.now, .int .i64 H.born, .slice aD H.said.length kD, .int .i64 H.code]), fIs (.slice a2 len2 cap2), fIs (.int .i64 (len2 : Int)), fIs (.int .i64 nn), fIs (.agg #[.int .i64 3, .int .i64 nn]), fIs (.agg #[.int .i64 1, .int .i64 7]), fIs (.slice a2 len2 cap2), fIs (.int .i64 (len2 : Int)), fIs (.int .i64 vv), fIs (.agg #[.int .i64 1, .int .i64 vv]), fGh 11 (fun (x : Value) l => l = [x]) (fun x w1 => OpsAt w1 x [(1, 7), (1, vv)]), fWith 12 ms H 3 (nn) [(1, 7), (1, vv)] (.slice aD H.said.length kD), fOf fun l => l.getD 0 undef = l.getD 1 undef, fOf fun l => l.getD 0 undef = tget (l.getD 1 undef) 0, fOf fun l => l.getD 0 undef = tget (l.getD 1 undef) 1, fOf fun l => l.getD 0 undef = tget (l.getD 1 undef) 2, fBox 17 25 1, fBox 18 29 5, fRow 17 25 1 fun b f l => l.getD 0 undef = .pointer (some ⟨b, 0, none⟩) ∧ f = fun q => (l.getD 1 undef).cells.toList.getD q undef, fRow 18 29 5 fun b f l => l.getD 0 undef = .pointer (some ⟨b, 0, none⟩) ∧ f = fun q => (l.getD 1 undef).cells.toList.getD q undef, fOf fun l => l.getD 0 undef = l.getD 1 undef] 22 rfl (by kernel_rfl) (by kernel_rfl) ?steps ?fin
  case steps =>
    refine all_lt_succ (all_lt_succ (all_lt_succ (all_lt_succ (all_lt_succ (all_lt_succ (all_lt_succ (all_lt_succ (all_lt_succ (all_lt_succ (all_lt_succ (all_lt_succ (all_lt_succ (all_lt_succ (all_lt_succ (all_lt_succ (all_lt_succ (all_lt_succ (all_lt_succ (all_lt_succ (all_lt_succ (all_lt_succ (all_lt_zero) ?s0) ?s1) ?s2) ?s3) ?s4) ?s5) ?s6) ?s7) ?s8) ?s9) ?s10) ?s11) ?s12) ?s13) ?s14) ?s15) ?s16) ?s17) ?s18) ?s19) ?s20) ?s21
    case s0 =>
      intro a w val own hB hf hown hk
      have s5 := hf.at (d := 5) (v := .pointer (some ⟨w1.heap.size, 0, none⟩)) (by kernel_rfl) rfl
      have c0 := cell_below hB dp
      exact rf_pure (v := .agg #[.slice aV ms.length cV]) hB rfl rfl (by unfold execOp; go_simp) rfl
    case s1 =>
      intro a w val own hB hf hown hk
      have s6 := hf.at (d := 6) (v := .pointer (some ⟨w1.heap.size + 1, 0, none⟩)) (by kernel_rfl) rfl
      obtain ⟨c0, c1, c2, c3, c4⟩ : _ ∧ _ ∧ _ ∧ _ ∧ _ := ⟨cell_below hB d0, cell_below hB d1, cell_below hB d2, cell_below hB d3, cell_below hB d4⟩
      exact rf_pure (v := .agg #[.slice ac H.calls.length kc, .int .i64 H.now, .int .i64 H.born, .slice aD H.said.length kD, .int .i64 H.code]) hB rfl rfl (by unfold execOp; go_simp) rfl
    case s2 =>
      intro a w val own hB hf hown hk
      have s1 := hf.at (d := 1) (v := .slice a2 len2 cap2) (by kernel_rfl) rfl
      exact rf_pure (v := .slice a2 len2 cap2) hB rfl rfl (by unfold execOp; go_simp) rfl
    case s3 =>
      intro a w val own hB hf hown hk
      obtain ⟨k2, f2⟩ := hk 2 (show 2 ∈ [2] by decide)
      have s29 := k2 29 rfl
      rw [fIs_out f2] at s29
      clear k2 f2
      exact rf_pure (v := .int .i64 (len2 : Int)) hB rfl rfl (by unfold execOp; go_simp) rfl
    case s4 =>
      intro a w val own hB hf hown hk
      obtain ⟨k3, f3⟩ := hk 3 (show 3 ∈ [2, 3] by decide)
      have s30 := k3 30 rfl
      rw [fIs_out f3] at s30
      clear k3 f3
      have hlet : Int.tmod ((len2 : Int)) 4 = nn := (Int.tmod_eq_emod_of_nonneg (by omega)).trans Hnn.out
      exact rf_pure (v := .int .i64 nn) hB rfl rfl (by unfold execOp; go_simp) rfl
    case s5 =>
      intro a w val own hB hf hown hk
      obtain ⟨k4, f4⟩ := hk 4 (show 4 ∈ [2, 3, 4] by decide)
      have s31 := k4 31 rfl
      rw [fIs_out f4] at s31
      clear k4 f4
      exact rf_pure (v := .agg #[.int .i64 3, .int .i64 nn]) hB rfl rfl (by unfold execOp; go_simp) rfl
    case s6 =>
      intro a w val own hB hf hown hk
      exact rf_call hB rfl rfl (by unfold execOp; go_simp) ((lmNum_any 7 w).mono fun e w' ⟨he, hb⟩ => ⟨_, he, hb, rfl⟩)
    case s7 =>
      intro a w val own hB hf hown hk
      have s1 := hf.at (d := 1) (v := .slice a2 len2 cap2) (by kernel_rfl) rfl
      exact rf_pure (v := .slice a2 len2 cap2) hB rfl rfl (by unfold execOp; go_simp) rfl
    case s8 =>
      intro a w val own hB hf hown hk
      obtain ⟨k7, f7⟩ := hk 7 (show 7 ∈ [7] by decide)
      have s34 := k7 34 rfl
      rw [fIs_out f7] at s34
      clear k7 f7
      exact rf_pure (v := .int .i64 (len2 : Int)) hB rfl rfl (by unfold execOp; go_simp) rfl
    case s9 =>
      intro a w val own hB hf hown hk
      obtain ⟨k8, f8⟩ := hk 8 (show 8 ∈ [7, 8] by decide)
      have s35 := k8 35 rfl
      rw [fIs_out f8] at s35
      clear k8 f8
      have hlet : Int.tmod ((len2 : Int)) 50 = vv := (Int.tmod_eq_emod_of_nonneg (by omega)).trans Hvv.out
      exact rf_pure (v := .int .i64 vv) hB rfl rfl (by unfold execOp; go_simp) rfl
    case s10 =>
      intro a w val own hB hf hown hk
      obtain ⟨k9, f9⟩ := hk 9 (show 9 ∈ [6, 7, 8, 9] by decide)
      have s36 := k9 36 rfl
      rw [fIs_out f9] at s36
      clear k9 f9
      exact rf_call hB rfl rfl (by unfold execOp; go_simp) ((lmNum_any (vv) w).mono fun e w' ⟨he, hb⟩ => ⟨_, he, hb, rfl⟩)
    case s11 =>
      intro a w val own hB hf hown hk
      obtain ⟨k6, f6⟩ := hk 6 (show 6 ∈ [6, 7, 8, 9, 10] by decide)
      have s33 := k6 33 rfl
      rw [fIs_out f6] at s33
      clear k6 f6
      obtain ⟨k10, f10⟩ := hk 10 (show 10 ∈ [6, 7, 8, 9, 10] by decide)
      have s37 := k10 37 rfl
      rw [fIs_out f10] at s37
      clear k10 f10
      exact rf_new (v := .slice (some ⟨w.heap.size, 0, none⟩) 2 2) (w' := w.alloc (.cells #[.int .i64 1, .int .i64 7, .int .i64 1, .int .i64 vv] 37)) hB rfl rfl (by unfold execOp; go_simp) ((Below.refl _ _).alloc (Nat.le_refl _) _) ⟨_, rfl, Made.new fun w1 _ _ hr => (two_vals w 1 7 1 (vv) 37 2).of_block (hr _ (Nat.le_refl _) (by simp))⟩
    case s12 =>
      intro a w val own hB hf hown hk
      obtain ⟨k0, f0⟩ := hk 0 (show 0 ∈ [0, 1, 2, 3, 4, 5, 6, 7, 8, 9, 10, 11] by decide)
      have s27 := k0 27 rfl
      rw [fIs_out f0] at s27
      clear k0 f0
      obtain ⟨k1, f1⟩ := hk 1 (show 1 ∈ [0, 1, 2, 3, 4, 5, 6, 7, 8, 9, 10, 11] by decide)
      have s28 := k1 28 rfl
      rw [fIs_out f1] at s28
      clear k1 f1
      obtain ⟨k5, f5⟩ := hk 5 (show 5 ∈ [0, 1, 2, 3, 4, 5, 6, 7, 8, 9, 10, 11] by decide)
      have s32 := k5 32 rfl
      rw [fIs_out f5] at s32
      clear k5 f5
      obtain ⟨k11, x11, e11, m11⟩ := hk 11 (show 11 ∈ [0, 1, 2, 3, 4, 5, 6, 7, 8, 9, 10, 11] by decide)
      have s38 := k11 38 rfl
      rw [one_eq e11] at s38
      clear k11 e11
      exact rf_call hB rfl rfl (by unfold execOp hpCells; go_simp) (with_call (x := nn) (vc := .slice ac H.calls.length kc) HMH.out.1 HMH.out.2.1 hB (m11.here hB) hl1000 HPO.out (by simp))
    case s13 =>
      intro a w val own hB hf hown hk
      have s39 := (hk 12 (show 12 ∈ [0, 1, 2, 3, 4, 5, 6, 7, 8, 9, 10, 11, 12] by decide)).1 39 rfl
      exact rf_pure (v := val 12) hB rfl rfl (by unfold execOp; go_simp) rfl
    case s14 =>
      intro a w val own hB hf hown hk
      obtain ⟨k12, ⟨aq, cq, ag, kg, qs, g, ok⟩, ⟨e12, hX⟩, mX⟩ := hk 12 (show 12 ∈ [0, 1, 2, 3, 4, 5, 6, 7, 8, 9, 10, 11, 12, 13] by decide)
      have v12 := one_eq e12
      have s39 := k12 39 rfl
      unfold WG.val at v12
      dsimp only at v12 hX mX
      rw [v12] at s39
      clear k12 e12
      obtain ⟨k13, f13⟩ := hk 13 (show 13 ∈ [0, 1, 2, 3, 4, 5, 6, 7, 8, 9, 10, 11, 12, 13] by decide)
      have v13 : val 13 = _ := Eq.trans f13 v12
      have s26 := k13 26 rfl
      rw [v13] at s26
      clear k13 f13
      exact rf_pure (v := .agg #[.slice aq qs.length cq]) hB rfl rfl (by unfold execOp; go_simp) (by show _ = tget (val 13) 0; rw [v13]; rfl)
    case s15 =>
      intro a w val own hB hf hown hk
      obtain ⟨k12, ⟨aq, cq, ag, kg, qs, g, ok⟩, ⟨e12, hX⟩, mX⟩ := hk 12 (show 12 ∈ [0, 1, 2, 3, 4, 5, 6, 7, 8, 9, 10, 11, 12, 13] by decide)
      have v12 := one_eq e12
      have s39 := k12 39 rfl
      unfold WG.val at v12
      dsimp only at v12 hX mX
      rw [v12] at s39
      clear k12 e12
      obtain ⟨k13, f13⟩ := hk 13 (show 13 ∈ [0, 1, 2, 3, 4, 5, 6, 7, 8, 9, 10, 11, 12, 13] by decide)
      have v13 : val 13 = _ := Eq.trans f13 v12
      have s26 := k13 26 rfl
      rw [v13] at s26
      clear k13 f13
      exact rf_pure (v := .agg #[.slice ag g.calls.length kg, .int .i64 g.now, .int .i64 g.born, .slice aD H.said.length kD, .int .i64 g.code]) hB rfl rfl (by unfold execOp; go_simp) (by show _ = tget (val 13) 1; rw [v13]; rfl)
    case s16 =>
      intro a w val own hB hf hown hk
      obtain ⟨k12, ⟨aq, cq, ag, kg, qs, g, ok⟩, ⟨e12, hX⟩, mX⟩ := hk 12 (show 12 ∈ [0, 1, 2, 3, 4, 5, 6, 7, 8, 9, 10, 11, 12, 13] by decide)
      have v12 := one_eq e12
      have s39 := k12 39 rfl
      unfold WG.val at v12
      dsimp only at v12 hX mX
      rw [v12] at s39
      clear k12 e12
      obtain ⟨k13, f13⟩ := hk 13 (show 13 ∈ [0, 1, 2, 3, 4, 5, 6, 7, 8, 9, 10, 11, 12, 13] by decide)
      have v13 : val 13 = _ := Eq.trans f13 v12
      have s26 := k13 26 rfl
      rw [v13] at s26
      clear k13 f13
      exact rf_pure (v := .bool ok) hB rfl rfl (by unfold execOp; go_simp) (by show _ = tget (val 13) 2; rw [v13]; rfl)
    case s17 =>
      intro a w val own hB hf hown hk
      exact rf_new (v := .pointer (some ⟨w.heap.size, 0, none⟩)) (w' := w.alloc (.cells #[.slice none 0 0] 25)) hB rfl rfl (by unfold execOp; go_simp) ((Below.refl _ _).alloc (Nat.le_refl _) _) (fBox_new hB #[.slice none 0 0])
    case s18 =>
      intro a w val own hB hf hown hk
      exact rf_new (v := .pointer (some ⟨w.heap.size, 0, none⟩)) (w' := w.alloc (.cells #[.slice none 0 0, .int .i64 0, .int .i64 0, .slice none 0 0, .int .i64 0] 29)) hB rfl rfl (by unfold execOp; go_simp) ((Below.refl _ _).alloc (Nat.le_refl _) _) (fBox_new hB #[.slice none 0 0, .int .i64 0, .int .i64 0, .slice none 0 0, .int .i64 0])
    case s19 =>
      intro a w val own hB hf hown hk
      obtain ⟨k17, bo17, g17, e17, ho17, hW17, r17⟩ := hk 17 (show 17 ∈ [0, 1, 2, 3, 4, 5, 6, 7, 8, 9, 10, 11, 12, 13, 14, 17, 18] by decide)
      have v17 := one_eq e17
      have s7 := k17 7 rfl
      rw [v17] at s7
      clear k17 e17
      obtain ⟨k12, ⟨aq, cq, ag, kg, qs, g, ok⟩, ⟨e12, hX⟩, mX⟩ := hk 12 (show 12 ∈ [0, 1, 2, 3, 4, 5, 6, 7, 8, 9, 10, 11, 12, 13, 14, 17, 18] by decide)
      have v12 := one_eq e12
      have s39 := k12 39 rfl
      unfold WG.val at v12
      dsimp only at v12 hX mX
      rw [v12] at s39
      clear k12 e12
      obtain ⟨k13, f13⟩ := hk 13 (show 13 ∈ [0, 1, 2, 3, 4, 5, 6, 7, 8, 9, 10, 11, 12, 13, 14, 17, 18] by decide)
      have v13 : val 13 = _ := Eq.trans f13 v12
      have s26 := k13 26 rfl
      rw [v13] at s26
      clear k13 f13
      obtain ⟨k14, f14⟩ := hk 14 (show 14 ∈ [0, 1, 2, 3, 4, 5, 6, 7, 8, 9, 10, 11, 12, 13, 14, 17, 18] by decide)
      have v14 : val 14 = .agg #[.slice aq qs.length cq] := by have e : val 14 = tget (val 13) 0 := f14; rw [e, v13]; rfl
      have s40 := k14 40 rfl
      rw [v14] at s40
      clear k14 f14
      have c0 := r17.cell (i := 0) (by decide)
      have z0 := r17.frozen 0
      exact rf_set (w' := setAll w bo17 0 [.slice aq qs.length cq]) rfl rfl (by unfold execOp; simp only [setAll]; go_simp) (setAll_does (show own bo17 ∈ [17] by rw [ho17]; decide) hW17 _ 0 hB) (fRow_set [.slice aq qs.length cq] r17 ho17 hW17 rfl ⟨v17, by show _ = fun q => (val 14).cells.toList.getD q undef; rw [v14]; rfl⟩)
    case s20 =>
      intro a w val own hB hf hown hk
      obtain ⟨k18, bo18, g18, e18, ho18, hW18, r18⟩ := hk 18 (show 18 ∈ [0, 1, 2, 3, 4, 5, 6, 7, 8, 9, 10, 11, 12, 13, 14, 15, 17, 18, 19] by decide)
      have v18 := one_eq e18
      have s8 := k18 8 rfl
      rw [v18] at s8
      clear k18 e18
      obtain ⟨k12, ⟨aq, cq, ag, kg, qs, g, ok⟩, ⟨e12, hX⟩, mX⟩ := hk 12 (show 12 ∈ [0, 1, 2, 3, 4, 5, 6, 7, 8, 9, 10, 11, 12, 13, 14, 15, 17, 18, 19] by decide)
      have v12 := one_eq e12
      have s39 := k12 39 rfl
      unfold WG.val at v12
      dsimp only at v12 hX mX
      rw [v12] at s39
      clear k12 e12
      obtain ⟨k13, f13⟩ := hk 13 (show 13 ∈ [0, 1, 2, 3, 4, 5, 6, 7, 8, 9, 10, 11, 12, 13, 14, 15, 17, 18, 19] by decide)
      have v13 : val 13 = _ := Eq.trans f13 v12
      have s26 := k13 26 rfl
      rw [v13] at s26
      clear k13 f13
      obtain ⟨k15, f15⟩ := hk 15 (show 15 ∈ [0, 1, 2, 3, 4, 5, 6, 7, 8, 9, 10, 11, 12, 13, 14, 15, 17, 18, 19] by decide)
      have v15 : val 15 = .agg #[.slice ag g.calls.length kg, .int .i64 g.now, .int .i64 g.born, .slice aD H.said.length kD, .int .i64 g.code] := by have e : val 15 = tget (val 13) 1 := f15; rw [e, v13]; rfl
      have s41 := k15 41 rfl
      rw [v15] at s41
      clear k15 f15
      have c0 := r18.cell (i := 0) (by decide)
      have c1 := r18.cell (i := 1) (by decide)
      have c2 := r18.cell (i := 2) (by decide)
      have c3 := r18.cell (i := 3) (by decide)
      have c4 := r18.cell (i := 4) (by decide)
      have z0 := r18.frozen 0
      have z1 := r18.frozen 1
      have z2 := r18.frozen 2
      have z3 := r18.frozen 3
      have z4 := r18.frozen 4
      exact rf_set (w' := setAll w bo18 0 [.slice ag g.calls.length kg, .int .i64 g.now, .int .i64 g.born, .slice aD H.said.length kD, .int .i64 g.code]) rfl rfl (by unfold execOp; simp only [setAll]; go_simp) (setAll_does (show own bo18 ∈ [18] by rw [ho18]; decide) hW18 _ 0 hB) (fRow_set [.slice ag g.calls.length kg, .int .i64 g.now, .int .i64 g.born, .slice aD H.said.length kD, .int .i64 g.code] r18 ho18 hW18 rfl ⟨v18, by show _ = fun q => (val 15).cells.toList.getD q undef; rw [v15]; rfl⟩)
    case s21 =>
      intro a w val own hB hf hown hk
      have s42 := (hk 16 (show 16 ∈ [0, 1, 2, 3, 4, 5, 6, 7, 8, 9, 10, 11, 12, 13, 14, 15, 16, 17, 18, 19, 20] by decide)).1 42 rfl
      exact rf_pure (v := val 16) hB rfl rfl (by unfold execOp; go_simp) rfl
  case fin =>
    intro a w3 val own hB hf hown hk
    obtain ⟨k17, bo17, g17, e17, ho17, hW17, r17⟩ := hk 17 (by decide)
    have v17 := one_eq e17
    have s7 := k17 7 rfl
    rw [v17] at s7
    clear k17 e17
    obtain ⟨k12, ⟨aq, cq, ag, kg, qs, g, ok⟩, ⟨e12, hX⟩, mX⟩ := hk 12 (by decide)
    have v12 := one_eq e12
    have s39 := k12 39 rfl
    unfold WG.val at v12
    dsimp only at v12 hX mX
    rw [v12] at s39
    clear k12 e12
    obtain ⟨k13, f13⟩ := hk 13 (by decide)
    have v13 : val 13 = _ := Eq.trans f13 v12
    have s26 := k13 26 rfl
    rw [v13] at s26
    clear k13 f13
    obtain ⟨k14, f14⟩ := hk 14 (by decide)
    have v14 : val 14 = .agg #[.slice aq qs.length cq] := by have e : val 14 = tget (val 13) 0 := f14; rw [e, v13]; rfl
    have s40 := k14 40 rfl
    rw [v14] at s40
    clear k14 f14
    obtain ⟨_, bo19, g19, ⟨e19, hg19⟩, _, _, r19⟩ := hk 19 (by decide)
    have q19 : bo19 = bo17 := by have e : val 17 = _ := e19; rw [v17] at e; injection e with e; injection e with e; injection e with e; exact e.symm
    subst q19
    have hg19 : g19 = fun q => (val 14).cells.toList.getD q undef := hg19
    rw [v14] at hg19
    subst hg19
    have r19 : w3.rowIs bo19 _ _ (fun q => [.slice aq qs.length cq].getD q undef) := r19
    clear e19
    obtain ⟨k18, bo18, g18, e18, ho18, hW18, r18⟩ := hk 18 (by decide)
    have v18 := one_eq e18
    have s8 := k18 8 rfl
    rw [v18] at s8
    clear k18 e18
    obtain ⟨k15, f15⟩ := hk 15 (by decide)
    have v15 : val 15 = .agg #[.slice ag g.calls.length kg, .int .i64 g.now, .int .i64 g.born, .slice aD H.said.length kD, .int .i64 g.code] := by have e : val 15 = tget (val 13) 1 := f15; rw [e, v13]; rfl
    have s41 := k15 41 rfl
    rw [v15] at s41
    clear k15 f15
    obtain ⟨_, bo20, g20, ⟨e20, hg20⟩, _, _, r20⟩ := hk 20 (by decide)
    have q20 : bo20 = bo18 := by have e : val 18 = _ := e20; rw [v18] at e; injection e with e; injection e with e; injection e with e; exact e.symm
    subst q20
    have hg20 : g20 = fun q => (val 15).cells.toList.getD q undef := hg20
    rw [v15] at hg20
    subst hg20
    have r20 : w3.rowIs bo20 _ _ (fun q => [.slice ag g.calls.length kg, .int .i64 g.now, .int .i64 g.born, .slice aD H.said.length kD, .int .i64 g.code].getD q undef) := r20
    clear e20
    obtain ⟨k16, f16⟩ := hk 16 (by decide)
    have v16 : val 16 = .bool ok := by have e : val 16 = tget (val 13) 2 := f16; rw [e, v13]; rfl
    have s42 := k16 42 rfl
    rw [v16] at s42
    clear k16 f16
    obtain ⟨k21, f21⟩ := hk 21 (by decide)
    have v21 : val 21 = _ := Eq.trans f21 v16
    have s9 := k21 9 rfl
    rw [v21] at s9
    clear k21 f21
    have s1 := hf.at (d := 1) (v := .slice a2 len2 cap2) (by kernel_rfl) rfl
    have s5 := hf.at (d := 5) (v := .pointer (some ⟨w1.heap.size, 0, none⟩)) (by kernel_rfl) rfl
    have s6 := hf.at (d := 6) (v := .pointer (some ⟨w1.heap.size + 1, 0, none⟩)) (by kernel_rfl) rfl
    obtain ⟨u, hu0, hv⟩ := frame_any a.tmps (n := 81) hf.size
    have hu : a.tmps = (u 0 :: u 1 :: u 2 :: u 3 :: u 4 :: u 5 :: u 6 :: u 7 :: u 8 :: u 9 :: u 10 :: u 11 :: u 12 :: u 13 :: u 14 :: u 15 :: u 16 :: u 17 :: u 18 :: u 19 :: u 20 :: u 21 :: u 22 :: u 23 :: u 24 :: u 25 :: u 26 :: u 27 :: u 28 :: u 29 :: u 30 :: u 31 :: u 32 :: u 33 :: u 34 :: u 35 :: u 36 :: u 37 :: u 38 :: u 39 :: u 40 :: u 41 :: u 42 :: u 43 :: u 44 :: u 45 :: u 46 :: u 47 :: u 48 :: u 49 :: u 50 :: u 51 :: u 52 :: u 53 :: u 54 :: u 55 :: u 56 :: u 57 :: u 58 :: u 59 :: u 60 :: u 61 :: u 62 :: u 63 :: u 64 :: u 65 :: u 66 :: u 67 :: u 68 :: u 69 :: u 70 :: u 71 :: u 72 :: u 73 :: u 74 :: u 75 :: u 76 :: u 77 :: u 78 :: u 79 :: u 80 :: []).toArray := hu0
    rw [(hv 1).trans s1, (hv 5).trans s5, (hv 6).trans s6, (hv 7).trans s7, (hv 8).trans s8, (hv 9).trans s9] at hu
    obtain rfl := act_eq hu (show a.defers = [] from hf.defers)
    obtain ⟨hM3, hH3⟩ := mX.here hB
    have rq := row_one r19
    have rg := row_five r20
    have hB3 := hB
    clear hu hu0 hv hk hown hf mX hB s1 s5 s6 s7 s8 s9
    generalize bo19 = bq at *
    generalize bo20 = bg at *
    clear d0 d1 d2 d3 d4 dp rp rh
    have z3 := hB3.size
    have hlg : g.calls.length ≤ 1000 := by have := hX.l; omega
    have hsg : g.said.length ≤ 800000 := by rw [hX.s]; omega
    have hT3 := HMH.out.2.2.below hB3
    have HI := implHeapStep_any _ _ _ qs g w3 hM3 hT3 hH3 hlg hsg
    have HMX : Hid (MethsAt w3 (.slice aq (List.length qs) cq) qs ∧ HeapAt w3 (.slice ag g.calls.length kg) (.slice aD H.said.length kD) g ∧ WithOk ms H 3 (nn) [(1, 7), (1, vv)] qs g ok) := ⟨hM3, hH3, hX⟩
    have HRE : Hid (ok = true → heapOk qs g = true ∧ hRun qs g 1 = (setH (afterH g [(1, 7)]) { curC (afterH g [(1, 7)]) with temps := (curC (afterH g [(1, 7)])).temps.set nn.toNat (1, vv) }) ∧ Good qs g ∧ ∃ j : Nat, g.now = (j : Int) ∧ ∃ hj : j < g.calls.length, 0 ≤ g.calls[j].pc ∧ g.calls[j].pc ≤ 1000) := fun e => by
      subst e
      obtain ⟨_, _, _, ho⟩ := hX.yes rfl
      have hA := with_at hX
      obtain ⟨hg, hc, hr, hs, j, m, pc, hj, hm, hpl, hn, hcur, hst, hme, hpc, hop⟩ := hA
      refine ⟨ho, ?_, hg, j, hn, hj, ?_⟩
      · have e := with_step hX (t := 1) (l := 0) rfl (by simp) rfl; rw [e]; rfl
      · have := (hg.cl j hj).pc
        have hp := hg.head.p
        unfold progOk at hp
        simp only [Bool.and_eq_true] at hp
        have ha := List.all_eq_true.1 hp.2 _ (List.getElem_mem hm)
        unfold methOk at ha
        simp only [Bool.and_eq_true, decide_eq_true_eq] at ha
        have h14 := ha.1.2
        rw [hpc]
        omega
    clear hM3 hH3 hX hT3
    generalize hRun qs g 1 = R at *
    obtain ⟨fb, hfb⟩ : ∃ fb, heapOk qs g = fb := ⟨_, rfl⟩
    rw [hfb] at HI
    have HFB : Hid (heapOk qs g = fb) := hfb
    clear hfb
    unfold hpCells at HI
    obtain ⟨⟨d0, d1, d2, d3, d4⟩, _⟩ := five_cells rg
    have dp := rq.cell (i := 0) (by decide)
    go_wp2_with fail
    refine HI.mono ?_
    rintro e w5 ⟨⟨vc5, vs5, V5, rfl, hO5⟩, hb5⟩
    obtain ⟨a5, k5, hv5⟩ := hO5.at.c.shape
    obtain ⟨b5, l5, hs5⟩ := hO5.at.s.shape
    subst hv5 hs5
    have z5 := hb5.size
    have rq5 := row_below hb5 rq
    have rg5 := row_below hb5 rg
    clear HI d0 d1 d2 d3 d4 dp rq rg
    go_upto_region 6 with fail
    have N6 : Below w5.heap.size w5 (w5.alloc (.cells #[.slice a5 R.calls.length k5, .int .i64 R.now, .int .i64 R.born, .slice b5 R.said.length l5, .int .i64 R.code] 29)) := (Below.refl _ _).alloc (Nat.le_refl _) _
    have rx6 := five_new w5 29 (.slice a5 R.calls.length k5) (.int .i64 R.now) (.int .i64 R.born) (.slice b5 R.said.length l5) (.int .i64 R.code)
    have rq6 := row_below N6 rq5
    have rg6 := row_below N6 rg5
    have b6 := hb5.trans (N6.mono z5)
    have HX6 : Hid (HeapAt (w5.alloc (.cells #[.slice a5 R.calls.length k5, .int .i64 R.now, .int .i64 R.born, .slice b5 R.said.length l5, .int .i64 R.code] 29)) (.slice a5 R.calls.length k5) (.slice b5 R.said.length l5) R) := hO5.at.below N6
    clear hO5 rq5 rg5 N6
    generalize w5.alloc (.cells #[.slice a5 R.calls.length k5, .int .i64 R.now, .int .i64 R.born, .slice b5 R.said.length l5, .int .i64 R.code] 29) = W6 at *
    generalize w5.heap.size = bx at *
    have HM6 : Hid (MethsAt W6 (.slice aq (List.length qs) cq) qs ∧ HeapAt W6 (.slice ag g.calls.length kg) (.slice aD H.said.length kD) g) := ⟨HMX.out.1.below b6, HMX.out.2.1.below b6⟩
    have hB6 := (hB2.trans (hB3.mono z2)).trans (b6.mono (by have := hB2.size; omega))
    have z6 := hB6.size
    cases ok
    · have HOK := specHeapOk_any _ _ _ qs g W6 HM6.out.1 HM6.out.2 (by omega)
      rw [HFB.out] at HOK
      unfold hpCells at HOK
      obtain ⟨⟨d0, d1, d2, d3, d4⟩, _⟩ := five_cells rg6
      have dp := rq6.cell (i := 0) (by decide)
      go_wp2_with fail
      refine HOK.mono ?_
      rintro e w7 ⟨rfl, hb7⟩
      go_wp2
      go_ret
      exact ⟨ret_bool (by cases fb <;> rfl), hB6.trans (hb7.mono z6)⟩
    obtain ⟨hfb, hRE, hgd, j, hnj, hj, hpcj⟩ := HRE.out rfl
    have hfb2 : fb = true := by rw [← HFB.out]; exact hfb
    subst hfb2
    have HRA : Hid (R = (setH (afterH g [(1, 7)]) { curC (afterH g [(1, 7)]) with temps := (curC (afterH g [(1, 7)])).temps.set nn.toNat (1, vv) })) := hRE
    have HGN : Hid (Good qs g ∧ g.now = (j : Int) ∧ j < g.calls.length) := ⟨hgd, hnj, hj⟩
    clear hRE HRE hfb hnj hgd
    obtain ⟨mJ, hmJ, _, hopJ, htJ⟩ := with_op HMX.out.2.2 HGN.out.2.1 hj
    have hopJ : inR nn 0 (qs[mJ].2.1 - 1) = true := hopJ
    have hnz := inR_true.1 hopJ
    obtain ⟨I, hI⟩ := Int.eq_ofNat_of_zero_le hnnb.1
    have hIl : I < g.calls[j].temps.length := by omega
    have HNI : Hid (nn = (I : Int)) := hI
    clear hI hopJ htJ hnz
    obtain ⟨A, hA⟩ : ∃ A : Hp, A = afterH g [(1, 7)] := ⟨_, rfl⟩
    have HAA : Hid (A = afterH g [(1, 7)]) := hA
    have HAn : Hid (A.now = (j : Int) ∧ A.calls.length = g.calls.length ∧ A.born = g.born ∧ A.said = g.said ∧ A.code = g.code) := by obtain ⟨x1, x2, x3, x4, x5⟩ := afterH_fields g [(1, 7)]; rw [hA]; exact ⟨x1.trans HGN.out.2.1, x2, x3, x4, x5⟩
    clear hA
    have HAF : Hid (∀ (W : World) (vk : Value), Below W6.heap.size W6 W → OpsAt W vk [(1, 7)] → Calls Tryz.prog 17 #[.agg #[.slice ag g.calls.length kg, .int .i64 g.now, .int .i64 g.born, .slice aD H.said.length kD, .int .i64 g.code], vk] W fun e w' => (∃ vc' vs' V', e = .returned (.agg (hpCells vc' vs' A)) ∧ OwnHeap W.heap.size w' vc' vs' A V') ∧ Below W.heap.size W w') := fun W vk hW hk => by
      rw [HAA.out]
      have hl := HGN.out.1.lens
      exact lmAfter_any _ _ vk g _ j W (HM6.out.2.below hW) hk HGN.out.2.1 hj hpcj (by simp) (by omega) (fun i hi => by have := hl.2 i hi; omega) (by omega)
    go_wp2_with fail
    refine wp_region_fs [[], [], [1], [0, 1, 2], [], [0, 1, 2, 3, 4]] [[0], [1], [2], [3], [4], [4, 3]] [[], [], [], [], [], [4]] [fIs (.agg #[.slice ag g.calls.length kg, .int .i64 g.now, .int .i64 g.born, .slice aD H.said.length kD, .int .i64 g.code]), fIs (.agg #[.int .i64 1, .int .i64 7]), fGh 2 (fun (x : Value) l => l = [x]) (fun x w1 => OpsAt w1 x [(1, 7)]), fAfter 3 A, fBox 4 29 5, fRow 4 29 5 fun b f l => l.getD 0 undef = .pointer (some ⟨b, 0, none⟩) ∧ f = fun q => (l.getD 1 undef).cells.toList.getD q undef] 6 rfl (by kernel_rfl) (by kernel_rfl) ?steps ?fin
    case steps =>
      refine all_lt_succ (all_lt_succ (all_lt_succ (all_lt_succ (all_lt_succ (all_lt_succ (all_lt_zero) ?s0) ?s1) ?s2) ?s3) ?s4) ?s5
      case s0 =>
        intro a w val own hB hf hown hk
        have s8 := hf.at (d := 8) (v := .pointer (some ⟨bg, 0, none⟩)) (by kernel_rfl) rfl
        obtain ⟨⟨c0, c1, c2, c3, c4⟩, _⟩ := five_cells (row_below hB rg6)
        exact rf_pure (v := .agg #[.slice ag g.calls.length kg, .int .i64 g.now, .int .i64 g.born, .slice aD H.said.length kD, .int .i64 g.code]) hB rfl rfl (by unfold execOp; go_simp) rfl
      case s1 =>
        intro a w val own hB hf hown hk
        exact rf_call hB rfl rfl (by unfold execOp; go_simp) ((lmNum_any 7 w).mono fun e w' ⟨he, hb⟩ => ⟨_, he, hb, rfl⟩)
      case s2 =>
        intro a w val own hB hf hown hk
        obtain ⟨k1, f1⟩ := hk 1 (show 1 ∈ [1] by decide)
        have s57 := k1 57 rfl
        rw [fIs_out f1] at s57
        clear k1 f1
        exact rf_new (v := .slice (some ⟨w.heap.size, 0, none⟩) 1 1) (w' := w.alloc (.cells #[.int .i64 1, .int .i64 7] 37)) hB rfl rfl (by unfold execOp; go_simp) ((Below.refl _ _).alloc (Nat.le_refl _) _) ⟨_, rfl, Made.new fun w1 _ _ hr => (one_vals w 1 7 37 1).of_block (hr _ (Nat.le_refl _) (by simp))⟩
      case s3 =>
        intro a w val own hB hf hown hk
        obtain ⟨k0, f0⟩ := hk 0 (show 0 ∈ [0, 1, 2] by decide)
        have s56 := k0 56 rfl
        rw [fIs_out f0] at s56
        clear k0 f0
        obtain ⟨k2, x2, e2, m2⟩ := hk 2 (show 2 ∈ [0, 1, 2] by decide)
        have s58 := k2 58 rfl
        rw [one_eq e2] at s58
        clear k2 e2
        exact rf_call hB rfl rfl (by unfold execOp; go_simp) (after_call hB (HAF.out w x2 hB (m2.here hB)))
      case s4 =>
        intro a w val own hB hf hown hk
        exact rf_new (v := .pointer (some ⟨w.heap.size, 0, none⟩)) (w' := w.alloc (.cells #[.slice none 0 0, .int .i64 0, .int .i64 0, .slice none 0 0, .int .i64 0] 29)) hB rfl rfl (by unfold execOp; go_simp) ((Below.refl _ _).alloc (Nat.le_refl _) _) (fBox_new hB #[.slice none 0 0, .int .i64 0, .int .i64 0, .slice none 0 0, .int .i64 0])
      case s5 =>
        intro a w val own hB hf hown hk
        obtain ⟨k4, bo4, g4, e4, ho4, hW4, r4⟩ := hk 4 (show 4 ∈ [0, 1, 2, 3, 4] by decide)
        have v4 := one_eq e4
        have s12 := k4 12 rfl
        rw [v4] at s12
        clear k4 e4
        obtain ⟨k3, ⟨aA, kA, bA, lA, VA⟩, e3, o3, m3⟩ := hk 3 (show 3 ∈ [0, 1, 2, 3, 4] by decide)
        have v3 : val 3 = .agg #[.slice aA A.calls.length kA, .int .i64 A.now, .int .i64 A.born, .slice bA A.said.length lA, .int .i64 A.code] := one_eq e3
        have s59 := k3 59 rfl
        rw [v3] at s59
        dsimp only at m3 o3
        clear k3 e3
        have c0 := r4.cell (i := 0) (by decide)
        have c1 := r4.cell (i := 1) (by decide)
        have c2 := r4.cell (i := 2) (by decide)
        have c3 := r4.cell (i := 3) (by decide)
        have c4 := r4.cell (i := 4) (by decide)
        have z0 := r4.frozen 0
        have z1 := r4.frozen 1
        have z2 := r4.frozen 2
        have z3 := r4.frozen 3
        have z4 := r4.frozen 4
        exact rf_set (w' := setAll w bo4 0 [.slice aA A.calls.length kA, .int .i64 A.now, .int .i64 A.born, .slice bA A.said.length lA, .int .i64 A.code]) rfl rfl (by unfold execOp; simp only [setAll]; go_simp) (setAll_does (show own bo4 ∈ [4] by rw [ho4]; decide) hW4 _ 0 hB) (fRow_set [.slice aA A.calls.length kA, .int .i64 A.now, .int .i64 A.born, .slice bA A.said.length lA, .int .i64 A.code] r4 ho4 hW4 rfl ⟨v4, by show _ = fun q => (val 3).cells.toList.getD q undef; rw [v3]; rfl⟩)
    case fin =>
      intro a w9 val own hB hf hown hk
      obtain ⟨k4, bo4, g4, e4, ho4, hW4, r4⟩ := hk 4 (by decide)
      have v4 := one_eq e4
      have s12 := k4 12 rfl
      rw [v4] at s12
      clear k4 e4
      obtain ⟨k3, ⟨aA, kA, bA, lA, VA⟩, e3, o3, m3⟩ := hk 3 (by decide)
      have v3 : val 3 = .agg #[.slice aA A.calls.length kA, .int .i64 A.now, .int .i64 A.born, .slice bA A.said.length lA, .int .i64 A.code] := one_eq e3
      have s59 := k3 59 rfl
      rw [v3] at s59
      dsimp only at m3 o3
      clear k3 e3
      obtain ⟨_, bo5, g5, ⟨e5, hg5⟩, _, _, r5⟩ := hk 5 (by decide)
      have q5 : bo5 = bo4 := by have e : val 4 = _ := e5; rw [v4] at e; injection e with e; injection e with e; injection e with e; exact e.symm
      subst q5
      have hg5 : g5 = fun q => (val 3).cells.toList.getD q undef := hg5
      rw [v3] at hg5
      subst hg5
      have r5 : w9.rowIs bo5 _ _ (fun q => [.slice aA A.calls.length kA, .int .i64 A.now, .int .i64 A.born, .slice bA A.said.length lA, .int .i64 A.code].getD q undef) := r5
      clear e5
      have s1 := hf.at (d := 1) (v := .slice a2 len2 cap2) (by kernel_rfl) rfl
      have s5 := hf.at (d := 5) (v := .pointer (some ⟨w1.heap.size, 0, none⟩)) (by kernel_rfl) rfl
      have s6 := hf.at (d := 6) (v := .pointer (some ⟨w1.heap.size + 1, 0, none⟩)) (by kernel_rfl) rfl
      have s7 := hf.at (d := 7) (v := .pointer (some ⟨bq, 0, none⟩)) (by kernel_rfl) rfl
      have s8 := hf.at (d := 8) (v := .pointer (some ⟨bg, 0, none⟩)) (by kernel_rfl) rfl
      have s10 := hf.at (d := 10) (v := .pointer (some ⟨bx, 0, none⟩)) (by kernel_rfl) rfl
      have s11 := hf.at (d := 11) (v := .bool true) (by kernel_rfl) rfl
      obtain ⟨u, hu0, hv⟩ := frame_any a.tmps (n := 81) hf.size
      have hu : a.tmps = (u 0 :: u 1 :: u 2 :: u 3 :: u 4 :: u 5 :: u 6 :: u 7 :: u 8 :: u 9 :: u 10 :: u 11 :: u 12 :: u 13 :: u 14 :: u 15 :: u 16 :: u 17 :: u 18 :: u 19 :: u 20 :: u 21 :: u 22 :: u 23 :: u 24 :: u 25 :: u 26 :: u 27 :: u 28 :: u 29 :: u 30 :: u 31 :: u 32 :: u 33 :: u 34 :: u 35 :: u 36 :: u 37 :: u 38 :: u 39 :: u 40 :: u 41 :: u 42 :: u 43 :: u 44 :: u 45 :: u 46 :: u 47 :: u 48 :: u 49 :: u 50 :: u 51 :: u 52 :: u 53 :: u 54 :: u 55 :: u 56 :: u 57 :: u 58 :: u 59 :: u 60 :: u 61 :: u 62 :: u 63 :: u 64 :: u 65 :: u 66 :: u 67 :: u 68 :: u 69 :: u 70 :: u 71 :: u 72 :: u 73 :: u 74 :: u 75 :: u 76 :: u 77 :: u 78 :: u 79 :: u 80 :: []).toArray := hu0
      rw [(hv 1).trans s1, (hv 5).trans s5, (hv 6).trans s6, (hv 7).trans s7, (hv 8).trans s8, (hv 10).trans s10, (hv 11).trans s11, (hv 12).trans s12] at hu
      obtain rfl := act_eq hu (show a.defers = [] from hf.defers)
      have hOA := m3.here hB
      have rw9 := row_five r5
      have rx9 := row_below hB rx6
      have rg9 := row_below hB rg6
      have hwn : ¬ HeapBlocks (.slice aA A.calls.length kA) (.slice bA A.said.length lA) A.calls.length VA bo5 := fun e => by have e2 := (o3 _ e).1; rw [ho4] at e2; exact absurd e2 (by decide)
      have hw6 : W6.heap.size ≤ bo5 := hW4
      have HX9 : Hid (HeapAt w9 (.slice a5 R.calls.length k5) (.slice b5 R.said.length l5) R ∧ HeapAt w9 (.slice ag g.calls.length kg) (.slice aD H.said.length kD) g ∧ MethsAt w9 (.slice aq (List.length qs) cq) qs) := ⟨HX6.out.below hB, HM6.out.2.below hB, HM6.out.1.below hB⟩
      have hB9 := hB
      clear hu hu0 hv hk hown hf hB s1 s5 s6 s7 s8 s10 s11 s12 m3 o3 r5
      generalize bo5 = bw at *
      have hjA : j < A.calls.length := by rw [HAn.out.2.1]; exact hj
      obtain ⟨gA, oA, cA, hvA, hgA, _⟩ := hOA.c.form (by omega)
      injection hvA with hvA1 _ hvA2
      subst hvA1 hvA2
      have hgw : gA ≠ bw := fun e => hwn (.inr (.inl (by rw [e]; rfl)))
      have hgx : gA ≠ bx := fun e => by have := rx6.lt; omega
      obtain ⟨⟨q0, q1, q2, q3, q4, q5⟩, qf0, qf1, qf2, qf3, qf4, qf5⟩ := ocell_at hOA.c hjA
      obtain ⟨⟨y0, y1, y2, y3, y4⟩, yf0, yf1, yf2, yf3, yf4⟩ := five_cells rw9
      rw [HAn.out.1] at y1
      have htl : A.calls[j].temps.length = g.calls[j].temps.length := by have e := (after_same HGN.out.2.1 hj [(1, 7)] hj).2.2.1; rw [← HAA.out] at e; rw [← e]; simp [hjA]
      have hVt := (hOA.c.lists j hjA).1
      obtain ⟨gt, ot, ct, hvt, hgt1, hgt2⟩ := hVt.form (by omega)
      rw [hvt] at q2
      have HVT : Hid ((VA j).1 = .slice (some ⟨gt, ot, none⟩) A.calls[j].temps.length ct) := hvt
      have hgtw : gt ≠ bw := fun e => hwn (.inr (.inr ⟨j * 2, by omega, by rw [lst_0, hvt, e]; rfl⟩))
      have hgtx : gt ≠ bx := fun e => by have := rx6.lt; omega
      have HAj : Hid (A.now = (j : Int)) := HAn.out.1
      rw [hvt] at hVt
      have HVt : Hid (PairRow W6.heap.size w9 (.slice (some ⟨gt, ot, none⟩) A.calls[j].temps.length ct) A.calls[j].temps) := hVt
      have HOA : Hid (OwnHeap W6.heap.size w9 (.slice (some ⟨gA, oA, none⟩) A.calls.length kA) (.slice bA A.said.length lA) A VA) := hOA
      clear hvt hVt hOA q0 q1 q3 q4 q5 qf0 qf1 qf2 qf3 qf4 qf5 y2 y3 y4 yf0 yf1 yf2 yf3 yf4
      go_upto_region 9 with fail
      refine wp_region_fl [[], [0], [], [2], [0, 1, 2, 3], [0, 1, 2, 3, 4], [0, 1, 2, 3, 4, 5], [], [7], [7, 8], [], [10], [10, 11], [10, 11, 12], [0, 1, 2, 3, 4, 5, 6, 7, 8, 9, 10, 11, 12, 13], [0, 1, 2, 3, 4, 5, 6, 7, 8, 9, 10, 11, 12, 13, 14]] [[0], [1], [2], [3], [4], [5], [6], [7], [8], [9], [10], [11], [12], [13], [14], []] [[], [], [], [], [], [], [], [], [], [], [], [], [], [], [], []] [fIs (.pointer (some ⟨bw, 0, none⟩)), fIs (.slice (some ⟨gA, oA, none⟩) A.calls.length kA), fIs (.pointer (some ⟨bw, 1, none⟩)), fIs (.int .i64 (j : Int)), fIs (.pointer (some ⟨gA, oA + j * 6, none⟩)), fIs (.pointer (some ⟨gA, oA + j * 6 + 2, none⟩)), fIs (.slice (some ⟨gt, ot, none⟩) A.calls[j].temps.length ct), fIs (.slice a2 len2 cap2), fIs (.int .i64 (len2 : Int)), fIs (.int .i64 nn), fIs (.slice a2 len2 cap2), fIs (.int .i64 (len2 : Int)), fIs (.int .i64 vv), fIs (.agg #[.int .i64 1, .int .i64 vv]), fIs (.pointer (some ⟨gt, ot + I * 2, none⟩)), fOf fun _ => True] 15 rfl (by kernel_rfl) (by kernel_rfl) (by kernel_rfl) ?steps ?fin
      case steps =>
        refine all_lt_succ (all_lt_succ (all_lt_succ (all_lt_succ (all_lt_succ (all_lt_succ (all_lt_succ (all_lt_succ (all_lt_succ (all_lt_succ (all_lt_succ (all_lt_succ (all_lt_succ (all_lt_succ (all_lt_succ (all_lt_zero) ?s0) ?s1) ?s2) ?s3) ?s4) ?s5) ?s6) ?s7) ?s8) ?s9) ?s10) ?s11) ?s12) ?s13) ?s14
        case s0 =>
          intro a w val own hB hf hown hk
          have s12 := hf.at (d := 12) (v := .pointer (some ⟨bw, 0, none⟩)) (by kernel_rfl) rfl
          exact rf_pure (v := .pointer (some ⟨bw, 0, none⟩)) hB rfl rfl (by unfold execOp; go_simp) rfl
        case s1 =>
          intro a w val own hB hf hown hk
          obtain ⟨k0, f0⟩ := hk 0 (show 0 ∈ [0] by decide)
          have s60 := k0 60 rfl
          rw [fIs_out f0] at s60
          clear k0 f0
          have cy0 := cell_below hB y0
          exact rf_pure (v := .slice (some ⟨gA, oA, none⟩) A.calls.length kA) hB rfl rfl (by unfold execOp; go_simp) rfl
        case s2 =>
          intro a w val own hB hf hown hk
          have s12 := hf.at (d := 12) (v := .pointer (some ⟨bw, 0, none⟩)) (by kernel_rfl) rfl
          exact rf_pure (v := .pointer (some ⟨bw, 1, none⟩)) hB rfl rfl (by unfold execOp; go_simp) rfl
        case s3 =>
          intro a w val own hB hf hown hk
          obtain ⟨k2, f2⟩ := hk 2 (show 2 ∈ [2] by decide)
          have s62 := k2 62 rfl
          rw [fIs_out f2] at s62
          clear k2 f2
          have cy1 := cell_below hB y1
          exact rf_pure (v := .int .i64 (j : Int)) hB rfl rfl (by unfold execOp; go_simp) rfl
        case s4 =>
          intro a w val own hB hf hown hk
          obtain ⟨k1, f1⟩ := hk 1 (show 1 ∈ [0, 1, 2, 3] by decide)
          have s61 := k1 61 rfl
          rw [fIs_out f1] at s61
          clear k1 f1
          obtain ⟨k3, f3⟩ := hk 3 (show 3 ∈ [0, 1, 2, 3] by decide)
          have s63 := k3 63 rfl
          rw [fIs_out f3] at s63
          clear k3 f3
          exact rf_pure (v := .pointer (some ⟨gA, oA + j * 6, none⟩)) hB rfl rfl (by unfold execOp; go_simp) rfl
        case s5 =>
          intro a w val own hB hf hown hk
          obtain ⟨k4, f4⟩ := hk 4 (show 4 ∈ [0, 1, 2, 3, 4] by decide)
          have s64 := k4 64 rfl
          rw [fIs_out f4] at s64
          clear k4 f4
          exact rf_pure (v := .pointer (some ⟨gA, oA + j * 6 + 2, none⟩)) hB rfl rfl (by unfold execOp; go_simp) rfl
        case s6 =>
          intro a w val own hB hf hown hk
          obtain ⟨k5, f5⟩ := hk 5 (show 5 ∈ [0, 1, 2, 3, 4, 5] by decide)
          have s65 := k5 65 rfl
          rw [fIs_out f5] at s65
          clear k5 f5
          have cq2 := cell_below hB q2
          exact rf_pure (v := .slice (some ⟨gt, ot, none⟩) A.calls[j].temps.length ct) hB rfl rfl (by unfold execOp; go_simp) rfl
        case s7 =>
          intro a w val own hB hf hown hk
          have s1 := hf.at (d := 1) (v := .slice a2 len2 cap2) (by kernel_rfl) rfl
          exact rf_pure (v := .slice a2 len2 cap2) hB rfl rfl (by unfold execOp; go_simp) rfl
        case s8 =>
          intro a w val own hB hf hown hk
          obtain ⟨k7, f7⟩ := hk 7 (show 7 ∈ [7] by decide)
          have s67 := k7 67 rfl
          rw [fIs_out f7] at s67
          clear k7 f7
          exact rf_pure (v := .int .i64 (len2 : Int)) hB rfl rfl (by unfold execOp; go_simp) rfl
        case s9 =>
          intro a w val own hB hf hown hk
          obtain ⟨k8, f8⟩ := hk 8 (show 8 ∈ [7, 8] by decide)
          have s68 := k8 68 rfl
          rw [fIs_out f8] at s68
          clear k8 f8
          have hlet : Int.tmod ((len2 : Int)) 4 = nn := (Int.tmod_eq_emod_of_nonneg (by omega)).trans Hnn.out
          exact rf_pure (v := .int .i64 nn) hB rfl rfl (by unfold execOp; go_simp) rfl
        case s10 =>
          intro a w val own hB hf hown hk
          have s1 := hf.at (d := 1) (v := .slice a2 len2 cap2) (by kernel_rfl) rfl
          exact rf_pure (v := .slice a2 len2 cap2) hB rfl rfl (by unfold execOp; go_simp) rfl
        case s11 =>
          intro a w val own hB hf hown hk
          obtain ⟨k10, f10⟩ := hk 10 (show 10 ∈ [10] by decide)
          have s70 := k10 70 rfl
          rw [fIs_out f10] at s70
          clear k10 f10
          exact rf_pure (v := .int .i64 (len2 : Int)) hB rfl rfl (by unfold execOp; go_simp) rfl
        case s12 =>
          intro a w val own hB hf hown hk
          obtain ⟨k11, f11⟩ := hk 11 (show 11 ∈ [10, 11] by decide)
          have s71 := k11 71 rfl
          rw [fIs_out f11] at s71
          clear k11 f11
          have hlet : Int.tmod ((len2 : Int)) 50 = vv := (Int.tmod_eq_emod_of_nonneg (by omega)).trans Hvv.out
          exact rf_pure (v := .int .i64 vv) hB rfl rfl (by unfold execOp; go_simp) rfl
        case s13 =>
          intro a w val own hB hf hown hk
          obtain ⟨k12, f12⟩ := hk 12 (show 12 ∈ [10, 11, 12] by decide)
          have s72 := k12 72 rfl
          rw [fIs_out f12] at s72
          clear k12 f12
          exact rf_call hB rfl rfl (by unfold execOp; go_simp) ((lmNum_any (vv) w).mono fun e w' ⟨he, hb⟩ => ⟨_, he, hb, rfl⟩)
        case s14 =>
          intro a w val own hB hf hown hk
          obtain ⟨k6, f6⟩ := hk 6 (show 6 ∈ [0, 1, 2, 3, 4, 5, 6, 7, 8, 9, 10, 11, 12, 13] by decide)
          have s66 := k6 66 rfl
          rw [fIs_out f6] at s66
          clear k6 f6
          obtain ⟨k9, f9⟩ := hk 9 (show 9 ∈ [0, 1, 2, 3, 4, 5, 6, 7, 8, 9, 10, 11, 12, 13] by decide)
          have s69 := k9 69 rfl
          rw [fIs_out f9] at s69
          clear k9 f9
          have hnI := HNI.out
          have hIl2 : I < A.calls[j].temps.length := by omega
          exact rf_pure (v := .pointer (some ⟨gt, ot + I * 2, none⟩)) hB rfl rfl (by unfold execOp; go_simp) rfl
      case fin =>
        intro a w10 val own hB hf hown hk
        obtain ⟨k14, f14⟩ := hk 14 (by decide)
        have s74 := k14 74 rfl
        rw [fIs_out f14] at s74
        clear k14 f14
        obtain ⟨k13, f13⟩ := hk 13 (by decide)
        have s73 := k13 73 rfl
        rw [fIs_out f13] at s73
        clear k13 f13
        have s1 := hf.at (d := 1) (v := .slice a2 len2 cap2) (by kernel_rfl) rfl
        have s5 := hf.at (d := 5) (v := .pointer (some ⟨w1.heap.size, 0, none⟩)) (by kernel_rfl) rfl
        have s6 := hf.at (d := 6) (v := .pointer (some ⟨w1.heap.size + 1, 0, none⟩)) (by kernel_rfl) rfl
        have s7 := hf.at (d := 7) (v := .pointer (some ⟨bq, 0, none⟩)) (by kernel_rfl) rfl
        have s8 := hf.at (d := 8) (v := .pointer (some ⟨bg, 0, none⟩)) (by kernel_rfl) rfl
        have s10 := hf.at (d := 10) (v := .pointer (some ⟨bx, 0, none⟩)) (by kernel_rfl) rfl
        have s11 := hf.at (d := 11) (v := .bool true) (by kernel_rfl) rfl
        have s12 := hf.at (d := 12) (v := .pointer (some ⟨bw, 0, none⟩)) (by kernel_rfl) rfl
        have hIl2 : I < A.calls[j].temps.length := by omega
        obtain ⟨⟨z0, z1⟩, zf0, zf1⟩ := (HVt.out.below hB).cell hIl2
        refine wpOp_skip (w' := setAll w10 gt (ot + I * 2) [.int .i64 1, .int .i64 vv]) rfl rfl (by unfold execOp; simp only [setAll]; go_simp) ?_
        simp only [Act.put, setAll]
        obtain ⟨u, hu0, hv⟩ := frame_any a.tmps (n := 81) hf.size
        have hu : a.tmps = (u 0 :: u 1 :: u 2 :: u 3 :: u 4 :: u 5 :: u 6 :: u 7 :: u 8 :: u 9 :: u 10 :: u 11 :: u 12 :: u 13 :: u 14 :: u 15 :: u 16 :: u 17 :: u 18 :: u 19 :: u 20 :: u 21 :: u 22 :: u 23 :: u 24 :: u 25 :: u 26 :: u 27 :: u 28 :: u 29 :: u 30 :: u 31 :: u 32 :: u 33 :: u 34 :: u 35 :: u 36 :: u 37 :: u 38 :: u 39 :: u 40 :: u 41 :: u 42 :: u 43 :: u 44 :: u 45 :: u 46 :: u 47 :: u 48 :: u 49 :: u 50 :: u 51 :: u 52 :: u 53 :: u 54 :: u 55 :: u 56 :: u 57 :: u 58 :: u 59 :: u 60 :: u 61 :: u 62 :: u 63 :: u 64 :: u 65 :: u 66 :: u 67 :: u 68 :: u 69 :: u 70 :: u 71 :: u 72 :: u 73 :: u 74 :: u 75 :: u 76 :: u 77 :: u 78 :: u 79 :: u 80 :: []).toArray := hu0
        rw [(hv 1).trans s1, (hv 5).trans s5, (hv 6).trans s6, (hv 7).trans s7, (hv 8).trans s8, (hv 10).trans s10, (hv 11).trans s11, (hv 12).trans s12] at hu
        obtain rfl := act_eq hu (show a.defers = [] from hf.defers)
        clear hu hu0 hv hk hown hf s1 s5 s6 s7 s8 s10 s11 s12 s73 s74
        have hO10 := HOA.out.below hB
        have hpu := hO10.put hjA (put_temp hO10.c hjA HVT.out I hIl2 1 vv)
        have hbl : ∀ q, q ≠ gt → ((w10.setCell ⟨gt, ot + I * 2, none⟩ (.int .i64 1)).setCell ⟨gt, ot + I * 2 + 1, none⟩ (.int .i64 vv)).heap[q]? = w10.heap[q]? := fun q e => (Below.heap_setCell _ _ _ _ e).trans (Below.heap_setCell _ _ _ _ e)
        have rwE := (row_below hB rw9).of_block (hbl bw (Ne.symm hgtw))
        have rxE := (row_below hB rx9).of_block (hbl bx (Ne.symm hgtx))
        have b10 := hB9.trans (hB.mono hB9.size)
        have bE : Below W6.heap.size W6 ((w10.setCell ⟨gt, ot + I * 2, none⟩ (.int .i64 1)).setCell ⟨gt, ot + I * 2 + 1, none⟩ (.int .i64 vv)) := (b10.setCell (p := ⟨gt, ot + I * 2, none⟩) hgt1 _).setCell (p := ⟨gt, ot + I * 2 + 1, none⟩) hgt1 _
        have HXE : Hid (HeapAt ((w10.setCell ⟨gt, ot + I * 2, none⟩ (.int .i64 1)).setCell ⟨gt, ot + I * 2 + 1, none⟩ (.int .i64 vv)) (.slice a5 R.calls.length k5) (.slice b5 R.said.length l5) R) := HX6.out.below bE
        have hRA : R = { A with calls := A.calls.set j { A.calls[j] with temps := A.calls[j].temps.set I (1, vv) } } := by rw [HRA.out, ← HAA.out, curC_at HAn.out.1 hjA, HNI.out]; exact setH_at HAn.out.1 hjA _
        have HpE : Hid (HeapAt ((w10.setCell ⟨gt, ot + I * 2, none⟩ (.int .i64 1)).setCell ⟨gt, ot + I * 2 + 1, none⟩ (.int .i64 vv)) (.slice (some ⟨gA, oA, none⟩) R.calls.length kA) (.slice bA R.said.length lA) R) := by
          show HeapAt _ _ _ _
          rw [hRA]
          simpa using hpu.at
        clear hpu hO10 hbl rw9 rx9 q2 y0 y1 z0 z1 zf0 zf1 b10 hB
        generalize ((w10.setCell ⟨gt, ot + I * 2, none⟩ (.int .i64 1)).setCell ⟨gt, ot + I * 2 + 1, none⟩ (.int .i64 vv)) = WE at *
        have hRw : R.calls.length = A.calls.length ∧ R.now = A.now ∧ R.born = A.born ∧ R.said.length = A.said.length ∧ R.code = A.code := by rw [hRA]; exact ⟨by simp, rfl, rfl, rfl, rfl⟩
        obtain ⟨hR0, hR1, hR2, hR3, hR4⟩ := hRw
        clear hRA
        obtain ⟨⟨x0, x1, x2, x3, x4⟩, _⟩ := five_cells rxE
        obtain ⟨⟨y0, y1, y2, y3, y4⟩, _⟩ := five_cells rwE
        rw [← hR0] at y0
        rw [← hR1] at y1
        rw [← hR2] at y2
        rw [← hR3] at y3
        rw [← hR4] at y4
        have HLM := lmHeap_same R _ _ _ _ WE HXE.out HpE.out
        unfold hpCells at HLM
        clear hR0 hR1 hR2 hR3 hR4 rxE rwE
        go_wp2_with fail
        refine HLM.mono ?_
        rintro e wZ ⟨rfl, hbZ⟩
        go_wp2
        go_ret
        exact ⟨ret_bool (by first | rfl | simp), (hB6.trans (bE.mono z6)).trans (hbZ.mono (by have := bE.size; omega))⟩
end Go.Proofs.YtindklhklnpfgaaGreatDoor
