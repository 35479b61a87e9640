/-
  The law FnHeapRoom, walked: whatever bytes come in, it answers true and writes to nothing that was there, where the table opForms lies as its text lays it.
-/
import Derived.Test.YtindklhklnpfgaaGreatDoorDrawHeapStep
import Derived.Test.YtindklhklnpfgaaGreatDoorLmStep
import Derived.Test.YtindklhklnpfgaaGreatDoorHSame
import Derived.Lib.MinMax

namespace Go.Proofs.YtindklhklnpfgaaGreatDoor
open Go.RowKit
theorem with_stuckHeapRoom {ms qs : Ms} {H g : Hp} {k x : Int} {st : List (Int × Int)} (h : WithOk ms H k x st qs g true) {t l : Int} (ht : takesOf qs k x = (t, l)) (h2 : ((st.length : Int) - t < 0 ∨ 6 < (st.length : Int) - t + l) ∨ kindsOk k (st.drop ((st.length : Int) - t).toNat) = false) : hRun qs g 1 = codeH g 2 := by
  obtain ⟨hg, hc, hr, hs, j, m, pc, hj, hm, hpl, hn, hcur, hst, hme, hpc, hop⟩ := with_at h
  have e := stepH_at hn hj hme hpc hm hpl hop ht
  rw [hst] at e
  rw [hr, e]
  by_cases h3 : (st.length : Int) - t < 0 ∨ 6 < (st.length : Int) - t + l
  · rw [if_pos h3]
    rfl
  · rw [if_neg h3]
    rcases h2 with h2 | h2
    · exact absurd h2 h3
    · rw [if_pos h2]
      rfl
set_option maxRecDepth 100000 in
set_option maxHeartbeats 4000000 in
theorem lawHeapRoom_any (w : World) (a : Option Addr) (len cap : Nat) (a2 : Option Addr) (len2 cap2 : Nat) (h : BytesAt w a len cap) (hc2 : len2 ≤ 9223372036854775807) (hT : TabAt w) :
    Calls Tryz.prog 10 #[.slice a len cap, .slice a2 len2 cap2] w fun e w' => e = .returned (.bool true) ∧ Below w.heap.size w w' := by
  have hc := h.1
  have hm := h.2.1
  unfold maxLen at hm
  have HB : Hid (BytesAt w a len cap) := h
  have HT : Hid (TabAt w) := hT
  clear h hT
  by_cases hl : 1048576 < len
  · have hlz : (1048576 : Int) < (len : Int) := by omega
    go_enter Tryz.func10, Tryz.ntmps10
    go_wp2
    go_ret
    exact ⟨rfl, Below.refl _ _⟩
  have hlz : (len : Int) ≤ 1048576 := by omega
  by_cases hl2 : 1048576 < len2
  · have hlz2 : (1048576 : Int) < (len2 : Int) := by omega
    go_enter Tryz.func10, Tryz.ntmps10
    go_wp2
    go_ret
    exact ⟨rfl, Below.refl _ _⟩
  have hlz2 : (len2 : Int) ≤ 1048576 := by omega
  go_enter Tryz.func10, Tryz.ntmps10
  go_wp2_with fail
  refine (drawHeapStep_any _ a len cap HB.out).mono ?_
  rintro e w1 ⟨v, vc, vs, ms, H, rfl, hD, hB1⟩
  obtain ⟨hM1, hH1⟩ := hD.st.here
  have l30 := hD.fine.l30
  have sd100 := hD.fine.sd
  have HPO : Hid (progOk ms = true) := hD.ok
  clear hD
  obtain ⟨aV, cV, hvV, _⟩ := id hM1
  obtain ⟨ac, kc, hvc⟩ := hH1.c.shape
  obtain ⟨aD, kD, hvs⟩ := hH1.s.shape
  subst hvV hvc hvs
  have z1 := hB1.size
  clear HB
  unfold hpCells
  go_upto_region 4 with fail
  have N2 : Below w1.heap.size w1 ((w1.alloc (.cells #[.slice aV ms.length cV] 25)).alloc (.cells #[.slice ac H.calls.length kc, .int .i64 H.now, .int .i64 H.born, .slice aD H.said.length kD, .int .i64 H.code] 29)) := ((Below.refl _ _).alloc (Nat.le_refl _) _).alloc (by simp) _
  have rp := (pbox_new w1 (.slice aV ms.length cV)).alloc (.cells #[.slice ac H.calls.length kc, .int .i64 H.now, .int .i64 H.born, .slice aD H.said.length kD, .int .i64 H.code] 29)
  have rh := five_new (w1.alloc (.cells #[.slice aV ms.length cV] 25)) 29 (.slice ac H.calls.length kc) (.int .i64 H.now) (.int .i64 H.born) (.slice aD H.said.length kD) (.int .i64 H.code)
  simp only [World.size_alloc] at rh
  generalize (w1.alloc (.cells #[.slice aV ms.length cV] 25)).alloc (.cells #[.slice ac H.calls.length kc, .int .i64 H.now, .int .i64 H.born, .slice aD H.said.length kD, .int .i64 H.code] 29) = W2 at *
  have hB2 := hB1.trans (N2.mono z1)
  have z2 := hB2.size
  have HMH : Hid (MethsAt W2 (.slice aV ms.length cV) ms ∧ HeapAt W2 (.slice ac H.calls.length kc) (.slice aD H.said.length kD) H ∧ TabAt W2) := ⟨hM1.below N2, hH1.below N2, HT.out.below hB2⟩
  clear hM1 hH1 hB1 N2 HT
  go_wp2_with fail
  refine (lmNum_any _ _).mono ?_
  rintro e w31 ⟨rfl, hb31⟩
  go_wp2_with fail
  refine (lmNum_any _ _).mono ?_
  rintro e w32 ⟨rfl, hb32⟩
  go_wp2_with fail
  refine (lmNum_any _ _).mono ?_
  rintro e w33 ⟨rfl, hb33⟩
  go_wp2_with fail
  refine (lmNum_any _ _).mono ?_
  rintro e w34 ⟨rfl, hb34⟩
  go_wp2_with fail
  refine (lmNum_any _ _).mono ?_
  rintro e w35 ⟨rfl, hb35⟩
  go_wp2_with fail
  refine (lmNum_any _ _).mono ?_
  rintro e w36 ⟨rfl, hb36⟩
  go_upto_region 5 with fail
  obtain ⟨I, hI⟩ : ∃ I : Nat, (len2 : Int) % 2 = (I : Int) := ⟨((len2 : Int) % 2).toNat, by omega⟩
  have hIn : I < 2 := by omega
  have HIE : Hid ((len2 : Int) % 2 = (I : Int)) := hI
  clear hI
  obtain ⟨kk, hkk⟩ : ∃ kk : Int, (I = 0 ∧ kk = 1) ∨ (I = 1 ∧ kk = 11) := (Nat.lt_or_ge I 1).elim (fun h => ⟨1, .inl ⟨by omega, rfl⟩⟩) (fun h => ⟨11, .inr ⟨by omega, rfl⟩⟩)
  have HKK : Hid (∀ w : World, (w.alloc (.cells #[.int .i64 1, .int .i64 11] 3)).cell? ⟨w.heap.size, I, none⟩ = some (.int .i64 kk)) := fun w => by rcases hkk with ⟨rfl, rfl⟩ | ⟨rfl, rfl⟩ <;> simp [go_sem]
  have HTK : Hid (∀ qs : Ms, takesOf qs kk 0 = (0, 1)) := fun qs => by rcases hkk with ⟨_, rfl⟩ | ⟨_, rfl⟩ <;> rfl
  clear hkk
  have c31 := hb31
  have c32 := c31.trans (hb32.mono c31.size)
  have c33 := c32.trans (hb33.mono c32.size)
  have c34 := c33.trans (hb34.mono c33.size)
  have c35 := c34.trans (hb35.mono c34.size)
  have c36 := c35.trans (hb36.mono c35.size)
  have hb3 : Below W2.heap.size W2 (w36.alloc (.cells #[.int .i64 1, .int .i64 1, .int .i64 1, .int .i64 2, .int .i64 1, .int .i64 3, .int .i64 1, .int .i64 4, .int .i64 1, .int .i64 5, .int .i64 1, .int .i64 6] 37)) := c36.alloc c36.size _
  have hvs := list_vals w36 [(1, 1), (1, 2), (1, 3), (1, 4), (1, 5), (1, 6)] 37 6 (by simp) #[.int .i64 1, .int .i64 1, .int .i64 1, .int .i64 2, .int .i64 1, .int .i64 3, .int .i64 1, .int .i64 4, .int .i64 1, .int .i64 5, .int .i64 1, .int .i64 6] (fun i hi => by simp at hi; rcases (by omega : i = 0 ∨ i = 1 ∨ i = 2 ∨ i = 3 ∨ i = 4 ∨ i = 5) with rfl | rfl | rfl | rfl | rfl | rfl <;> exact ⟨rfl, rfl⟩)
  have HVS : Hid (OpsAt (w36.alloc (.cells #[.int .i64 1, .int .i64 1, .int .i64 1, .int .i64 2, .int .i64 1, .int .i64 3, .int .i64 1, .int .i64 4, .int .i64 1, .int .i64 5, .int .i64 1, .int .i64 6] 37)) (.slice (some ⟨w36.heap.size, 0, none⟩) 6 6) [(1, 1), (1, 2), (1, 3), (1, 4), (1, 5), (1, 6)]) := hvs
  clear hvs c31 hb31 c32 hb32 c33 hb33 c34 hb34 c35 hb35 c36 hb36
  have HMHn : Hid (MethsAt (w36.alloc (.cells #[.int .i64 1, .int .i64 1, .int .i64 1, .int .i64 2, .int .i64 1, .int .i64 3, .int .i64 1, .int .i64 4, .int .i64 1, .int .i64 5, .int .i64 1, .int .i64 6] 37)) (.slice aV ms.length cV) ms ∧ HeapAt (w36.alloc (.cells #[.int .i64 1, .int .i64 1, .int .i64 1, .int .i64 2, .int .i64 1, .int .i64 3, .int .i64 1, .int .i64 4, .int .i64 1, .int .i64 5, .int .i64 1, .int .i64 6] 37)) (.slice ac H.calls.length kc) (.slice aD H.said.length kD) H ∧ TabAt (w36.alloc (.cells #[.int .i64 1, .int .i64 1, .int .i64 1, .int .i64 2, .int .i64 1, .int .i64 3, .int .i64 1, .int .i64 4, .int .i64 1, .int .i64 5, .int .i64 1, .int .i64 6] 37))) := ⟨HMH.out.1.below hb3, HMH.out.2.1.below hb3, HMH.out.2.2.below hb3⟩
  have rpn := row_below hb3 rp
  have rhn := row_below hb3 rh
  have hB2n := hB2.trans (hb3.mono z2)
  clear hb3
  clear HMH rp rh hB2 z2
  generalize w36.alloc (.cells #[.int .i64 1, .int .i64 1, .int .i64 1, .int .i64 2, .int .i64 1, .int .i64 3, .int .i64 1, .int .i64 4, .int .i64 1, .int .i64 5, .int .i64 1, .int .i64 6] 37) = W2 at *
  have HMH := HMHn
  have rp := rpn
  have rh := rhn
  have hB2 := hB2n
  have z2 := hB2.size
  clear HMHn rpn rhn hB2n
  generalize w36.heap.size = bvs at *
  obtain ⟨⟨d0, d1, d2, d3, d4⟩, _⟩ := five_cells rh
  have dp := rp.cell (i := 0) (by decide)
  have hl1000 : H.calls.length ≤ 1000 := by omega
  refine wp_region_fs [[], [], [], [], [3], [3, 4], [2, 3, 4, 5], [2, 3, 4, 5, 6], [2, 3, 4, 5, 6, 7], [], [0, 1, 2, 3, 4, 5, 6, 7, 8, 9], [0, 1, 2, 3, 4, 5, 6, 7, 8, 9, 10], [0, 1, 2, 3, 4, 5, 6, 7, 8, 9, 10, 11], [0, 1, 2, 3, 4, 5, 6, 7, 8, 9, 10, 11], [0, 1, 2, 3, 4, 5, 6, 7, 8, 9, 10, 11], [], [], [0, 1, 2, 3, 4, 5, 6, 7, 8, 9, 10, 11, 12, 15, 16], [0, 1, 2, 3, 4, 5, 6, 7, 8, 9, 10, 11, 12, 13, 15, 16, 17], [0, 1, 2, 3, 4, 5, 6, 7, 8, 9, 10, 11, 12, 13, 14, 15, 16, 17, 18]] [[0], [1], [2], [3], [4], [5], [6, 2], [7], [8], [9], [10], [11, 10], [12, 11], [13, 11], [14, 11], [15], [16], [15, 12], [16, 13], [19, 14]] [[], [], [], [], [], [], [], [], [], [], [], [], [], [], [], [], [], [15], [16], []] [fIs (.agg #[.slice aV ms.length cV]), fIs (.agg #[.slice ac H.calls.length kc, .int .i64 H.now, .int .i64 H.born, .slice aD H.said.length kD, .int .i64 H.code]), fGh 2 (fun (x : Nat) l => l = [.slice (some ⟨x, 0, none⟩) 2 2]) (fun x w1 => w1.cell? ⟨x, I, none⟩ = some (.int .i64 kk)), fIs (.slice a2 len2 cap2), fIs (.int .i64 (len2 : Int)), fIs (.int .i64 (I : Int)), fOf fun l => ∃ x, l = [.pointer (some ⟨x, I, none⟩), .slice (some ⟨x, 0, none⟩) 2 2], fIs (.int .i64 kk), fIs (.agg #[.int .i64 kk, .int .i64 0]), fIs (.slice (some ⟨bvs, 0, none⟩) 6 6), fWith 10 ms H kk 0 [(1, 1), (1, 2), (1, 3), (1, 4), (1, 5), (1, 6)] (.slice aD H.said.length kD), fOf fun l => l.getD 0 undef = l.getD 1 undef, fOf fun l => l.getD 0 undef = tget (l.getD 1 undef) 0, fOf fun l => l.getD 0 undef = tget (l.getD 1 undef) 1, fOf fun l => l.getD 0 undef = tget (l.getD 1 undef) 2, fBox 15 25 1, fBox 16 29 5, fRow 15 25 1 fun b f l => l.getD 0 undef = .pointer (some ⟨b, 0, none⟩) ∧ f = fun q => (l.getD 1 undef).cells.toList.getD q undef, fRow 16 29 5 fun b f l => l.getD 0 undef = .pointer (some ⟨b, 0, none⟩) ∧ f = fun q => (l.getD 1 undef).cells.toList.getD q undef, fOf fun l => l.getD 0 undef = l.getD 1 undef] 20 rfl (by kernel_rfl) (by kernel_rfl) ?steps ?fin
  case steps =>
    refine all_lt_succ (all_lt_succ (all_lt_succ (all_lt_succ (all_lt_succ (all_lt_succ (all_lt_succ (all_lt_succ (all_lt_succ (all_lt_succ (all_lt_succ (all_lt_succ (all_lt_succ (all_lt_succ (all_lt_succ (all_lt_succ (all_lt_succ (all_lt_succ (all_lt_succ (all_lt_succ (all_lt_zero) ?s0) ?s1) ?s2) ?s3) ?s4) ?s5) ?s6) ?s7) ?s8) ?s9) ?s10) ?s11) ?s12) ?s13) ?s14) ?s15) ?s16) ?s17) ?s18) ?s19
    case s0 =>
      intro a w val own hB hf hown hk
      have s5 := hf.at (d := 5) (v := .pointer (some ⟨w1.heap.size, 0, none⟩)) (by kernel_rfl) rfl
      have c0 := cell_below hB dp
      exact rf_pure (v := .agg #[.slice aV ms.length cV]) hB rfl rfl (by unfold execOp; go_simp) rfl
    case s1 =>
      intro a w val own hB hf hown hk
      have s6 := hf.at (d := 6) (v := .pointer (some ⟨w1.heap.size + 1, 0, none⟩)) (by kernel_rfl) rfl
      obtain ⟨c0, c1, c2, c3, c4⟩ : _ ∧ _ ∧ _ ∧ _ ∧ _ := ⟨cell_below hB d0, cell_below hB d1, cell_below hB d2, cell_below hB d3, cell_below hB d4⟩
      exact rf_pure (v := .agg #[.slice ac H.calls.length kc, .int .i64 H.now, .int .i64 H.born, .slice aD H.said.length kD, .int .i64 H.code]) hB rfl rfl (by unfold execOp; go_simp) rfl
    case s2 =>
      intro a w val own hB hf hown hk
      exact rf_new (v := .slice (some ⟨w.heap.size, 0, none⟩) 2 2) (w' := w.alloc (.cells #[.int .i64 1, .int .i64 11] 3)) hB rfl rfl (by unfold execOp; go_simp) ((Below.refl _ _).alloc (Nat.le_refl _) _) ⟨_, rfl, Made.new fun w1 _ _ hr => by show w1.cell? ⟨w.heap.size, I, none⟩ = _; rw [World.cell?_of_block (w := w.alloc (.cells #[.int .i64 1, .int .i64 11] 3)) (hr w.heap.size (Nat.le_refl _) (by simp))]; exact HKK.out w⟩
    case s3 =>
      intro a w val own hB hf hown hk
      have s1 := hf.at (d := 1) (v := .slice a2 len2 cap2) (by kernel_rfl) rfl
      exact rf_pure (v := .slice a2 len2 cap2) hB rfl rfl (by unfold execOp; go_simp) rfl
    case s4 =>
      intro a w val own hB hf hown hk
      obtain ⟨k3, f3⟩ := hk 3 (show 3 ∈ [3] by decide)
      have s38 := k3 38 rfl
      rw [fIs_out f3] at s38
      clear k3 f3
      exact rf_pure (v := .int .i64 (len2 : Int)) hB rfl rfl (by unfold execOp; go_simp) rfl
    case s5 =>
      intro a w val own hB hf hown hk
      obtain ⟨k4, f4⟩ := hk 4 (show 4 ∈ [3, 4] by decide)
      have s39 := k4 39 rfl
      rw [fIs_out f4] at s39
      clear k4 f4
      have hlet : Int.tmod ((len2 : Int)) 2 = (I : Int) := (Int.tmod_eq_emod_of_nonneg (by omega)).trans HIE.out
      exact rf_pure (v := .int .i64 (I : Int)) hB rfl rfl (by unfold execOp; go_simp) rfl
    case s6 =>
      intro a w val own hB hf hown hk
      obtain ⟨k2, x2, e2, m2⟩ := hk 2 (show 2 ∈ [2, 3, 4, 5] by decide)
      have v2 := one_eq e2
      have s37 := k2 37 rfl
      rw [v2] at s37
      clear k2 e2
      obtain ⟨k5, f5⟩ := hk 5 (show 5 ∈ [2, 3, 4, 5] by decide)
      have s40 := k5 40 rfl
      rw [fIs_out f5] at s40
      clear k5 f5
      have hIz : (I : Int) < 2 := by omega
      exact rf_pure (v := .pointer (some ⟨x2, I, none⟩)) hB rfl rfl (by unfold execOp; go_simp) ⟨x2, by show [_, val 2] = _; rw [v2]; rfl⟩
    case s7 =>
      intro a w val own hB hf hown hk
      obtain ⟨k2, x2, e2, m2⟩ := hk 2 (show 2 ∈ [2, 3, 4, 5, 6] by decide)
      have v2 := one_eq e2
      have s37 := k2 37 rfl
      rw [v2] at s37
      clear k2 e2
      obtain ⟨k6, xa6, e6⟩ := hk 6 (show 6 ∈ [2, 3, 4, 5, 6] by decide)
      have ea6 : [val 6, val 2] = [.pointer (some ⟨xa6, I, none⟩), .slice (some ⟨xa6, 0, none⟩) 2 2] := e6
      rw [v2] at ea6
      injection ea6 with e16 e26
      injection e26 with e26 _
      injection e26 with e26 _ _
      injection e26 with e26
      injection e26 with e26 _ _
      subst e26
      have s41 := k6 41 rfl
      rw [e16] at s41
      clear k6 e6
      have hcl := m2.here hB
      exact rf_pure (v := .int .i64 kk) hB rfl rfl (by unfold execOp; go_simp) rfl
    case s8 =>
      intro a w val own hB hf hown hk
      obtain ⟨k7, f7⟩ := hk 7 (show 7 ∈ [2, 3, 4, 5, 6, 7] by decide)
      have s42 := k7 42 rfl
      rw [fIs_out f7] at s42
      clear k7 f7
      exact rf_pure (v := .agg #[.int .i64 kk, .int .i64 0]) hB rfl rfl (by unfold execOp; go_simp) rfl
    case s9 =>
      intro a w val own hB hf hown hk
      have s7 := hf.at (d := 7) (v := .slice (some ⟨bvs, 0, none⟩) 6 6) (by kernel_rfl) rfl
      exact rf_pure (v := .slice (some ⟨bvs, 0, none⟩) 6 6) hB rfl rfl (by unfold execOp; go_simp) rfl
    case s10 =>
      intro a w val own hB hf hown hk
      obtain ⟨k0, f0⟩ := hk 0 (show 0 ∈ [0, 1, 2, 3, 4, 5, 6, 7, 8, 9] by decide)
      have s35 := k0 35 rfl
      rw [fIs_out f0] at s35
      clear k0 f0
      obtain ⟨k1, f1⟩ := hk 1 (show 1 ∈ [0, 1, 2, 3, 4, 5, 6, 7, 8, 9] by decide)
      have s36 := k1 36 rfl
      rw [fIs_out f1] at s36
      clear k1 f1
      obtain ⟨k8, f8⟩ := hk 8 (show 8 ∈ [0, 1, 2, 3, 4, 5, 6, 7, 8, 9] by decide)
      have s43 := k8 43 rfl
      rw [fIs_out f8] at s43
      clear k8 f8
      obtain ⟨k9, f9⟩ := hk 9 (show 9 ∈ [0, 1, 2, 3, 4, 5, 6, 7, 8, 9] by decide)
      have s44 := k9 44 rfl
      rw [fIs_out f9] at s44
      clear k9 f9
      exact rf_call hB rfl rfl (by unfold execOp hpCells; go_simp) (with_call (x := 0) (vc := .slice ac H.calls.length kc) HMH.out.1 HMH.out.2.1 hB (HVS.out.below hB) hl1000 HPO.out (by simp))
    case s11 =>
      intro a w val own hB hf hown hk
      have s45 := (hk 10 (show 10 ∈ [0, 1, 2, 3, 4, 5, 6, 7, 8, 9, 10] by decide)).1 45 rfl
      exact rf_pure (v := val 10) hB rfl rfl (by unfold execOp; go_simp) rfl
    case s12 =>
      intro a w val own hB hf hown hk
      obtain ⟨k10, ⟨aq, cq, ag, kg, qs, g, ok⟩, ⟨e10, hX⟩, mX⟩ := hk 10 (show 10 ∈ [0, 1, 2, 3, 4, 5, 6, 7, 8, 9, 10, 11] by decide)
      have v10 := one_eq e10
      have s45 := k10 45 rfl
      unfold WG.val at v10
      dsimp only at v10 hX mX
      rw [v10] at s45
      clear k10 e10
      obtain ⟨k11, f11⟩ := hk 11 (show 11 ∈ [0, 1, 2, 3, 4, 5, 6, 7, 8, 9, 10, 11] by decide)
      have v11 : val 11 = _ := Eq.trans f11 v10
      have s34 := k11 34 rfl
      rw [v11] at s34
      clear k11 f11
      exact rf_pure (v := .agg #[.slice aq qs.length cq]) hB rfl rfl (by unfold execOp; go_simp) (by show _ = tget (val 11) 0; rw [v11]; rfl)
    case s13 =>
      intro a w val own hB hf hown hk
      obtain ⟨k10, ⟨aq, cq, ag, kg, qs, g, ok⟩, ⟨e10, hX⟩, mX⟩ := hk 10 (show 10 ∈ [0, 1, 2, 3, 4, 5, 6, 7, 8, 9, 10, 11] by decide)
      have v10 := one_eq e10
      have s45 := k10 45 rfl
      unfold WG.val at v10
      dsimp only at v10 hX mX
      rw [v10] at s45
      clear k10 e10
      obtain ⟨k11, f11⟩ := hk 11 (show 11 ∈ [0, 1, 2, 3, 4, 5, 6, 7, 8, 9, 10, 11] by decide)
      have v11 : val 11 = _ := Eq.trans f11 v10
      have s34 := k11 34 rfl
      rw [v11] at s34
      clear k11 f11
      exact rf_pure (v := .agg #[.slice ag g.calls.length kg, .int .i64 g.now, .int .i64 g.born, .slice aD H.said.length kD, .int .i64 g.code]) hB rfl rfl (by unfold execOp; go_simp) (by show _ = tget (val 11) 1; rw [v11]; rfl)
    case s14 =>
      intro a w val own hB hf hown hk
      obtain ⟨k10, ⟨aq, cq, ag, kg, qs, g, ok⟩, ⟨e10, hX⟩, mX⟩ := hk 10 (show 10 ∈ [0, 1, 2, 3, 4, 5, 6, 7, 8, 9, 10, 11] by decide)
      have v10 := one_eq e10
      have s45 := k10 45 rfl
      unfold WG.val at v10
      dsimp only at v10 hX mX
      rw [v10] at s45
      clear k10 e10
      obtain ⟨k11, f11⟩ := hk 11 (show 11 ∈ [0, 1, 2, 3, 4, 5, 6, 7, 8, 9, 10, 11] by decide)
      have v11 : val 11 = _ := Eq.trans f11 v10
      have s34 := k11 34 rfl
      rw [v11] at s34
      clear k11 f11
      exact rf_pure (v := .bool ok) hB rfl rfl (by unfold execOp; go_simp) (by show _ = tget (val 11) 2; rw [v11]; rfl)
    case s15 =>
      intro a w val own hB hf hown hk
      exact rf_new (v := .pointer (some ⟨w.heap.size, 0, none⟩)) (w' := w.alloc (.cells #[.slice none 0 0] 25)) hB rfl rfl (by unfold execOp; go_simp) ((Below.refl _ _).alloc (Nat.le_refl _) _) (fBox_new hB #[.slice none 0 0])
    case s16 =>
      intro a w val own hB hf hown hk
      exact rf_new (v := .pointer (some ⟨w.heap.size, 0, none⟩)) (w' := w.alloc (.cells #[.slice none 0 0, .int .i64 0, .int .i64 0, .slice none 0 0, .int .i64 0] 29)) hB rfl rfl (by unfold execOp; go_simp) ((Below.refl _ _).alloc (Nat.le_refl _) _) (fBox_new hB #[.slice none 0 0, .int .i64 0, .int .i64 0, .slice none 0 0, .int .i64 0])
    case s17 =>
      intro a w val own hB hf hown hk
      obtain ⟨k15, bo15, g15, e15, ho15, hW15, r15⟩ := hk 15 (show 15 ∈ [0, 1, 2, 3, 4, 5, 6, 7, 8, 9, 10, 11, 12, 15, 16] by decide)
      have v15 := one_eq e15
      have s8 := k15 8 rfl
      rw [v15] at s8
      clear k15 e15
      obtain ⟨k10, ⟨aq, cq, ag, kg, qs, g, ok⟩, ⟨e10, hX⟩, mX⟩ := hk 10 (show 10 ∈ [0, 1, 2, 3, 4, 5, 6, 7, 8, 9, 10, 11, 12, 15, 16] by decide)
      have v10 := one_eq e10
      have s45 := k10 45 rfl
      unfold WG.val at v10
      dsimp only at v10 hX mX
      rw [v10] at s45
      clear k10 e10
      obtain ⟨k11, f11⟩ := hk 11 (show 11 ∈ [0, 1, 2, 3, 4, 5, 6, 7, 8, 9, 10, 11, 12, 15, 16] by decide)
      have v11 : val 11 = _ := Eq.trans f11 v10
      have s34 := k11 34 rfl
      rw [v11] at s34
      clear k11 f11
      obtain ⟨k12, f12⟩ := hk 12 (show 12 ∈ [0, 1, 2, 3, 4, 5, 6, 7, 8, 9, 10, 11, 12, 15, 16] by decide)
      have v12 : val 12 = .agg #[.slice aq qs.length cq] := by have e : val 12 = tget (val 11) 0 := f12; rw [e, v11]; rfl
      have s46 := k12 46 rfl
      rw [v12] at s46
      clear k12 f12
      have c0 := r15.cell (i := 0) (by decide)
      have z0 := r15.frozen 0
      exact rf_set (w' := setAll w bo15 0 [.slice aq qs.length cq]) rfl rfl (by unfold execOp; simp only [setAll]; go_simp) (setAll_does (show own bo15 ∈ [15] by rw [ho15]; decide) hW15 _ 0 hB) (fRow_set [.slice aq qs.length cq] r15 ho15 hW15 rfl ⟨v15, by show _ = fun q => (val 12).cells.toList.getD q undef; rw [v12]; rfl⟩)
    case s18 =>
      intro a w val own hB hf hown hk
      obtain ⟨k16, bo16, g16, e16, ho16, hW16, r16⟩ := hk 16 (show 16 ∈ [0, 1, 2, 3, 4, 5, 6, 7, 8, 9, 10, 11, 12, 13, 15, 16, 17] by decide)
      have v16 := one_eq e16
      have s9 := k16 9 rfl
      rw [v16] at s9
      clear k16 e16
      obtain ⟨k10, ⟨aq, cq, ag, kg, qs, g, ok⟩, ⟨e10, hX⟩, mX⟩ := hk 10 (show 10 ∈ [0, 1, 2, 3, 4, 5, 6, 7, 8, 9, 10, 11, 12, 13, 15, 16, 17] by decide)
      have v10 := one_eq e10
      have s45 := k10 45 rfl
      unfold WG.val at v10
      dsimp only at v10 hX mX
      rw [v10] at s45
      clear k10 e10
      obtain ⟨k11, f11⟩ := hk 11 (show 11 ∈ [0, 1, 2, 3, 4, 5, 6, 7, 8, 9, 10, 11, 12, 13, 15, 16, 17] by decide)
      have v11 : val 11 = _ := Eq.trans f11 v10
      have s34 := k11 34 rfl
      rw [v11] at s34
      clear k11 f11
      obtain ⟨k13, f13⟩ := hk 13 (show 13 ∈ [0, 1, 2, 3, 4, 5, 6, 7, 8, 9, 10, 11, 12, 13, 15, 16, 17] by decide)
      have v13 : val 13 = .agg #[.slice ag g.calls.length kg, .int .i64 g.now, .int .i64 g.born, .slice aD H.said.length kD, .int .i64 g.code] := by have e : val 13 = tget (val 11) 1 := f13; rw [e, v11]; rfl
      have s47 := k13 47 rfl
      rw [v13] at s47
      clear k13 f13
      have c0 := r16.cell (i := 0) (by decide)
      have c1 := r16.cell (i := 1) (by decide)
      have c2 := r16.cell (i := 2) (by decide)
      have c3 := r16.cell (i := 3) (by decide)
      have c4 := r16.cell (i := 4) (by decide)
      have z0 := r16.frozen 0
      have z1 := r16.frozen 1
      have z2 := r16.frozen 2
      have z3 := r16.frozen 3
      have z4 := r16.frozen 4
      exact rf_set (w' := setAll w bo16 0 [.slice ag g.calls.length kg, .int .i64 g.now, .int .i64 g.born, .slice aD H.said.length kD, .int .i64 g.code]) rfl rfl (by unfold execOp; simp only [setAll]; go_simp) (setAll_does (show own bo16 ∈ [16] by rw [ho16]; decide) hW16 _ 0 hB) (fRow_set [.slice ag g.calls.length kg, .int .i64 g.now, .int .i64 g.born, .slice aD H.said.length kD, .int .i64 g.code] r16 ho16 hW16 rfl ⟨v16, by show _ = fun q => (val 13).cells.toList.getD q undef; rw [v13]; rfl⟩)
    case s19 =>
      intro a w val own hB hf hown hk
      have s48 := (hk 14 (show 14 ∈ [0, 1, 2, 3, 4, 5, 6, 7, 8, 9, 10, 11, 12, 13, 14, 15, 16, 17, 18] by decide)).1 48 rfl
      exact rf_pure (v := val 14) hB rfl rfl (by unfold execOp; go_simp) rfl
  case fin =>
    intro a w3 val own hB hf hown hk
    obtain ⟨k15, bo15, g15, e15, ho15, hW15, r15⟩ := hk 15 (by decide)
    have v15 := one_eq e15
    have s8 := k15 8 rfl
    rw [v15] at s8
    clear k15 e15
    obtain ⟨k10, ⟨aq, cq, ag, kg, qs, g, ok⟩, ⟨e10, hX⟩, mX⟩ := hk 10 (by decide)
    have v10 := one_eq e10
    have s45 := k10 45 rfl
    unfold WG.val at v10
    dsimp only at v10 hX mX
    rw [v10] at s45
    clear k10 e10
    obtain ⟨k11, f11⟩ := hk 11 (by decide)
    have v11 : val 11 = _ := Eq.trans f11 v10
    have s34 := k11 34 rfl
    rw [v11] at s34
    clear k11 f11
    obtain ⟨k12, f12⟩ := hk 12 (by decide)
    have v12 : val 12 = .agg #[.slice aq qs.length cq] := by have e : val 12 = tget (val 11) 0 := f12; rw [e, v11]; rfl
    have s46 := k12 46 rfl
    rw [v12] at s46
    clear k12 f12
    obtain ⟨_, bo17, g17, ⟨e17, hg17⟩, _, _, r17⟩ := hk 17 (by decide)
    have q17 : bo17 = bo15 := by have e : val 15 = _ := e17; rw [v15] at e; injection e with e; injection e with e; injection e with e; exact e.symm
    subst q17
    have hg17 : g17 = fun q => (val 12).cells.toList.getD q undef := hg17
    rw [v12] at hg17
    subst hg17
    have r17 : w3.rowIs bo17 _ _ (fun q => [.slice aq qs.length cq].getD q undef) := r17
    clear e17
    obtain ⟨k16, bo16, g16, e16, ho16, hW16, r16⟩ := hk 16 (by decide)
    have v16 := one_eq e16
    have s9 := k16 9 rfl
    rw [v16] at s9
    clear k16 e16
    obtain ⟨k13, f13⟩ := hk 13 (by decide)
    have v13 : val 13 = .agg #[.slice ag g.calls.length kg, .int .i64 g.now, .int .i64 g.born, .slice aD H.said.length kD, .int .i64 g.code] := by have e : val 13 = tget (val 11) 1 := f13; rw [e, v11]; rfl
    have s47 := k13 47 rfl
    rw [v13] at s47
    clear k13 f13
    obtain ⟨_, bo18, g18, ⟨e18, hg18⟩, _, _, r18⟩ := hk 18 (by decide)
    have q18 : bo18 = bo16 := by have e : val 16 = _ := e18; rw [v16] at e; injection e with e; injection e with e; injection e with e; exact e.symm
    subst q18
    have hg18 : g18 = fun q => (val 13).cells.toList.getD q undef := hg18
    rw [v13] at hg18
    subst hg18
    have r18 : w3.rowIs bo18 _ _ (fun q => [.slice ag g.calls.length kg, .int .i64 g.now, .int .i64 g.born, .slice aD H.said.length kD, .int .i64 g.code].getD q undef) := r18
    clear e18
    obtain ⟨k14, f14⟩ := hk 14 (by decide)
    have v14 : val 14 = .bool ok := by have e : val 14 = tget (val 11) 2 := f14; rw [e, v11]; rfl
    have s48 := k14 48 rfl
    rw [v14] at s48
    clear k14 f14
    obtain ⟨k19, f19⟩ := hk 19 (by decide)
    have v19 : val 19 = _ := Eq.trans f19 v14
    have s10 := k19 10 rfl
    rw [v19] at s10
    clear k19 f19
    have s1 := hf.at (d := 1) (v := .slice a2 len2 cap2) (by kernel_rfl) rfl
    have s5 := hf.at (d := 5) (v := .pointer (some ⟨w1.heap.size, 0, none⟩)) (by kernel_rfl) rfl
    have s6 := hf.at (d := 6) (v := .pointer (some ⟨w1.heap.size + 1, 0, none⟩)) (by kernel_rfl) rfl
    have s7 := hf.at (d := 7) (v := .slice (some ⟨bvs, 0, none⟩) 6 6) (by kernel_rfl) rfl
    obtain ⟨u, hu0, hv⟩ := frame_any a.tmps (n := 70) hf.size
    have hu : a.tmps = (u 0 :: u 1 :: u 2 :: u 3 :: u 4 :: u 5 :: u 6 :: u 7 :: u 8 :: u 9 :: u 10 :: u 11 :: u 12 :: u 13 :: u 14 :: u 15 :: u 16 :: u 17 :: u 18 :: u 19 :: u 20 :: u 21 :: u 22 :: u 23 :: u 24 :: u 25 :: u 26 :: u 27 :: u 28 :: u 29 :: u 30 :: u 31 :: u 32 :: u 33 :: u 34 :: u 35 :: u 36 :: u 37 :: u 38 :: u 39 :: u 40 :: u 41 :: u 42 :: u 43 :: u 44 :: u 45 :: u 46 :: u 47 :: u 48 :: u 49 :: u 50 :: u 51 :: u 52 :: u 53 :: u 54 :: u 55 :: u 56 :: u 57 :: u 58 :: u 59 :: u 60 :: u 61 :: u 62 :: u 63 :: u 64 :: u 65 :: u 66 :: u 67 :: u 68 :: u 69 :: []).toArray := hu0
    rw [(hv 1).trans s1, (hv 5).trans s5, (hv 6).trans s6, (hv 7).trans s7, (hv 8).trans s8, (hv 9).trans s9, (hv 10).trans s10] at hu
    obtain rfl := act_eq hu (show a.defers = [] from hf.defers)
    obtain ⟨hM3, hH3⟩ := mX.here hB
    have rq := row_one r17
    have rg := row_five r18
    have hB3 := hB
    clear hu hu0 hv hk hown hf mX hB s1 s5 s6 s7 s8 s9 s10
    generalize bo17 = bq at *
    generalize bo18 = bg at *
    clear d0 d1 d2 d3 d4 dp rp rh
    have z3 := hB3.size
    have hlg : g.calls.length ≤ 1000 := by have := hX.l; omega
    have hsg : g.said.length ≤ 800000 := by rw [hX.s]; omega
    have hT3 := HMH.out.2.2.below hB3
    have HI := implHeapStep_any _ _ _ qs g w3 hM3 hT3 hH3 hlg hsg
    have HMX : Hid (MethsAt w3 (.slice aq (List.length qs) cq) qs ∧ HeapAt w3 (.slice ag g.calls.length kg) (.slice aD H.said.length kD) g ∧ WithOk ms H kk 0 [(1, 1), (1, 2), (1, 3), (1, 4), (1, 5), (1, 6)] qs g ok) := ⟨hM3, hH3, hX⟩
    have HRE : Hid (ok = true → heapOk qs g = true ∧ hRun qs g 1 = (codeH g 2) ∧ Good qs g ∧ ∃ j : Nat, g.now = (j : Int) ∧ ∃ hj : j < g.calls.length, 0 ≤ g.calls[j].pc ∧ g.calls[j].pc ≤ 1000) := fun e => by
      subst e
      obtain ⟨_, _, _, ho⟩ := hX.yes rfl
      have hA := with_at hX
      obtain ⟨hg, hc, hr, hs, j, m, pc, hj, hm, hpl, hn, hcur, hst, hme, hpc, hop⟩ := hA
      refine ⟨ho, ?_, hg, j, hn, hj, ?_⟩
      · exact with_stuckHeapRoom hX (t := 0) (l := 1) (HTK.out _) (.inl (.inr (by simp)))
      · have := (hg.cl j hj).pc
        have hp := hg.head.p
        unfold progOk at hp
        simp only [Bool.and_eq_true] at hp
        have ha := List.all_eq_true.1 hp.2 _ (List.getElem_mem hm)
        unfold methOk at ha
        simp only [Bool.and_eq_true, decide_eq_true_eq] at ha
        have h14 := ha.1.2
        rw [hpc]
        omega
    clear hM3 hH3 hX hT3
    generalize hRun qs g 1 = R at *
    obtain ⟨fb, hfb⟩ : ∃ fb, heapOk qs g = fb := ⟨_, rfl⟩
    rw [hfb] at HI
    have HFB : Hid (heapOk qs g = fb) := hfb
    clear hfb
    unfold hpCells at HI
    obtain ⟨⟨d0, d1, d2, d3, d4⟩, _⟩ := five_cells rg
    have dp := rq.cell (i := 0) (by decide)
    go_wp2_with fail
    refine HI.mono ?_
    rintro e w5 ⟨⟨vc5, vs5, V5, rfl, hO5⟩, hb5⟩
    obtain ⟨a5, k5, hv5⟩ := hO5.at.c.shape
    obtain ⟨b5, l5, hs5⟩ := hO5.at.s.shape
    subst hv5 hs5
    have z5 := hb5.size
    have rq5 := row_below hb5 rq
    have rg5 := row_below hb5 rg
    clear HI d0 d1 d2 d3 d4 dp rq rg
    go_upto_region 7 with fail
    have N6 : Below w5.heap.size w5 (w5.alloc (.cells #[.slice a5 R.calls.length k5, .int .i64 R.now, .int .i64 R.born, .slice b5 R.said.length l5, .int .i64 R.code] 29)) := (Below.refl _ _).alloc (Nat.le_refl _) _
    have rx6 := five_new w5 29 (.slice a5 R.calls.length k5) (.int .i64 R.now) (.int .i64 R.born) (.slice b5 R.said.length l5) (.int .i64 R.code)
    have rq6 := row_below N6 rq5
    have rg6 := row_below N6 rg5
    have b6 := hb5.trans (N6.mono z5)
    have HX6 : Hid (HeapAt (w5.alloc (.cells #[.slice a5 R.calls.length k5, .int .i64 R.now, .int .i64 R.born, .slice b5 R.said.length l5, .int .i64 R.code] 29)) (.slice a5 R.calls.length k5) (.slice b5 R.said.length l5) R) := hO5.at.below N6
    clear hO5 rq5 rg5 N6
    generalize w5.alloc (.cells #[.slice a5 R.calls.length k5, .int .i64 R.now, .int .i64 R.born, .slice b5 R.said.length l5, .int .i64 R.code] 29) = W6 at *
    generalize w5.heap.size = bx at *
    have HM6 : Hid (MethsAt W6 (.slice aq (List.length qs) cq) qs ∧ HeapAt W6 (.slice ag g.calls.length kg) (.slice aD H.said.length kD) g) := ⟨HMX.out.1.below b6, HMX.out.2.1.below b6⟩
    have hB6 := (hB2.trans (hB3.mono z2)).trans (b6.mono (by have := hB2.size; omega))
    have z6 := hB6.size
    cases ok
    · have HOK := specHeapOk_any _ _ _ qs g W6 HM6.out.1 HM6.out.2 (by omega)
      rw [HFB.out] at HOK
      unfold hpCells at HOK
      obtain ⟨⟨d0, d1, d2, d3, d4⟩, _⟩ := five_cells rg6
      have dp := rq6.cell (i := 0) (by decide)
      go_wp2_with fail
      refine HOK.mono ?_
      rintro e w7 ⟨rfl, hb7⟩
      go_wp2
      go_ret
      exact ⟨ret_bool (by cases fb <;> rfl), hB6.trans (hb7.mono z6)⟩
    obtain ⟨hfb, hRE, hgd, j, hnj, hj, hpcj⟩ := HRE.out rfl
    have hfb2 : fb = true := by rw [← HFB.out]; exact hfb
    subst hfb2
    have HRA : Hid (R = (codeH g 2)) := hRE
    have HGN : Hid (Good qs g ∧ g.now = (j : Int) ∧ j < g.calls.length) := ⟨hgd, hnj, hj⟩
    clear hRE HRE hfb hnj hgd
    have hRf : R.now = g.now ∧ R.born = g.born ∧ R.code = 2 := by rw [HRA.out]; exact ⟨rfl, rfl, rfl⟩
    have HRF : Hid (R.now = g.now ∧ R.born = g.born ∧ R.code = 2) := hRf
    clear hRf hpcj
    obtain ⟨⟨d0, d1, d2, d3, d4⟩, _⟩ := five_cells rg6
    go_upto_region 10 with fail
    have N8 : Below W6.heap.size W6 (W6.alloc (.cells #[.slice ag g.calls.length kg, .int .i64 g.now, .int .i64 g.born, .slice aD H.said.length kD, .int .i64 g.code] 29)) := (Below.refl _ _).alloc (Nat.le_refl _) _
    have rw8 := five_new W6 29 (.slice ag g.calls.length kg) (.int .i64 g.now) (.int .i64 g.born) (.slice aD H.said.length kD) (.int .i64 g.code)
    have rx8 := row_below N8 rx6
    have HW8 : Hid (HeapAt (W6.alloc (.cells #[.slice ag g.calls.length kg, .int .i64 g.now, .int .i64 g.born, .slice aD H.said.length kD, .int .i64 g.code] 29)) (.slice ag g.calls.length kg) (.slice aD H.said.length kD) g ∧ HeapAt (W6.alloc (.cells #[.slice ag g.calls.length kg, .int .i64 g.now, .int .i64 g.born, .slice aD H.said.length kD, .int .i64 g.code] 29)) (.slice a5 R.calls.length k5) (.slice b5 R.said.length l5) R ∧ Below W6.heap.size W6 (W6.alloc (.cells #[.slice ag g.calls.length kg, .int .i64 g.now, .int .i64 g.born, .slice aD H.said.length kD, .int .i64 g.code] 29))) := ⟨HM6.out.2.below N8, HX6.out.below N8, N8⟩
    clear N8 d0 d1 d2 d3 d4 rg6 rq6
    generalize W6.alloc (.cells #[.slice ag g.calls.length kg, .int .i64 g.now, .int .i64 g.born, .slice aD H.said.length kD, .int .i64 g.code] 29) = W8 at *
    have hbx := rx6.lt
    obtain ⟨bw, hbw⟩ : ∃ bw, W6.heap.size = bw := ⟨_, rfl⟩
    have hne : bx ≠ bw := by omega
    have HBW : Hid (W6.heap.size = bw) := hbw
    rw [hbw] at rw8 ⊢
    clear hbw rx6 hbx
    obtain ⟨⟨e0, e1, e2, e3, e4⟩, ef0, ef1, ef2, ef3, ef4⟩ := five_cells rw8
    go_upto_region 11 with fail
    have hbl : ∀ r, r ≠ bw → (W8.setCell ⟨bw, 4, none⟩ (.int .i64 2)).heap[r]? = W8.heap[r]? := fun r e => Below.heap_setCell _ _ _ _ e
    have rw9 := five_set4 rw8 (.int .i64 2)
    have rx9 := rx8.of_block (hbl bx hne)
    have b9 : Below W6.heap.size W6 (W8.setCell ⟨bw, 4, none⟩ (.int .i64 2)) := HW8.out.2.2.setCell (p := ⟨bw, 4, none⟩) (by rw [HBW.out]; exact Nat.le_refl _) _
    clear e0 e1 e2 e3 e4 ef0 ef1 ef2 ef3 ef4 rw8 rx8 hbl
    generalize W8.setCell ⟨bw, 4, none⟩ (.int .i64 2) = W9 at *
    obtain ⟨⟨e0, e1, e2, e3, e4⟩, _⟩ := five_cells rw9
    obtain ⟨⟨x0, x1, x2, x3, x4⟩, _⟩ := five_cells rx9
    rw [← HRF.out.1] at e1
    rw [← HRF.out.2.1] at e2
    rw [← HRF.out.2.2] at e4
    have HLM := lmHeap_same R _ _ _ _ W9 (HX6.out.below b9) (show HeapAt W9 (.slice ag g.calls.length kg) (.slice aD H.said.length kD) R by rw [HRA.out]; exact ⟨(HM6.out.2.below b9).c, (HM6.out.2.below b9).s⟩)
    unfold hpCells at HLM
    clear rw9 rx9
    go_wp2_with fail
    refine HLM.mono ?_
    rintro e w10 ⟨rfl, hb10⟩
    go_wp2
    go_ret
    exact ⟨ret_bool (by first | rfl | simp), (hB6.trans (b9.mono z6)).trans (hb10.mono (by have := b9.size; omega))⟩
end Go.Proofs.YtindklhklnpfgaaGreatDoor
