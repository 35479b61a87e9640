/-
  The law FnTurnSteps, walked: whatever bytes come in, it answers true and writes to nothing that was there.
-/
import Derived.Test.YtpmgniabbbgmoaaDrawTurns
import Derived.Deep.RegionHeld3
namespace Go.Proofs.Ytpmgniabbbgmoaa
open Go.RowKit

set_option maxRecDepth 100000 in
set_option maxHeartbeats 2000000 in
theorem lawTurnSteps_any (w : World) (a : Option Addr) (len cap : Nat) (a2 : Option Addr) (len2 cap2 : Nat) (h : BytesAt w a len cap) (hc2 : len2 ≤ 9223372036854775807) :
    Calls Try.prog 3 #[.slice a len cap, .slice a2 len2 cap2] w fun e w' => e = .returned (.bool true) ∧ Below w.heap.size w w' := by
  have hc := h.1
  have hm := h.2.1
  unfold maxLen at hm
  have HB : Hid (BytesAt w a len cap) := h
  clear h
  by_cases hl : 1048576 < len
  · have hlz : (1048576 : Int) < (len : Int) := by omega
    go_enter Try.func3, Try.ntmps3
    go_wp2
    go_ret
    exact ⟨rfl, Below.refl _ _⟩
  have hlz : (len : Int) ≤ 1048576 := by omega
  by_cases hl2 : 1048576 < len2
  · have hlz2 : (1048576 : Int) < (len2 : Int) := by omega
    go_enter Try.func3, Try.ntmps3
    go_wp2
    go_ret
    exact ⟨rfl, Below.refl _ _⟩
  have hlz2 : (len2 : Int) ≤ 1048576 := by omega
  go_enter Try.func3, Try.ntmps3
  go_wp2_with fail
  refine (drawTurnSteps_any _ a len cap HB.out).mono ?_
  rintro e w1 ⟨v, ts, B, rfl, P1, hts, B1⟩
  obtain ⟨aL, cL, hvL, _⟩ := P1.slice
  subst hvL
  obtain ⟨k, hk, hkd⟩ : ∃ k : Nat, (k ≤ ts.length) ∧ (len2 : Int).tmod ((ts.length : Int) + 1) = (k : Int) := by
    have h1 := Int.emod_nonneg (len2 : Int) (show ((ts.length : Int) + 1) ≠ 0 by omega)
    have h2 := Int.emod_lt_of_pos (len2 : Int) (show (0 : Int) < (ts.length : Int) + 1 by omega)
    refine ⟨((len2 : Int) % ((ts.length : Int) + 1)).toNat, by omega, ?_⟩
    rw [Int.tmod_eq_emod_of_nonneg (by omega)]
    omega
  have hsum : stepsN ts = stepsN (ts.take k) + stepsN (ts.drop k) := by rw [← stepsN_app, List.take_append_drop]
  have O0 := P1.at
  obtain ⟨O1, hkc⟩ := P1.piece (l := 0) (k := k) (by omega) hk
  obtain ⟨O2, _⟩ := P1.piece (l := k) (k := ts.length) hk (Nat.le_refl _)
  rw [List.drop_zero] at O1
  rw [List.take_length] at O2
  have s1 : ∀ W : World, (Instr.slice 23 (.slice aL ts.length cL) none (some (.int .i64 (k : Int))) none).run Try.prog W = .ok (sliced aL 0 k cL 2) W := fun W => turn_to W aL ts.length cL k hkc
  have s2 : ∀ W : World, (Instr.slice 23 (.slice aL ts.length cL) (some (.int .i64 (k : Int))) none none).run Try.prog W = .ok (sliced aL k ts.length cL 2) W := fun W => turn_from W aL ts.length cL k hk
  generalize sliced aL 0 k cL 2 = V1 at *
  generalize sliced aL k ts.length cL 2 = V2 at *
  obtain ⟨n1, hn1⟩ : ∃ n, stepsN (ts.take k) = n := ⟨_, rfl⟩
  obtain ⟨n2, hn2⟩ : ∃ n, stepsN (ts.drop k) = n := ⟨_, rfl⟩
  have hb1 := stepsN_le (ts.take k)
  have hb2 := stepsN_le (ts.drop k)
  have hl1 : (ts.take k).length ≤ 9 := by rw [List.length_take]; omega
  have hl2' : (ts.drop k).length ≤ 9 := by rw [List.length_drop]; omega
  have HC0 : Hid (∀ W : World, Below w1.heap.size w1 W → Calls Try.prog 6 #[.slice aL ts.length cL] W fun e w' => e = .returned (.int .i64 (n1 + n2)) ∧ Below W.heap.size W w') := fun W hW => by have q := implTurnSteps_any _ ts W (O0.below hW) (by omega); rw [hsum, hn1, hn2] at q; exact q
  have HCS : Hid (∀ W : World, Below w1.heap.size w1 W → Calls Try.prog 7 #[.slice aL ts.length cL] W fun e w' => e = .returned (.int .i64 (n1 + n2)) ∧ Below W.heap.size W w') := fun W hW => by have q := specTurnSteps_any _ ts W (O0.below hW) (by omega); rw [hsum, hn1, hn2] at q; exact q
  have HC1 : Hid (∀ W : World, Below w1.heap.size w1 W → Calls Try.prog 6 #[V1] W fun e w' => e = .returned (.int .i64 n1) ∧ Below W.heap.size W w') := fun W hW => by have q := implTurnSteps_any _ _ W (O1.below hW) (by omega); rw [hn1] at q; exact q
  have HC2 : Hid (∀ W : World, Below w1.heap.size w1 W → Calls Try.prog 6 #[V2] W fun e w' => e = .returned (.int .i64 n2) ∧ Below W.heap.size W w') := fun W hW => by have q := implTurnSteps_any _ _ W (O2.below hW) (by omega); rw [hn2] at q; exact q
  rw [hn1] at hb1
  rw [hn2] at hb2
  have hb3 : 0 ≤ n1 ∧ n1 ≤ 3600 ∧ 0 ≤ n2 ∧ n2 ≤ 3600 := by omega
  have hkz : (k : Int) ≤ (ts.length : Int) := by omega
  have hnn : 0 ≤ n1 + n2 := by omega
  have hw : IntKind.i64.wrap (n1 + n2) = n1 + n2 := by rw [IntKind.wrap_i64]; omega
  clear hsum hn1 hn2 hb1 hb2 hl1 hl2' O0 O1 O2 P1 hkc
  go_wp2_with fail
  refine (HC0.out w1 (Below.refl _ _)).mono ?_
  rintro e w2 ⟨rfl, hb4⟩
  have hz := hb4.size
  have hb4d : Below w1.heap.size w1 w2.drew := hb4.drew
  have hzd : w1.heap.size ≤ w2.drew.heap.size := hz
  go_upto_region 6 with fail
  go_wp2_with fail
  go_region_held3 (fun _ => True) (exact trivial)
    ((first
      | (have hh := hb6; clear hh; go_at_call 6; refine (HC2.out _ (hb4d.trans ((hb5.trans (hb6.mono hb5.size)).mono hzd))).mono ?_; rintro e w7 ⟨rfl, hb7⟩)
      | (have hh := hb5; clear hh; go_at_call 6; refine (HC1.out _ (hb4d.trans (hb5.mono hzd))).mono ?_; rintro e w6 ⟨rfl, hb6⟩)
      | (go_at_call 7; refine (HCS.out _ hb4d).mono ?_; rintro e w5 ⟨rfl, hb5⟩)))
  have hB7 : Below w.heap.size w w7 := B1.trans ((hb4d.trans ((hb5.trans ((hb6.trans (hb7.mono hb6.size)).mono hb5.size)).mono hzd)).mono B1.size)
  go_wp2
  go_ret
  exact ⟨rfl, hB7⟩

end Go.Proofs.Ytpmgniabbbgmoaa
