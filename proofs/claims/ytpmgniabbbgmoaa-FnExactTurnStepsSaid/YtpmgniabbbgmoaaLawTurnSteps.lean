/-
  The law FnExactTurnSteps, walked: whatever turns lie behind its argument, it answers true and writes to nothing that was there.
-/
import Derived.Test.YtpmgniabbbgmoaaTurns
import Derived.Deep.RegionHeld3
namespace Go.Proofs.Ytpmgniabbbgmoaa
open Go.RowKit

set_option maxHeartbeats 2000000 in
theorem lawTurns_any (v : Value) (ts : List (Int × Int)) (w : World) (h : OpsAt w v ts) :
    Calls Try.prog 4 #[v] w fun e w' => e = .returned (.bool true) ∧ Below w.heap.size w w' := by
  obtain ⟨a, cap, hv, hl, _⟩ := id h
  subst hv
  go_enter Try.func4, Try.ntmps4
  go_wp2_with fail
  refine (szTurnS_any _ _ _ _ _ (by omega) (by omega) hl).mono ?_
  rintro e w' ⟨r, rfl, hr1, hr0, hw'⟩
  obtain rfl := hw'.symm
  by_cases hr : r < 0
  · go_wp2
    go_ret
    exact ⟨rfl, Below.refl _ _⟩
  have HN : Hid (ts.length ≤ 1048576) := hr0 (by omega)
  clear hr0
  go_wp2_with fail
  refine (toTurnS_any _ ts _ h HN.out).mono ?_
  rintro e w1 ⟨v1, rfl, hv1, _, hb1, _⟩
  obtain ⟨a1, c1, hv1e, _⟩ := id hv1
  subst hv1e
  go_wp2_with fail
  refine (specTurnSteps_any _ ts _ hv1 HN.out).mono ?_
  rintro e w2 ⟨rfl, hb2⟩
  have B2 : Below w.heap.size w w2 := hb1.trans (hb2.mono hb1.size)
  clear hb1 hb2 hv1
  obtain ⟨n, hn⟩ : ∃ n, stepsN ts = n := ⟨_, rfl⟩
  have HS : Hid (stepsN ts = n) := hn
  clear hn
  rw [HS.out]
  go_wp2_with fail
  refine (toTurnS_any _ ts _ (h.below B2) HN.out).mono ?_
  rintro e w3 ⟨v3, rfl, hv3, _, hb3, _⟩
  obtain ⟨a3, c3, hv3e, _⟩ := id hv3
  subst hv3e
  have B3 : Below w.heap.size w w3 := B2.trans (hb3.mono B2.size)
  clear hb3 B2
  go_wp2_with fail
  refine (implTurnSteps_any _ ts _ hv3 HN.out).mono ?_
  rintro e w4 ⟨rfl, hb4⟩
  rw [HS.out]
  have B4 : Below w.heap.size w w4 := B3.trans (hb4.mono B3.size)
  have hv4 := hv3.below hb4
  clear hb4 B3 hv3
  go_wp2_with fail
  refine (toTurnS_any _ ts _ (h.below B4) HN.out).mono ?_
  rintro e w5 ⟨v5, rfl, hv5, _, hb5, _⟩
  obtain ⟨a5, c5, hv5e, _⟩ := id hv5
  subst hv5e
  have B5 : Below w.heap.size w w5 := B4.trans (hb5.mono B4.size)
  have hv6 := hv4.below hb5
  clear hb5 B4 hv4
  go_wp2_with fail
  refine (eqTurnS_same _ _ ts _ hv6 hv5).mono ?_
  rintro e w6 ⟨rfl, hb6⟩
  have B6 : Below w.heap.size w w6 := B5.trans (hb6.mono B5.size)
  clear hb6 B5
  go_wp2
  go_ret
  exact ⟨rfl, B6⟩

end Go.Proofs.Ytpmgniabbbgmoaa
