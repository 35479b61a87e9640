/-
  lmInts of the laws, walked: at the same numbers it answers true.
-/
import Derived.Test.YtehffhhiikahbaaDoorProg
import Derived.Test.YtehffhhiikahbaaDoorInts
import Derived.BigQuiet
import Derived.Deep.QuietTactic
namespace Go.Proofs.YtehffhhiikahbaaDoor
open Go.RowKit

set_option maxRecDepth 100000 in
set_option maxHeartbeats 1000000 in
theorem lmInts_same (B B' : Nat) (v v' : Value) (f : List Int) (w : World) (h : IntRow B w v f) (h' : IntRow B' w v' f) :
    Calls Tryd.prog 14 #[v, v'] w fun e w' => e = .returned (.bool true) ∧ Below w.heap.size w w' := by
  obtain ⟨a1, c1, rfl, hl⟩ := h.slice
  obtain ⟨a2, c2, rfl, _⟩ := h'.slice
  unfold maxLen at hl
  go_enter Tryd.func14, Tryd.ntmps14
  go_wp2
  go_loopg [5] f.length (fun d i wr => ∃ k : Nat, k ≤ f.length ∧ d = f.length - k ∧ i = .int .i64 k ∧ Below w.heap.size w wr)
  case atStart => exact ⟨0, Nat.zero_le _, rfl, rfl, Below.refl _ _⟩
  case round =>
    obtain ⟨k, hk, rfl, rfl, hb⟩ := hrel
    by_cases hlt : k < f.length
    · have hkz : (k : Int) < (f.length : Int) := by omega
      obtain ⟨g1, o1, q1, e1, _⟩ := h.form (by omega)
      cases e1
      obtain ⟨g2, o2, q2, e2, _⟩ := h'.form (by omega)
      cases e2
      have d1 := ((h.below hb).cell hlt).1
      have d2 := ((h'.below hb).cell hlt).1
      go_wp2_with fail
      go_region
      all_goals
        go_wp2
        go_roundg (f.length - (k + 1))
        case measure => omega
        case rel => exact ⟨k + 1, by omega, rfl, by go_num, hb.drew⟩
    · obtain rfl : k = f.length := by omega
      go_wp2
      go_ret
      exact ⟨rfl, hb⟩

end Go.Proofs.YtehffhhiikahbaaDoor
