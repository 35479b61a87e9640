/-
  The sizes that the exact laws look at first, of values, calls and heaps: where szHeap answers no number below 0, none of its lists is longer than 1048576; it writes to nothing that was there.
-/
import Derived.Test.YtldiccheboipeaaProg
import Derived.Test.YtldiccheboipeaaHBase
namespace Go.Proofs.Ytldiccheboipeaa
open Go.RowKit

theorem szValS_any (a : Option Addr) (n c : Nat) (left : Int) (w : World) (h0 : 0 ≤ left) (h1 : left ≤ 1048576) (hn : n ≤ maxLen) :
    Calls Try.prog 77 #[.slice a n c, .int .i64 left] w fun e w' => ∃ r : Int, e = .returned (.int .i64 r) ∧ r ≤ 1048576 ∧ (0 ≤ r → n ≤ 1048576) ∧ w' = w := by
  unfold maxLen at hn
  go_enter Try.func77, Try.ntmps77
  by_cases hlt : left - n < 0
  · go_wp2
    go_ret
    exact ⟨_, rfl, by omega, fun h => absurd h (by omega), rfl⟩
  · go_wp2
    go_ret
    exact ⟨_, rfl, by omega, fun _ => by omega, rfl⟩

set_option maxHeartbeats 400000 in
theorem szCall_any (c : Cl) (vt vs : Value) (left : Int) (w : World) (ht : OpsAt w vt c.temps) (hs : OpsAt w vs c.stack) (h0 : 0 ≤ left) (h1 : left ≤ 1048576) :
    Calls Try.prog 144 #[.agg #[.int .i64 c.m, .int .i64 c.pc, vt, vs, .int .i64 c.sender, .bool c.dead], .int .i64 left] w fun e w' => ∃ r : Int, e = .returned (.int .i64 r) ∧ r ≤ 1048576 ∧ (0 ≤ r → c.small) ∧ Below w.heap.size w w' := by
  obtain ⟨a1, k1, rfl, hl1, _⟩ := ht
  obtain ⟨a2, k2, rfl, hl2, _⟩ := hs
  have HB : ∀ o, Below w.heap.size w (w.alloc o) := fun o => (Below.refl _ _).alloc (Nat.le_refl _) _
  go_enter Try.func144, Try.ntmps144
  go_wp2_with fail
  refine (szValS_any _ _ _ _ _ h0 h1 hl1).mono ?_
  rintro e w1 ⟨r, rfl, hr, hr0, rfl⟩
  by_cases hlt : r < 0
  · go_wp2
    go_ret
    exact ⟨_, rfl, by omega, fun h => absurd h (by omega), HB _⟩
  have hrn := hr0 (by omega)
  clear hr0
  go_wp2_with fail
  refine (szValS_any _ _ _ _ _ (by omega) hr hl2).mono ?_
  rintro e w2 ⟨q, rfl, hq, hq0, rfl⟩
  by_cases hlt2 : q < 0
  · go_wp2
    go_ret
    exact ⟨_, rfl, by omega, fun h => absurd h (by omega), HB _⟩
  have hqn := hq0 (by omega)
  clear hq0
  go_wp2
  go_ret
  exact ⟨_, rfl, by omega, fun _ => ⟨hrn, hqn⟩, HB _⟩

end Go.Proofs.Ytldiccheboipeaa
