/-
  The sizes that the exact laws look at first: where szProg answers no number below 0, neither the methods nor the operations of one are more than 1048576; it writes to nothing that was there.
-/
import Derived.Test.YtldiccheboipeaaProg
import Derived.Test.YtldiccheboipeaaBase
namespace Go.Proofs.Ytldiccheboipeaa
open Go.RowKit

theorem szOpS_any (a : Option Addr) (n c : Nat) (left : Int) (w : World) (h0 : 0 ≤ left) (h1 : left ≤ 1048576) (hn : n ≤ maxLen) :
    Calls Try.prog 138 #[.slice a n c, .int .i64 left] w fun e w' => ∃ r : Int, e = .returned (.int .i64 r) ∧ r ≤ 1048576 ∧ (0 ≤ r → n ≤ 1048576) ∧ w' = w := by
  unfold maxLen at hn
  go_enter Try.func138, Try.ntmps138
  by_cases hlt : left - n < 0
  · go_wp2
    go_ret
    exact ⟨_, rfl, by omega, fun h => absurd h (by omega), rfl⟩
  · go_wp2
    go_ret
    exact ⟨_, rfl, by omega, fun _ => by omega, rfl⟩

set_option maxHeartbeats 400000 in
theorem szMethod_any (x t : Int) (v : Value) (ops : List (Int × Int)) (left : Int) (w : World) (h : OpsAt w v ops) (h0 : 0 ≤ left) (h1 : left ≤ 1048576) :
    Calls Try.prog 108 #[.agg #[.int .i64 x, .int .i64 t, v], .int .i64 left] w fun e w' => ∃ r : Int, e = .returned (.int .i64 r) ∧ r ≤ 1048576 ∧ (0 ≤ r → ops.length ≤ 1048576) ∧ Below w.heap.size w w' := by
  obtain ⟨a, cap, rfl, hl, _⟩ := h
  go_enter Try.func108, Try.ntmps108
  go_wp2_with fail
  refine (szOpS_any _ _ _ _ _ h0 h1 hl).mono ?_
  rintro e w1 ⟨r, rfl, hr, hr0, rfl⟩
  by_cases hlt : r < 0
  · go_wp2
    go_ret
    exact ⟨_, rfl, by omega, fun h => absurd h (by omega), (Below.refl _ _).alloc (Nat.le_refl _) _⟩
  · go_wp2
    go_ret
    exact ⟨_, rfl, by omega, hr0, (Below.refl _ _).alloc (Nat.le_refl _) _⟩

set_option maxHeartbeats 400000 in
theorem szMethodS_any (v : Value) (ms : List (Int × Int × List (Int × Int))) (left : Int) (w : World) (h : MethsAt w v ms) (h0 : 0 ≤ left) (h1 : left ≤ 1048576) :
    Calls Try.prog 58 #[v, .int .i64 left] w fun e w' => ∃ r : Int, e = .returned (.int .i64 r) ∧ r ≤ 1048576 ∧ (0 ≤ r → ms.length ≤ 1048576 ∧ ∀ i, (hi : i < ms.length) → ms[i].2.2.length ≤ 1048576) ∧ Below w.heap.size w w' := by
  obtain ⟨a, cap, rfl, hl, hc⟩ := h
  unfold maxLen at hl
  go_enter Try.func58, Try.ntmps58
  by_cases hlt : left - ms.length < 0
  · go_wp2
    go_ret
    exact ⟨_, rfl, by omega, fun h => absurd h (by omega), Below.refl _ _⟩
  · go_wp2
    go_loopg [1, 5] ms.length (fun g l i wr => ∃ (k : Nat) (r : Int), k ≤ ms.length ∧ g = ms.length - k ∧ i = .int .i64 k ∧ l = .int .i64 r ∧ 0 ≤ r ∧ r ≤ 1048576 ∧ Below w.heap.size w wr ∧ ∀ j, (hj : j < ms.length) → j < k → ms[j].2.2.length ≤ 1048576)
    case atStart => exact ⟨0, _, Nat.zero_le _, rfl, rfl, rfl, by omega, by omega, Below.refl _ _, fun j _ h => absurd h (Nat.not_lt_zero _)⟩
    case round =>
      obtain ⟨k, r, hk, rfl, rfl, rfl, hr0, hr1, hb, hall⟩ := hrel
      by_cases hlk : k < ms.length
      · obtain ⟨b, o, vo, rfl, c0, c1, c2, c3⟩ := hc k hlk
        have d0 := cell_below hb c0
        have d1 := cell_below hb c1
        have d2 := cell_below hb c2
        have d3 := c3.below hb
        clear c0 c1 c2 c3 hc
        have H : Hid (∀ j, (hj : j < ms.length) → j < k → ms[j].2.2.length ≤ 1048576) := hall
        clear hall
        have hkz : (k : Int) < (ms.length : Int) := by omega
        obtain ⟨ad, cap3, hvo, _⟩ := id d3
        rw [hvo] at d2 d3
        go_wp2_with fail
        refine (szMethod_any _ _ _ _ _ _ d3 hr0 hr1).mono ?_
        rintro e w1 ⟨q, rfl, hq1, hq0, hb1⟩
        have hb2 : Below w.heap.size w w1 := hb.trans (hb1.mono hb.size)
        clear hb hb1 d0 d1 d2 d3 hvo
        by_cases hq : q < 0
        · go_wp2
          go_ret
          exact ⟨_, rfl, by omega, fun h => absurd h (by omega), hb2⟩
        · have hq0' := hq0 (by omega)
          clear hq0
          go_wp2
          go_roundg (ms.length - (k + 1))
          case measure => omega
          case rel =>
            refine ⟨k + 1, q, by omega, rfl, by go_num, rfl, by omega, hq1, hb2, fun j hj hjk => ?_⟩
            by_cases e : j = k
            · subst e; exact hq0'
            · exact H.out j hj (by omega)
      · obtain rfl : k = ms.length := by omega
        go_wp2
        go_ret
        exact ⟨_, rfl, by omega, fun _ => ⟨by omega, fun i hi => hall i hi hi⟩, hb⟩

set_option maxHeartbeats 400000 in
theorem szProg_any (v : Value) (ms : List (Int × Int × List (Int × Int))) (left : Int) (w : World) (h : MethsAt w v ms) (h0 : 0 ≤ left) (h1 : left ≤ 1048576) :
    Calls Try.prog 20 #[.agg #[v], .int .i64 left] w fun e w' => ∃ r : Int, e = .returned (.int .i64 r) ∧ r ≤ 1048576 ∧ (0 ≤ r → ms.length ≤ 1048576 ∧ ∀ i, (hi : i < ms.length) → ms[i].2.2.length ≤ 1048576) ∧ Below w.heap.size w w' := by
  obtain ⟨ad, cap, rfl, hl, hc⟩ := h
  have h : MethsAt w (.slice ad ms.length cap) ms := ⟨ad, cap, rfl, hl, hc⟩
  clear hl hc
  go_enter Try.func20, Try.ntmps20
  go_wp2_with fail
  refine (szMethodS_any _ ms _ _ (h.below ?_) h0 h1).mono ?_
  · exact (Below.refl _ _).alloc (Nat.le_refl _) _
  rintro e w1 ⟨r, rfl, hr, hr0, hb1⟩
  have hb2 : Below w.heap.size w w1 := ((Below.refl _ _).alloc (Nat.le_refl _) _).trans (hb1.mono (by simp))
  have H := hr0
  have HH : Hid (0 ≤ r → ms.length ≤ 1048576 ∧ ∀ i, (hi : i < ms.length) → ms[i].2.2.length ≤ 1048576) := hr0
  clear hr0 H h hb1
  by_cases hlt : r < 0
  · go_wp2
    go_ret
    exact ⟨_, rfl, by omega, fun h => absurd h (by omega), hb2⟩
  · go_wp2
    go_ret
    exact ⟨_, rfl, by omega, HH.out, hb2⟩

end Go.Proofs.Ytldiccheboipeaa
