/-
  The sizes that the exact laws look at first, of values, calls and heaps: where szHeap answers no number below 0, none of its lists is longer than 1048576; it writes to nothing that was there.
-/
import Derived.Test.YtnffknlgaiehdaaProg
import Derived.Test.YtnffknlgaiehdaaPlain
import Derived.Test.YtnffknlgaiehdaaBase

namespace Go.Proofs.Ytnffknlgaiehdaa
open Go.RowKit
theorem szValS_any (a : Option Addr) (n c : Nat) (left : Int) (w : World) (h0 : 0 ≤ left) (h1 : left ≤ 1048576) (hn : n ≤ maxLen) :
    Calls Try.prog 27 #[.slice a n c, .int .i64 left] w fun e w' => ∃ r : Int, e = .returned (.int .i64 r) ∧ r ≤ 1048576 ∧ (0 ≤ r → n ≤ 1048576) ∧ w' = w := by
  unfold maxLen at hn
  go_enter Try.func27, Try.ntmps27
  by_cases hlt : left - n < 0
  · go_wp2
    go_ret
    exact ⟨_, rfl, by omega, fun h => absurd h (by omega), rfl⟩
  · go_wp2
    go_ret
    exact ⟨_, rfl, by omega, fun _ => by omega, rfl⟩
set_option maxHeartbeats 400000 in
theorem szCall_any (c : Cl) (vt vs : Value) (left : Int) (w : World) (ht : OpsAt w vt c.temps) (hs : OpsAt w vs c.stack) (h0 : 0 ≤ left) (h1 : left ≤ 1048576) :
    Calls Try.prog 49 #[.agg #[.int .i64 c.m, .int .i64 c.pc, vt, vs, .int .i64 c.sender, .bool c.dead], .int .i64 left] w fun e w' => ∃ r : Int, e = .returned (.int .i64 r) ∧ r ≤ 1048576 ∧ (0 ≤ r → c.small) ∧ Below w.heap.size w w' := by
  obtain ⟨a1, k1, rfl, hl1, _⟩ := ht
  obtain ⟨a2, k2, rfl, hl2, _⟩ := hs
  have HB : ∀ o, Below w.heap.size w (w.alloc o) := fun o => (Below.refl _ _).alloc (Nat.le_refl _) _
  go_enter Try.func49, Try.ntmps49
  go_wp2_with fail
  refine (szValS_any _ _ _ _ _ h0 h1 hl1).mono ?_
  rintro e w1 ⟨r, rfl, hr, hr0, rfl⟩
  by_cases hlt : r < 0
  · go_wp2
    go_ret
    exact ⟨_, rfl, by omega, fun h => absurd h (by omega), HB _⟩
  have hrn := hr0 (by omega)
  clear hr0
  go_wp2_with fail
  refine (szValS_any _ _ _ _ _ (by omega) hr hl2).mono ?_
  rintro e w2 ⟨q, rfl, hq, hq0, rfl⟩
  by_cases hlt2 : q < 0
  · go_wp2
    go_ret
    exact ⟨_, rfl, by omega, fun h => absurd h (by omega), HB _⟩
  have hqn := hq0 (by omega)
  clear hq0
  go_wp2
  go_ret
  exact ⟨_, rfl, by omega, fun _ => ⟨hrn, hqn⟩, HB _⟩
set_option maxHeartbeats 1000000 in
theorem szCallS_any (v : Value) (cs : List Cl) (left : Int) (w : World) (h : CallsAt w v cs) (h0 : 0 ≤ left) (h1 : left ≤ 1048576) :
    Calls Try.prog 26 #[v, .int .i64 left] w fun e w' => ∃ r : Int, e = .returned (.int .i64 r) ∧ r ≤ 1048576 ∧ (0 ≤ r → cs.length ≤ 1048576 ∧ ∀ i, (hi : i < cs.length) → cs[i].small) ∧ Below w.heap.size w w' := by
  obtain ⟨a, cap, rfl, hl, hc⟩ := h
  unfold maxLen at hl
  go_enter Try.func26, Try.ntmps26
  by_cases hlt : left - cs.length < 0
  · go_wp2
    go_ret
    exact ⟨_, rfl, by omega, fun h => absurd h (by omega), Below.refl _ _⟩
  · go_wp2
    go_loopg [1, 5] cs.length (fun g l i wr => ∃ (k : Nat) (r : Int), k ≤ cs.length ∧ g = cs.length - k ∧ i = .int .i64 k ∧ l = .int .i64 r ∧ 0 ≤ r ∧ r ≤ 1048576 ∧ Below w.heap.size w wr ∧ ∀ j, (hj : j < cs.length) → j < k → cs[j].small)
    case atStart => exact ⟨0, _, Nat.zero_le _, rfl, rfl, rfl, by omega, by omega, Below.refl _ _, fun j _ h => absurd h (Nat.not_lt_zero _)⟩
    case round =>
      obtain ⟨k, r, hk, rfl, rfl, rfl, hr0, hr1, hb, hall⟩ := hrel
      have H : Hid (∀ j, (hj : j < cs.length) → j < k → cs[j].small) := hall
      clear hall
      by_cases hlk : k < cs.length
      · obtain ⟨b, o, vt, vs, rfl, hcl⟩ := hc k hlk
        have hcr := hcl.below hb
        obtain ⟨d0, d1, d2, d3, d4, d5, dt, ds⟩ := hcr
        obtain ⟨a1, k1, hv1⟩ := dt.shape
        obtain ⟨a2, k2, hv2⟩ := ds.shape
        rw [hv1] at d2 dt
        rw [hv2] at d3 ds
        clear hcl hv1 hv2
        have hkz : (k : Int) < (cs.length : Int) := by omega
        go_wp2_with fail
        refine (szCall_any cs[k] _ _ _ _ dt ds hr0 hr1).mono ?_
        rintro e w1 ⟨q, rfl, hq1, hq0, hb1⟩
        have hb2 : Below w.heap.size w w1 := hb.trans (hb1.mono hb.size)
        have HQ : Hid (0 ≤ q → cs[k].small) := hq0
        clear hb hb1 d0 d1 d2 d3 d4 d5 dt ds hq0
        by_cases hq : q < 0
        · go_wp2
          go_ret
          exact ⟨_, rfl, by omega, fun h => absurd h (by omega), hb2⟩
        · have hqs := HQ.out (by omega)
          have HS : Hid (cs[k].small) := hqs
          clear HQ hqs
          go_wp2
          go_roundg (cs.length - (k + 1))
          case measure => omega
          case rel =>
            refine ⟨k + 1, q, by omega, rfl, by go_num, rfl, by omega, hq1, hb2, fun j hj hjk => ?_⟩
            by_cases e : j = k
            · subst e; exact HS.out
            · exact H.out j hj (by omega)
      · obtain rfl : k = cs.length := by omega
        go_wp2
        go_ret
        exact ⟨_, rfl, by omega, fun _ => ⟨by omega, fun i hi => H.out i hi hi⟩, hb⟩
set_option maxHeartbeats 1000000 in
theorem szHeap_any (h : Hp) (vc vs : Value) (left : Int) (w : World) (hh : HeapAt w vc vs h) (h0 : 0 ≤ left) (h1 : left ≤ 1048576) :
    Calls Try.prog 7 #[.agg (hpCells vc vs h), .int .i64 left] w fun e w' => ∃ r : Int, e = .returned (.int .i64 r) ∧ r ≤ 1048576 ∧ (0 ≤ r → h.small) ∧ Below w.heap.size w w' := by
  unfold hpCells
  obtain ⟨ac, kc, hvc⟩ := hh.c.shape
  obtain ⟨aD, ks, hvs⟩ := hh.s.shape
  subst hvc hvs
  have hsl := hh.s
  obtain ⟨_, _, _, hml, _⟩ := hsl
  have hA := (Below.refl w.heap.size w).alloc (Nat.le_refl _) (.cells #[.slice ac h.calls.length kc, .int .i64 h.now, .int .i64 h.born, .slice aD h.said.length ks, .int .i64 h.code] 28)
  have b3 : (w.alloc (.cells #[.slice ac h.calls.length kc, .int .i64 h.now, .int .i64 h.born, .slice aD h.said.length ks, .int .i64 h.code] 28)).cell? ⟨w.heap.size, 3, none⟩ = some (.slice aD h.said.length ks) := by simp [go_sem]
  go_enter Try.func7, Try.ntmps7
  go_wp2_with fail
  generalize w.alloc (.cells #[.slice ac h.calls.length kc, .int .i64 h.now, .int .i64 h.born, .slice aD h.said.length ks, .int .i64 h.code] 28) = W0 at *
  have zA := hA.size
  refine (szCallS_any _ h.calls _ _ (hh.below hA).c h0 h1).mono ?_
  rintro e w1 ⟨r, rfl, hr, hr0, hb1⟩
  have c3 := cell_below hb1 b3
  have hB1 : Below w.heap.size w w1 := hA.trans (hb1.mono zA)
  have H1 : Hid (0 ≤ r → h.calls.length ≤ 1048576 ∧ ∀ i, (hi : i < h.calls.length) → h.calls[i].small) := hr0
  clear hr0 hb1 b3 hA
  by_cases hlt : r < 0
  · go_wp2
    go_ret
    exact ⟨_, rfl, by omega, fun h => absurd h (by omega), hB1⟩
  go_wp2_with fail
  refine (szValS_any _ _ _ _ _ (by omega) hr hml).mono ?_
  rintro e w2 ⟨q, rfl, hq, hq0, rfl⟩
  have H2 : Hid (0 ≤ q → h.said.length ≤ 1048576) := hq0
  clear hq0
  by_cases hlt2 : q < 0
  · go_wp2
    go_ret
    exact ⟨_, rfl, by omega, fun h => absurd h (by omega), hB1⟩
  go_wp2
  go_ret
  exact ⟨_, rfl, by omega, fun _ => ⟨(H1.out (by omega)).1, (H1.out (by omega)).2, H2.out (by omega)⟩, hB1⟩
end Go.Proofs.Ytnffknlgaiehdaa

/-
  The sizes that the exact laws look at first: where szProg answers no number below 0, neither the methods nor the operations of one are more than 1048576; it writes to nothing that was there.
-/
namespace Go.Proofs.Ytnffknlgaiehdaa
open Go.RowKit
theorem szOpS_any (a : Option Addr) (n c : Nat) (left : Int) (w : World) (h0 : 0 ≤ left) (h1 : left ≤ 1048576) (hn : n ≤ maxLen) :
    Calls Try.prog 76 #[.slice a n c, .int .i64 left] w fun e w' => ∃ r : Int, e = .returned (.int .i64 r) ∧ r ≤ 1048576 ∧ (0 ≤ r → n ≤ 1048576) ∧ w' = w := by
  unfold maxLen at hn
  go_enter Try.func76, Try.ntmps76
  by_cases hlt : left - n < 0
  · go_wp2
    go_ret
    exact ⟨_, rfl, by omega, fun h => absurd h (by omega), rfl⟩
  · go_wp2
    go_ret
    exact ⟨_, rfl, by omega, fun _ => by omega, rfl⟩
set_option maxHeartbeats 400000 in
theorem szMethod_any (x t : Int) (v : Value) (ops : List (Int × Int)) (left : Int) (w : World) (h : OpsAt w v ops) (h0 : 0 ≤ left) (h1 : left ≤ 1048576) :
    Calls Try.prog 48 #[.agg #[.int .i64 x, .int .i64 t, v], .int .i64 left] w fun e w' => ∃ r : Int, e = .returned (.int .i64 r) ∧ r ≤ 1048576 ∧ (0 ≤ r → ops.length ≤ 1048576) ∧ Below w.heap.size w w' := by
  obtain ⟨a, cap, rfl, hl, _⟩ := h
  go_enter Try.func48, Try.ntmps48
  go_wp2_with fail
  refine (szOpS_any _ _ _ _ _ h0 h1 hl).mono ?_
  rintro e w1 ⟨r, rfl, hr, hr0, rfl⟩
  by_cases hlt : r < 0
  · go_wp2
    go_ret
    exact ⟨_, rfl, by omega, fun h => absurd h (by omega), (Below.refl _ _).alloc (Nat.le_refl _) _⟩
  · go_wp2
    go_ret
    exact ⟨_, rfl, by omega, hr0, (Below.refl _ _).alloc (Nat.le_refl _) _⟩
set_option maxHeartbeats 400000 in
theorem szMethodS_any (v : Value) (ms : List (Int × Int × List (Int × Int))) (left : Int) (w : World) (h : MethsAt w v ms) (h0 : 0 ≤ left) (h1 : left ≤ 1048576) :
    Calls Try.prog 25 #[v, .int .i64 left] w fun e w' => ∃ r : Int, e = .returned (.int .i64 r) ∧ r ≤ 1048576 ∧ (0 ≤ r → ms.length ≤ 1048576 ∧ ∀ i, (hi : i < ms.length) → ms[i].2.2.length ≤ 1048576) ∧ Below w.heap.size w w' := by
  obtain ⟨a, cap, rfl, hl, hc⟩ := h
  unfold maxLen at hl
  go_enter Try.func25, Try.ntmps25
  by_cases hlt : left - ms.length < 0
  · go_wp2
    go_ret
    exact ⟨_, rfl, by omega, fun h => absurd h (by omega), Below.refl _ _⟩
  · go_wp2
    go_loopg [1, 5] ms.length (fun g l i wr => ∃ (k : Nat) (r : Int), k ≤ ms.length ∧ g = ms.length - k ∧ i = .int .i64 k ∧ l = .int .i64 r ∧ 0 ≤ r ∧ r ≤ 1048576 ∧ Below w.heap.size w wr ∧ ∀ j, (hj : j < ms.length) → j < k → ms[j].2.2.length ≤ 1048576)
    case atStart => exact ⟨0, _, Nat.zero_le _, rfl, rfl, rfl, by omega, by omega, Below.refl _ _, fun j _ h => absurd h (Nat.not_lt_zero _)⟩
    case round =>
      obtain ⟨k, r, hk, rfl, rfl, rfl, hr0, hr1, hb, hall⟩ := hrel
      by_cases hlk : k < ms.length
      · obtain ⟨b, o, vo, rfl, c0, c1, c2, c3⟩ := hc k hlk
        have d0 := cell_below hb c0
        have d1 := cell_below hb c1
        have d2 := cell_below hb c2
        have d3 := c3.below hb
        clear c0 c1 c2 c3 hc
        have H : Hid (∀ j, (hj : j < ms.length) → j < k → ms[j].2.2.length ≤ 1048576) := hall
        clear hall
        have hkz : (k : Int) < (ms.length : Int) := by omega
        obtain ⟨ad, cap3, hvo, _⟩ := id d3
        rw [hvo] at d2 d3
        go_wp2_with fail
        refine (szMethod_any _ _ _ _ _ _ d3 hr0 hr1).mono ?_
        rintro e w1 ⟨q, rfl, hq1, hq0, hb1⟩
        have hb2 : Below w.heap.size w w1 := hb.trans (hb1.mono hb.size)
        clear hb hb1 d0 d1 d2 d3 hvo
        by_cases hq : q < 0
        · go_wp2
          go_ret
          exact ⟨_, rfl, by omega, fun h => absurd h (by omega), hb2⟩
        · have hq0' := hq0 (by omega)
          clear hq0
          go_wp2
          go_roundg (ms.length - (k + 1))
          case measure => omega
          case rel =>
            refine ⟨k + 1, q, by omega, rfl, by go_num, rfl, by omega, hq1, hb2, fun j hj hjk => ?_⟩
            by_cases e : j = k
            · subst e; exact hq0'
            · exact H.out j hj (by omega)
      · obtain rfl : k = ms.length := by omega
        go_wp2
        go_ret
        exact ⟨_, rfl, by omega, fun _ => ⟨by omega, fun i hi => hall i hi hi⟩, hb⟩
set_option maxHeartbeats 400000 in
theorem szProg_any (v : Value) (ms : List (Int × Int × List (Int × Int))) (left : Int) (w : World) (h : MethsAt w v ms) (h0 : 0 ≤ left) (h1 : left ≤ 1048576) :
    Calls Try.prog 6 #[.agg #[v], .int .i64 left] w fun e w' => ∃ r : Int, e = .returned (.int .i64 r) ∧ r ≤ 1048576 ∧ (0 ≤ r → ms.length ≤ 1048576 ∧ ∀ i, (hi : i < ms.length) → ms[i].2.2.length ≤ 1048576) ∧ Below w.heap.size w w' := by
  obtain ⟨ad, cap, rfl, hl, hc⟩ := h
  have h : MethsAt w (.slice ad ms.length cap) ms := ⟨ad, cap, rfl, hl, hc⟩
  clear hl hc
  go_enter Try.func6, Try.ntmps6
  go_wp2_with fail
  refine (szMethodS_any _ ms _ _ (h.below ?_) h0 h1).mono ?_
  · exact (Below.refl _ _).alloc (Nat.le_refl _) _
  rintro e w1 ⟨r, rfl, hr, hr0, hb1⟩
  have hb2 : Below w.heap.size w w1 := ((Below.refl _ _).alloc (Nat.le_refl _) _).trans (hb1.mono (by simp))
  have H := hr0
  have HH : Hid (0 ≤ r → ms.length ≤ 1048576 ∧ ∀ i, (hi : i < ms.length) → ms[i].2.2.length ≤ 1048576) := hr0
  clear hr0 H h hb1
  by_cases hlt : r < 0
  · go_wp2
    go_ret
    exact ⟨_, rfl, by omega, fun h => absurd h (by omega), hb2⟩
  · go_wp2
    go_ret
    exact ⟨_, rfl, by omega, HH.out, hb2⟩
end Go.Proofs.Ytnffknlgaiehdaa
