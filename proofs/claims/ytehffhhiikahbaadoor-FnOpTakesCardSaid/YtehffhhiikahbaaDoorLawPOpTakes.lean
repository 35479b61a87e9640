/-
  The law FnOpTakes, walked: whatever bytes come in, it answers true and writes to nothing that was there, where the table opForms lies as its text lays it.
-/
import Derived.Test.YtehffhhiikahbaaDoorDrawAny
import Derived.Test.YtehffhhiikahbaaDoorTakes2
namespace Go.Proofs.YtehffhhiikahbaaDoor
open Go.RowKit

theorem tk_range (k : Int) : 0 ≤ tk k ∧ tk k ≤ 2 := by
  unfold tk
  split
  · omega
  · split <;> omega
theorem lv_range (k : Int) : 0 ≤ lv k ∧ lv k ≤ 1 := by
  unfold lv
  split <;> omega

theorem takesOf_range {ms : List (Int × Int × List (Int × Int))} {k a : Int} (h : ¬ (k = 9 ∧ 0 ≤ a ∧ a < (ms.length : Int))) : 0 ≤ (takesOf ms k a).1 ∧ (takesOf ms k a).1 ≤ 2 ∧ 0 ≤ (takesOf ms k a).2 ∧ (takesOf ms k a).2 ≤ 1 := by
  by_cases h9 : k = 9
  · subst h9
    have : inR a 0 ((ms.length : Int) - 1) = false := by rw [inR_false]; omega
    rw [takesOf_no this]
    decide
  · have : takesOf ms k a = (tk k, lv k) := by simp [takesOf, h9]
    rw [this]
    have h1 := tk_range k
    have h2 := lv_range k
    exact ⟨h1.1, h1.2, h2.1, h2.2⟩

set_option maxRecDepth 100000 in
set_option maxHeartbeats 4000000 in
theorem lawOpTakes_any (w : World) (a : Option Addr) (len cap : Nat) (h : BytesAt w a len cap) (hT : TabAt w) :
    Calls Tryd.prog 3 #[.slice a len cap] w fun e w' => e = .returned (.bool true) ∧ Below w.heap.size w w' := by
  have hc := h.1
  have hm := h.2.1
  unfold maxLen at hm
  have HB : Hid (BytesAt w a len cap) := h
  have HT : Hid (TabAt w) := hT
  clear h hT
  by_cases hl : 1048576 < len
  · have hlz : (1048576 : Int) < (len : Int) := by omega
    go_enter Tryd.func3, Tryd.ntmps3
    go_wp2
    go_ret
    exact ⟨rfl, Below.refl _ _⟩
  have hlz : (len : Int) ≤ 1048576 := by omega
  go_enter Tryd.func3, Tryd.ntmps3
  go_wp2_with fail
  refine (drawOpTakes_any _ a len cap HB.out).mono ?_
  rintro e w1 ⟨v, ms, k, q, rfl, hD1, hB1⟩
  obtain ⟨aV, cV, hvV⟩ := hD1.row.shape
  subst hvV
  have z1 := hB1.size
  clear HB
  go_wp2_with fail
  have hN := ((Below.refl w1.heap.size w1).alloc (Nat.le_refl _) (.cells #[.slice aV ms.length cV] 25)).alloc (by simp) (.cells #[.int .i64 k, .int .i64 q] 27)
  have hD2 := hD1.below hN
  have hB2 := hB1.trans (hN.mono z1)
  have x2 := (pbox_new w1 (.slice aV ms.length cV)).alloc (.cells #[.int .i64 k, .int .i64 q] 27)
  have y2 := obox_new (w1.alloc (.cells #[.slice aV ms.length cV] 25)) k q
  simp only [World.size_alloc] at y2
  generalize (w1.alloc (.cells #[.slice aV ms.length cV] 25)).alloc (.cells #[.int .i64 k, .int .i64 q] 27) = w2 at *
  have c2 := x2.cell (i := 0) (by decide)
  have d2 : w2.cell? ⟨w1.heap.size + 1, 0, none⟩ = some (.int .i64 k) := y2.cell (i := 0) (by decide)
  have e2 : w2.cell? ⟨w1.heap.size + 1, 1, none⟩ = some (.int .i64 q) := y2.cell (i := 1) (by decide)
  have z2 := hB2.size
  clear hD1 hB1 hN x2 y2
  go_wp2_with fail
  refine (specTakes_any _ (plainOf ms) k q _ hD2.meths).mono ?_
  rintro e w3 ⟨rfl, hb3⟩
  have hD3 := hD2.below hb3
  have hB3 := hB2.trans (hb3.mono z2)
  have c3 := cell_below hb3 c2
  have d3 := cell_below hb3 d2
  have e3 := cell_below hb3 e2
  have z3 := hB3.size
  clear hD2 hB2 hb3 c2 d2 e2 z2
  go_wp2_with fail
  refine (implTakes_any _ (plainOf ms) k q _ hD3.meths (HT.out.below hB3)).mono ?_
  rintro e w4 ⟨rfl, hb4⟩
  have hD4 := hD3.below hb4
  have hB4 := hB3.trans (hb4.mono z3)
  have c4 := cell_below hb4 c3
  have d4 := cell_below hb4 d3
  have e4 := cell_below hb4 e3
  have z4 := hB4.size
  clear hD3 hB3 hb4 c3 d3 e3 z3 HT
  by_cases hcall : k = 9 ∧ 0 ≤ q ∧ q < (ms.length : Int)
  · obtain ⟨rfl, hq0, hq1⟩ := hcall
    obtain ⟨i, rfl⟩ := Int.eq_ofNat_of_zero_le hq0
    have hi : i < ms.length := by omega
    have hi' : i < (plainOf ms).length := by simpa [plainOf] using hi
    rw [takesOf_call hi']
    obtain ⟨gV, cV', hvV⟩ := hD4.row.shape1 (by omega)
    cases hvV
    have cc := (hD4.row.row.cell i (by simpa using hi)).1
    rw [PRow.ofMap hi] at cc
    have hpl : (plainOf ms)[i].1 = ms[i].1 := by simp [plainOf]
    rw [hpl]
    simp only [] at cc ⊢
    generalize ms[i].1 = A at *
    go_wp2
    go_ret
    exact ⟨rfl, hB4⟩
  · have HC : Hid (¬ (k = 9 ∧ 0 ≤ q ∧ q < (ms.length : Int))) := hcall
    have hr := takesOf_range (ms := plainOf ms) (k := k) (a := q) (by simpa [plainOf] using hcall)
    clear hcall
    generalize takesOf (plainOf ms) k q = tl at *
    obtain ⟨t, l⟩ := tl
    simp only [] at hr
    obtain ⟨h1, h2, h3, h4⟩ := hr
    go_wp2
    all_goals first
      | (exfalso; exact HC.out ⟨by omega, by omega, by omega⟩)
      | (go_ret; exact ⟨rfl, hB4⟩)

end Go.Proofs.YtehffhhiikahbaaDoor
