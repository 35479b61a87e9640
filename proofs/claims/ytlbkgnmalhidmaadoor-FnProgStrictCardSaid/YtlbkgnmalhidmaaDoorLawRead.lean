/-
  The law FnExactProgRead, walked: whatever text is handed in, it answers true and writes to nothing that was there; where the table opForms lies as its text lays it.
-/
import Derived.Test.YtlbkgnmalhidmaaDoorSRead5
import Derived.Test.YtlbkgnmalhidmaaDoorMarkP3
import Derived.Test.YtlbkgnmalhidmaaDoorTextInj
import Derived.Test.YtlbkgnmalhidmaaDoorSame
namespace Go.Proofs.YtlbkgnmalhidmaaDoor
open Go.RowKit

/-- what ProgRead says, of either side -/
structure Saw (T : ByteArray) (b : Bool) (ms : List MM) : Prop where
  few : ms.length ≤ 4
  ops : ∀ m ∈ ms, m.2.2.2.length ≤ 14
  yes : b = true → progOk (plainOf ms) = true ∧ textProg (plainOf ms) = T.toList
  no : b = false → plainOf ms = [] ∧ ∀ ps, progOk ps = true → textProg ps ≠ T.toList

theorem ReadSaid.saw {B : Nat} {w : World} {T : ByteArray} {u : Value} {b : Bool} (h : ReadSaid B w T u b) : ∃ ms, PRow B w u ms ∧ Saw T b ms := by
  cases b
  · obtain ⟨e, h2⟩ := h.2 rfl
    subst e
    exact ⟨[], PRow.nil _ _, by simp, by simp, (fun h => by cases h), fun _ => ⟨rfl, h2⟩⟩
  · obtain ⟨ms, h1, h2, h3, h4, h5⟩ := h.1 rfl
    exact ⟨ms, h1, h2, h3, fun _ => ⟨h4, h5⟩, fun h => by cases h⟩

theorem Saw.same {T : ByteArray} {b b' : Bool} {ms ms' : List MM} (h : Saw T b ms) (h' : Saw T b' ms') : b' = b ∧ plainOf ms' = plainOf ms := by
  cases b <;> cases b'
  · exact ⟨rfl, by rw [(h.no rfl).1, (h'.no rfl).1]⟩
  · exact absurd (h'.yes rfl).2 ((h.no rfl).2 _ (h'.yes rfl).1)
  · exact absurd (h.yes rfl).2 ((h'.no rfl).2 _ (h.yes rfl).1)
  · exact ⟨rfl, textProg_inj (h'.yes rfl).1 (h.yes rfl).1 (by rw [(h.yes rfl).2, (h'.yes rfl).2])⟩

theorem Saw.meths {T : ByteArray} {b : Bool} {ms : List MM} (h : Saw T b ms) {B : Nat} {w : World} {u : Value} (hp : PRow B w u ms) : MethsAt w u (plainOf ms) :=
  hp.meths (by have := h.few; unfold maxLen; omega) (fun m hm => by have := h.ops m hm; unfold maxLen; omega)

theorem Saw.small {T : ByteArray} {b : Bool} {ms : List MM} (h : Saw T b ms) : ms.length ≤ 1000 ∧ ∀ m ∈ ms, m.2.2.2.length ≤ 1000 :=
  ⟨by have := h.few; omega, fun m hm => by have := h.ops m hm; omega⟩

set_option maxRecDepth 100000 in
set_option maxHeartbeats 4000000 in
theorem lawRead_any (T : ByteArray) (w : World) (ht : TabW w) :
    Calls Tryd.prog 4 #[.string T] w fun e w' => e = .returned (.bool true) ∧ Below w.heap.size w w' := by
  have HT : Hid (TabW w) := ht
  clear ht
  by_cases h1 : (1048576 : Int) < (T.size : Int)
  · go_enter Tryd.func4, Tryd.ntmps4
    go_wp2
    go_ret
    exact ⟨rfl, Below.refl _ _⟩
  go_enter Tryd.func4, Tryd.ntmps4
  go_wp2_with fail
  refine (specProgRead_any T (by omega) w).mono ?_
  rintro e w1 ⟨B1, u0, b0, rfl, hs0⟩
  obtain ⟨ms0, P0, hw0⟩ := hs0.saw
  have HS0 : Hid (Saw T b0 ms0) := hw0
  obtain ⟨a0, c0, hv0⟩ := P0.shape
  subst hv0
  have M0 := hw0.meths P0
  clear hs0 hw0 P0
  have z1 := B1.size
  have A1 := (Below.refl w1.heap.size w1).alloc (Nat.le_refl _) (.cells #[.slice a0 ms0.length c0] 26)
  have x1 := pbox_new w1 (.slice a0 ms0.length c0)
  have M1 := M0.below A1
  have B2 := B1.trans (A1.mono z1)
  clear M0 B1 A1
  go_wp2_with fail
  generalize w1.alloc (.cells #[.slice a0 ms0.length c0] 26) = W1 at *
  have z2 := B2.size
  refine (progRead_any T W1 (HT.out.below B2)).mono ?_
  rintro e w3 ⟨L3, u1, b1, rfl, hs1⟩
  obtain ⟨ms1, P1, hw1⟩ := hs1.saw
  have HS1 : Hid (Saw T b1 ms1) := hw1
  obtain ⟨rfl, hpl⟩ := HS0.out.same hw1
  have HPL : Hid (plainOf ms1 = plainOf ms0) := hpl
  obtain ⟨a1, c1, hv1⟩ := P1.shape
  subst hv1
  clear hs1 hw1 hpl
  have z3 := L3.size
  have A3 := (Below.refl w3.heap.size w3).alloc (Nat.le_refl _) (.cells #[.slice a1 ms1.length c1] 26)
  have y3 := pbox_new w3 (.slice a1 ms1.length c1)
  have P3 := P1.below A3
  have L4 := L3.trans (A3.mono z3)
  clear P1 L3 A3
  have x4 := row_below L4 x1
  have M4 := M1.below L4
  have N4 := HS1.out.meths P3
  rw [HPL.out] at N4
  have p4 := x4.cell (i := 0) (by decide)
  have q4 := y3.cell (i := 0) (by decide)
  go_wp2_with fail
  generalize w3.alloc (.cells #[.slice a1 ms1.length c1] 26) = W3 at *
  refine (eqProg_same _ _ (plainOf ms0) _ N4 M4).mono ?_
  rintro e w5 ⟨rfl, b5⟩
  have z4 := L4.size
  have L5 := L4.trans (b5.mono z4)
  have y5 := row_below b5 y3
  have P5 := P3.below b5
  have z5 := L5.size
  clear b5 y3 P3 N4 M4 L4 x4 p4 q4
  have hbb : (b1 != b1) = false := by simp
  have q5 := y5.cell (i := 0) (by decide)
  have HSm : Hid (ms1.length ≤ 1000 ∧ ∀ m ∈ ms1, m.2.2.2.length ≤ 1000) := HS1.out.small
  have hE := (mAt_le 1 ms1 HSm.out.2 ms1.length (Nat.le_refl _)).1
  have hEn : ¬ mAt 1 ms1 ms1.length < 0 := by omega
  go_wp2_with fail
  refine (markProg_row W1.heap.size _ ms1 1 w5 z5 P5 HSm.out.1 HSm.out.2 (by omega) (by omega)).mono ?_
  rintro e w6 ⟨rfl, P6, b6, hr6⟩
  have y6 := hr6 _ _ y5
  have L6 := L5.trans b6
  have z6 := L6.size
  have q6 := y6.cell (i := 0) (by decide)
  clear hr6 b6 P5 L5 y5 q5
  have HP6 : Hid (PRow W1.heap.size w6 (.slice a1 ms1.length c1) (markTo 1 ms1 ms1.length)) := P6
  clear P6
  go_wp2_with fail
  refine (heldProg_row W1.heap.size _ ms1 1 w6 HP6.out HSm.out.1 HSm.out.2 (by omega) (by omega)).mono ?_
  rintro e w7 ⟨rfl, b7⟩
  have HP7 : Hid (PRow W1.heap.size w7 (.slice a1 ms1.length c1) (markTo 1 ms1 ms1.length)) := HP6.out.below b7
  have L7 := L6.trans (b7.mono z6)
  have y7 := row_below b7 y6
  have B7 := B2.trans (L7.mono z2)
  have z7 := L7.size
  clear b7 y6 q6 L6 HP6
  generalize hEq : mAt 1 ms1 ms1.length = E at *
  have HEq : Hid (mAt 1 ms1 ms1.length = E) := hEq
  clear hEq
  go_wp2_with fail
  refine (progRead_any T w7 (HT.out.below B7)).mono ?_
  rintro e w8 ⟨b8, u2, b2, rfl, hs2⟩
  obtain ⟨ms2, P8, hw2⟩ := hs2.saw
  obtain ⟨rfl, hpl2⟩ := HS0.out.same hw2
  have N8 := hw2.meths P8
  rw [hpl2] at N8
  obtain ⟨a2, c2, hv2⟩ := P8.shape
  subst hv2
  generalize ms2.length = n2 at *
  have L8 := L7.trans (b8.mono z7)
  have y8 := row_below b8 y7
  have HP8 : Hid (PRow W1.heap.size w8 (.slice a1 ms1.length c1) (markTo 1 ms1 ms1.length)) := HP7.out.below b8
  have z8 := L8.size
  clear hs2 hw2 hpl2 P8 b8 L7 y7 B7 HP7
  have A8 := (Below.refl w8.heap.size w8).alloc (Nat.le_refl _) (.cells #[.slice a2 n2 c2] 26)
  have v9 := pbox_new w8 (.slice a2 n2 c2)
  have N9 := N8.below A8
  have L9 := L8.trans (A8.mono z8)
  have y9 := row_below A8 y8
  have x9 := row_below L9 x1
  have M9 := M1.below L9
  have HP9 : Hid (PRow W1.heap.size (w8.alloc (.cells #[.slice a2 n2 c2] 26)) (.slice a1 ms1.length c1) (markTo 1 ms1 ms1.length)) := HP8.out.below A8
  have p9 := x9.cell (i := 0) (by decide)
  have q9 := v9.cell (i := 0) (by decide)
  clear A8 N8 L8 y8 HP8
  go_wp2_with fail
  generalize w8.alloc (.cells #[.slice a2 n2 c2] 26) = W8 at *
  have z9 := L9.size
  refine (eqProg_same _ _ (plainOf ms0) _ N9 M9).mono ?_
  rintro e wA ⟨rfl, bA⟩
  have LA := L9.trans (bA.mono z9)
  have yA := row_below bA y9
  have HPA : Hid (PRow W1.heap.size wA (.slice a1 ms1.length c1) (markTo 1 ms1 ms1.length)) := HP9.out.below bA
  have qA := yA.cell (i := 0) (by decide)
  have zA := LA.size
  clear bA y9 L9 HP9 M9 N9 x9 p9 q9 v9
  have BA := B2.trans (LA.mono z2)
  go_wp2_with fail
  refine (heldProg_row W1.heap.size _ ms1 1 wA HPA.out HSm.out.1 HSm.out.2 (by omega) (by omega)).mono ?_
  rintro e wB ⟨rfl, bB⟩
  rw [HEq.out]
  have BB := BA.trans (bB.mono (by omega))
  clear bB BA LA yA HPA qA
  go_wp2
  go_ret
  exact ⟨rfl, BB⟩

end Go.Proofs.YtlbkgnmalhidmaaDoor
