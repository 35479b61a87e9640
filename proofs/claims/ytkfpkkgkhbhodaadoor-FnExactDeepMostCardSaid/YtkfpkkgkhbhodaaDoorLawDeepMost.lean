/-
  The law FnExactDeepMost, walked: whatever methods lie behind its first argument, and whatever its second is, it answers true and writes to nothing that was there; where the table opForms lies as its text lays it.
-/
import Derived.Test.YtkfpkkgkhbhodaaDoorCopy
import Derived.Test.YtkfpkkgkhbhodaaDoorSize
import Derived.Test.YtkfpkkgkhbhodaaDoorSame
import Derived.Test.YtkfpkkgkhbhodaaDoorDeepK
namespace Go.Proofs.YtkfpkkgkhbhodaaDoor
open Go.RowKit

set_option maxRecDepth 100000 in
set_option maxHeartbeats 1000000 in
theorem lawDeepMost_any (v : Value) (ms : List (Int × Int × List (Int × Int))) (m : Int) (w : World) (h : MethsAt w v ms) (ht : TabAt w) :
    Calls Tryd.prog 4 #[.agg #[v], .int .i64 m] w fun e w' => e = .returned (.bool true) ∧ Below w.heap.size w w' := by
  obtain ⟨a, cap, hv, _⟩ := id h
  subst hv
  have hA : Below w.heap.size w (w.alloc (.cells #[.slice a ms.length cap] 24)) := (Below.refl _ _).alloc (Nat.le_refl _) _
  have bx : (w.alloc (.cells #[.slice a ms.length cap] 24)).cell? ⟨w.heap.size, 0, none⟩ = some (.slice a ms.length cap) := by simp [go_sem]
  go_enter Tryd.func4, Tryd.ntmps4
  go_wp2_with fail
  generalize w.alloc (.cells #[.slice a ms.length cap] 24) = W0 at *
  have hA0 := hA.size
  refine (szProg_any _ ms _ _ (h.below hA) (by omega) (by omega)).mono ?_
  rintro e w1 ⟨r, rfl, hr1, hr0, hb1⟩
  have B1 : Below w.heap.size w w1 := hA.trans (hb1.mono hA0)
  have bx1 := cell_below hb1 bx
  have HR : Hid (0 ≤ r → ms.length ≤ 1048576 ∧ ∀ i, (hi : i < ms.length) → ms[i].2.2.length ≤ 1048576) := hr0
  clear hr0 hb1 bx hA hA0
  by_cases hr : r < 0
  · go_wp2
    go_ret
    exact ⟨rfl, B1⟩
  obtain ⟨hn, ho⟩ := HR.out (by omega)
  have HN : Hid (ms.length ≤ 1048576 ∧ ∀ i, (hi : i < ms.length) → ms[i].2.2.length ≤ 1048576) := ⟨hn, ho⟩
  clear HR hn ho
  have z1 := B1.size
  go_wp2_with fail
  refine (toProg_any _ ms _ (h.below B1) HN.out.1 HN.out.2).mono ?_
  rintro e w2 ⟨v2, rfl, hm2, hb2⟩
  have M2 := hm2.at
  have B2 : Below w.heap.size w w2 := B1.trans (hb2.mono z1)
  have bx2 := cell_below hb2 bx1
  have z2 := B2.size
  clear hm2 hb2 bx1 B1 z1
  go_wp2_with fail
  refine (specDeepMost_any _ ms _ _ M2).mono ?_
  rintro e w3 ⟨hb3, r3, rfl, hr3⟩
  have HR3 : Hid (MostRes ms m r3) := hr3
  clear hr3
  have B3 : Below w.heap.size w w3 := B2.trans (hb3.mono z2)
  have bx3 := cell_below hb3 bx2
  have z3 := B3.size
  clear hb3 bx2 B2 z2 M2
  go_wp2_with fail
  refine (toProg_any _ ms _ (h.below B3) HN.out.1 HN.out.2).mono ?_
  rintro e w4 ⟨v4, rfl, hm4, hb4⟩
  have M4 := hm4.at
  obtain ⟨g4, l4, c4, hv4, _⟩ := hm4.own
  rw [hv4] at M4 ⊢
  have B4 : Below w.heap.size w w4 := B3.trans (hb4.mono z3)
  have bx4 := cell_below hb4 bx3
  have z4 := B4.size
  clear hm4 hb4 bx3 B3 z3 hv4
  go_wp2_with fail
  have bx5 := cell_below ((Below.refl _ _).alloc (Nat.le_refl _) (.cells #[.slice (some ⟨g4, 0, none⟩) l4 c4] 31)) bx4
  have M5 := M4.below ((Below.refl _ _).alloc (Nat.le_refl _) (.cells #[.slice (some ⟨g4, 0, none⟩) l4 c4] 31))
  have B5 := B4.alloc z4 (.cells #[.slice (some ⟨g4, 0, none⟩) l4 c4] 31)
  have by5 : (w4.alloc (.cells #[.slice (some ⟨g4, 0, none⟩) l4 c4] 31)).cell? ⟨w4.heap.size, 0, none⟩ = some (.slice (some ⟨g4, 0, none⟩) l4 c4) := by simp [go_sem]
  generalize w4.alloc (.cells #[.slice (some ⟨g4, 0, none⟩) l4 c4] 31) = w5 at *
  clear bx4 M4 B4
  have z5 := B5.size
  have B5m : Below w.heap.size w w5 := B5
  refine (implDeepMost_any _ ms _ _ M5 (ht.below B5m)).mono ?_
  rintro e w6 ⟨hb6, r6, rfl, hr6⟩
  obtain rfl : r6 = r3 := hr6.one HR3.out
  clear hr6 HR3 B5m
  have B6 : Below w.heap.size w w6 := B5.trans (hb6.mono z5)
  have bx6 := cell_below hb6 bx5
  have by6 := cell_below hb6 by5
  have M6 := M5.below hb6
  have z6 := B6.size
  clear hb6 bx5 by5 M5 B5 z5
  go_wp2_with fail
  have h6 : MethsAt w6.drew _ ms := (h.below B6).below (Below.refl _ _).drew
  have M6d : MethsAt w6.drew _ ms := M6.below (Below.refl _ _).drew
  go_region_held3 (fun w' => w'.cell? ⟨w.heap.size, 0, none⟩ = some (.slice a ms.length cap) ∧ w'.cell? ⟨w4.heap.size, 0, none⟩ = some (.slice (some ⟨g4, 0, none⟩) l4 c4))
    (first | go_keep | (refine ⟨cell_below hb8 ?_, cell_below hb8 ?_⟩ <;> assumption) | (refine ⟨cell_below hb7 ?_, cell_below hb7 ?_⟩ <;> assumption))
    ((first | (go_at_call 8; refine (toProg_any _ ms _ h6 HN.out.1 HN.out.2).mono ?_; rintro e w7 ⟨v7, rfl, hm7, hb7⟩) | (go_at_call 11; refine (eqProg_same _ _ ms _ (M6d.below hb7) hm7.at).mono ?_; rintro e w8 ⟨rfl, hb8'⟩; have hb8 := hb7.trans (hb8'.mono hb7.size))))
  have B8 : Below w.heap.size w w8 := B6.drew.trans (hb8.mono z6)
  clear hb8 hb8' hb7 hm7 M6d h6 M6 bx6 by6 B6 z6
  go_wp2
  go_ret
  exact ⟨rfl, B8⟩

end Go.Proofs.YtkfpkkgkhbhodaaDoor
