/-
  The law FnExactProgText, walked: whatever methods lie behind its argument, it answers true and writes to nothing that was there; where the table opForms lies as its text lays it.
-/
import Derived.Test.YtohpoknfmlajgaaDoorCopy
import Derived.Test.YtohpoknfmlajgaaDoorSize
import Derived.Test.YtohpoknfmlajgaaDoorSame
import Derived.Test.YtohpoknfmlajgaaDoorTextSpec2
import Derived.Test.YtohpoknfmlajgaaDoorTextImpl3
namespace Go.Proofs.YtohpoknfmlajgaaDoor
open Go.RowKit

set_option maxRecDepth 100000 in
set_option maxHeartbeats 1000000 in
theorem lawText_any (v : Value) (ms : List (Int × Int × List (Int × Int))) (w : World) (h : MethsAt w v ms) (ht : TabW w) :
    Calls Tryd.prog 6 #[.agg #[v]] w fun e w' => e = .returned (.bool true) ∧ Below w.heap.size w w' := by
  obtain ⟨a, cap, hv, _⟩ := id h
  subst hv
  have HT : Hid (TabW w) := ht
  clear ht
  have hA : Below w.heap.size w (w.alloc (.cells #[.slice a ms.length cap] 37)) := (Below.refl _ _).alloc (Nat.le_refl _) _
  have bx : (w.alloc (.cells #[.slice a ms.length cap] 37)).cell? ⟨w.heap.size, 0, none⟩ = some (.slice a ms.length cap) := by simp [go_sem]
  go_enter Tryd.func6, Tryd.ntmps6
  go_wp2_with fail
  generalize w.alloc (.cells #[.slice a ms.length cap] 37) = W0 at *
  have hA0 := hA.size
  refine (szProg_any _ ms _ _ (h.below hA) (by omega) (by omega)).mono ?_
  rintro e w1 ⟨r, rfl, hr1, hr0, hb1⟩
  have B1 : Below w.heap.size w w1 := hA.trans (hb1.mono hA0)
  have bx1 := cell_below hb1 bx
  have HR : Hid (0 ≤ r → ms.length ≤ 1048576 ∧ ∀ i, (hi : i < ms.length) → ms[i].2.2.length ≤ 1048576) := hr0
  clear hr0 hb1 bx hA hA0
  by_cases hr : r < 0
  · go_wp2
    go_ret
    exact ⟨rfl, B1⟩
  obtain ⟨hn, ho⟩ := HR.out (by omega)
  have HN : Hid (ms.length ≤ 1048576 ∧ ∀ i, (hi : i < ms.length) → ms[i].2.2.length ≤ 1048576) := ⟨hn, ho⟩
  clear HR hn ho
  have z1 := B1.size
  go_wp2_with fail
  refine (toProg_any _ ms _ (h.below B1) HN.out.1 HN.out.2).mono ?_
  rintro e w2 ⟨v2, rfl, hm2, hb2⟩
  have M2 := hm2.at
  have B2 : Below w.heap.size w w2 := B1.trans (hb2.mono z1)
  have bx2 := cell_below hb2 bx1
  have z2 := B2.size
  clear hm2 hb2 bx1 B1 z1
  go_wp2_with fail
  refine (specProgText_any _ ms _ M2).mono ?_
  rintro e w3 ⟨rfl, hb3⟩
  have B3 : Below w.heap.size w w3 := B2.trans (hb3.mono z2)
  have bx3 := cell_below hb3 bx2
  have z3 := B3.size
  clear hb3 bx2 B2 z2 M2
  go_wp2_with fail
  refine (toProg_any _ ms _ (h.below B3) HN.out.1 HN.out.2).mono ?_
  rintro e w4 ⟨v4, rfl, hm4, hb4⟩
  have M4 := hm4.at
  obtain ⟨g4, l4, c4, hv4, _⟩ := hm4.own
  rw [hv4] at M4 ⊢
  have B4 : Below w.heap.size w w4 := B3.trans (hb4.mono z3)
  have bx4 := cell_below hb4 bx3
  have z4 := B4.size
  clear hm4 hb4 bx3 B3 z3 hv4
  go_wp2_with fail
  have bx5 := cell_below ((Below.refl _ _).alloc (Nat.le_refl _) (.cells #[.slice (some ⟨g4, 0, none⟩) l4 c4] 25)) bx4
  have M5 := M4.below ((Below.refl _ _).alloc (Nat.le_refl _) (.cells #[.slice (some ⟨g4, 0, none⟩) l4 c4] 25))
  have B5 := B4.alloc z4 (.cells #[.slice (some ⟨g4, 0, none⟩) l4 c4] 25)
  have by5 : (w4.alloc (.cells #[.slice (some ⟨g4, 0, none⟩) l4 c4] 25)).cell? ⟨w4.heap.size, 0, none⟩ = some (.slice (some ⟨g4, 0, none⟩) l4 c4) := by simp [go_sem]
  generalize w4.alloc (.cells #[.slice (some ⟨g4, 0, none⟩) l4 c4] 25) = w5 at *
  clear bx4 M4 B4
  have z5 := B5.size
  refine (implProgText_any _ ms _ M5 (HT.out.below B5)).mono ?_
  rintro e w6 ⟨rfl, hb6⟩
  have B6 : Below w.heap.size w w6 := B5.trans (hb6.mono z5)
  have bx6 := cell_below hb6 bx5
  have by6 := cell_below hb6 by5
  have M6 := M5.below hb6
  have z6 := B6.size
  clear hb6 bx5 by5 M5 B5 z5
  generalize bs (textProg ms) = TX
  go_wp2_with fail
  have h6 : MethsAt w6.drew _ ms := (h.below B6).below (Below.refl _ _).drew
  have M6d : MethsAt w6.drew _ ms := M6.below (Below.refl _ _).drew
  go_region_held3 (fun w' => w'.cell? ⟨w.heap.size, 0, none⟩ = some (.slice a ms.length cap) ∧ w'.cell? ⟨w4.heap.size, 0, none⟩ = some (.slice (some ⟨g4, 0, none⟩) l4 c4))
    (first | go_keep | (refine ⟨cell_below hb8 ?_, cell_below hb8 ?_⟩ <;> assumption) | (refine ⟨cell_below hb7 ?_, cell_below hb7 ?_⟩ <;> assumption))
    ((first | (go_at_call 17; refine (toProg_any _ ms _ h6 HN.out.1 HN.out.2).mono ?_; rintro e w7 ⟨v7, rfl, hm7, hb7⟩) | (go_at_call 18; refine (eqProg_same _ _ ms _ (M6d.below hb7) hm7.at).mono ?_; rintro e w8 ⟨rfl, hb8'⟩; have hb8 := hb7.trans (hb8'.mono hb7.size))))
  have B8 : Below w.heap.size w w8 := B6.drew.trans (hb8.mono z6)
  clear hb8 hb8' hb7 hm7 M6d h6 M6 bx6 by6 B6 z6
  go_wp2
  go_ret
  exact ⟨rfl, B8⟩

end Go.Proofs.YtohpoknfmlajgaaDoor
