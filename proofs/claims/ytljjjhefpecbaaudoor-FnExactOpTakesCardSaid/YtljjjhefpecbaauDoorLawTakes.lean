/-
  The law FnExactOpTakes, walked: whatever methods lie behind its first argument, and whatever its second is, it answers true and writes to nothing that was there; where the table opForms lies as its text lays it.
-/
import Derived.Test.YtljjjhefpecbaauDoorCopy
import Derived.Test.YtljjjhefpecbaauDoorSize
import Derived.Test.YtljjjhefpecbaauDoorSame
import Derived.Test.YtljjjhefpecbaauDoorTakes
namespace Go.Proofs.YtljjjhefpecbaauDoor
open Go.RowKit

set_option maxRecDepth 100000 in
set_option maxHeartbeats 2000000 in
theorem lawTakes_any (v : Value) (ms : List (Int × Int × List (Int × Int))) (k a : Int) (w : World) (h : MethsAt w v ms) (ht : TabAt w) :
    Calls Tryd.prog 4 #[.agg #[v], .agg #[.int .i64 k, .int .i64 a]] w fun e w' => e = .returned (.bool true) ∧ Below w.heap.size w w' := by
  obtain ⟨ad, cap, hv, _⟩ := id h
  subst hv
  have hA : Below w.heap.size w ((w.alloc (.cells #[.slice ad ms.length cap] 32)).alloc (.cells #[.int .i64 k, .int .i64 a] 34)) := ((Below.refl _ _).alloc (Nat.le_refl _) _).alloc (by simp) _
  have bx : ((w.alloc (.cells #[.slice ad ms.length cap] 32)).alloc (.cells #[.int .i64 k, .int .i64 a] 34)).cell? ⟨w.heap.size, 0, none⟩ = some (.slice ad ms.length cap) := by simp [go_sem]
  have bk : ((w.alloc (.cells #[.slice ad ms.length cap] 32)).alloc (.cells #[.int .i64 k, .int .i64 a] 34)).cell? ⟨w.heap.size + 1, 0, none⟩ = some (.int .i64 k) := by simp [go_sem]
  have ba : ((w.alloc (.cells #[.slice ad ms.length cap] 32)).alloc (.cells #[.int .i64 k, .int .i64 a] 34)).cell? ⟨w.heap.size + 1, 1, none⟩ = some (.int .i64 a) := by simp [go_sem]
  go_enter Tryd.func4, Tryd.ntmps4
  go_wp2_with fail
  generalize (w.alloc (.cells #[.slice ad ms.length cap] 32)).alloc (.cells #[.int .i64 k, .int .i64 a] 34) = W0 at *
  have hA0 := hA.size
  refine (szProg_any _ ms _ _ (h.below hA) (by omega) (by omega)).mono ?_
  rintro e w1 ⟨r, rfl, hr1, hr0, hb1⟩
  have B1 : Below w.heap.size w w1 := hA.trans (hb1.mono hA0)
  have bx1 := cell_below hb1 bx
  have bk1 := cell_below hb1 bk
  have ba1 := cell_below hb1 ba
  have HR : Hid (0 ≤ r → ms.length ≤ 1048576 ∧ ∀ i, (hi : i < ms.length) → ms[i].2.2.length ≤ 1048576) := hr0
  clear hr0 hb1 bx bk ba hA hA0
  by_cases hr : r < 0
  · go_wp2
    go_ret
    exact ⟨rfl, B1⟩
  obtain ⟨hn, ho⟩ := HR.out (by omega)
  have HN : Hid (ms.length ≤ 1048576 ∧ ∀ i, (hi : i < ms.length) → ms[i].2.2.length ≤ 1048576) := ⟨hn, ho⟩
  clear HR hn ho
  have z1 := B1.size
  have h1 : MethsAt w1.drew _ ms := (h.below B1).below (Below.refl _ _).drew
  go_wp2_with fail
  go_region_held3 (fun w' => w'.cell? ⟨w.heap.size, 0, none⟩ = some (.slice ad ms.length cap) ∧ w'.cell? ⟨w.heap.size + 1, 0, none⟩ = some (.int .i64 k) ∧ w'.cell? ⟨w.heap.size + 1, 1, none⟩ = some (.int .i64 a))
    (first | go_keep | (refine ⟨cell_below hR ?_, cell_below hR ?_, cell_below hR ?_⟩ <;> assumption))
    ((first
      | (go_at_call 12; refine (toProg_any _ ms _ (by first | exact h1.below hR | exact h1) HN.out.1 HN.out.2).mono ?_; rintro e wP ⟨vP, rfl, hmP, hbP⟩; first | (have hR := hR.trans (hbP.mono hR.size)) | (have hR := hbP))
      | (go_at_call 13; refine (toOp_any _ _ _).mono ?_; rintro e wO ⟨rfl, hbO⟩; first | (have hR := hR.trans (hbO.mono hR.size)) | (have hR := hbO))
      | (go_at_call 11; refine (specTakes_any _ ms _ _ _ (by first | exact hmP.at.below hbO | exact hmP.at)).mono ?_; rintro e w3 ⟨rfl, hb3⟩; have hR := hR.trans (hb3.mono hR.size))))
  all_goals
    have B3 : Below w.heap.size w w3 := B1.drew.trans (hR.mono z1)
    have bx3 := cell_below hR bx1
    have bk3 := cell_below hR bk1
    have ba3 := cell_below hR ba1
    have z3 := B3.size
    clear hb3 hR hbO hbP hmP h1 bx1 bk1 ba1 B1 z1
    go_wp2_with fail
    refine (toProg_any _ ms _ (h.below B3) HN.out.1 HN.out.2).mono ?_
    rintro e w4 ⟨v4, rfl, hm4, hb4⟩
    have M4 := hm4.at
    obtain ⟨g4, l4, c4, hv4, _⟩ := hm4.own
    rw [hv4] at M4 ⊢
    have B4 : Below w.heap.size w w4 := B3.trans (hb4.mono z3)
    have bx4 := cell_below hb4 bx3
    have bk4 := cell_below hb4 bk3
    have ba4 := cell_below hb4 ba3
    have z4 := B4.size
    clear hm4 hb4 bx3 bk3 ba3 B3 z3 hv4
    go_wp2_with fail
    have hN := (Below.refl w4.heap.size w4).alloc (Nat.le_refl _) (.cells #[.slice (some ⟨g4, 0, none⟩) l4 c4] 24)
    have bx5 := cell_below hN bx4
    have bk5 := cell_below hN bk4
    have ba5 := cell_below hN ba4
    have M5 := M4.below hN
    have B5 := B4.alloc z4 (.cells #[.slice (some ⟨g4, 0, none⟩) l4 c4] 24)
    have by5 : (w4.alloc (.cells #[.slice (some ⟨g4, 0, none⟩) l4 c4] 24)).cell? ⟨w4.heap.size, 0, none⟩ = some (.slice (some ⟨g4, 0, none⟩) l4 c4) := by simp [go_sem]
    clear hN
    generalize w4.alloc (.cells #[.slice (some ⟨g4, 0, none⟩) l4 c4] 24) = w5 at *
    clear bx4 bk4 ba4 M4 B4
    have z5 := B5.size
    have t5 := (ht.below B5).below (Below.refl _ _).drew
    have M5d := M5.below (Below.refl _ _).drew
    go_region_held3 (fun w' => w'.cell? ⟨w.heap.size + 1, 0, none⟩ = some (.int .i64 k) ∧ w'.cell? ⟨w.heap.size + 1, 1, none⟩ = some (.int .i64 a) ∧ w'.cell? ⟨w4.heap.size, 0, none⟩ = some (.slice (some ⟨g4, 0, none⟩) l4 c4))
      (first | go_keep | (refine ⟨cell_below hR ?_, cell_below hR ?_, cell_below hR ?_⟩ <;> assumption))
      ((first
        | (go_at_call 13; refine (toOp_any _ _ _).mono ?_; rintro e wO ⟨rfl, hR⟩)
        | (go_at_call 14; refine (implTakes_any _ ms _ _ _ (M5d.below hR) (t5.below hR)).mono ?_; rintro e w6 ⟨rfl, hb6⟩; have hR := hR.trans (hb6.mono hR.size))))
    have B6 : Below w.heap.size w w6 := B5.drew.trans (hR.mono z5)
    have bx6 := cell_below hR bx5
    have by6 := cell_below hR by5
    have M6 := M5d.below hR
    have z6 := B6.size
    clear hb6 hR bx5 bk5 ba5 by5 M5 M5d B5 z5 t5
    go_wp2_with fail
    have h6 : MethsAt w6.drew _ ms := (h.below B6).below (Below.refl _ _).drew
    have M6d : MethsAt w6.drew _ ms := M6.below (Below.refl _ _).drew
    go_region_held3 (fun w' => w'.cell? ⟨w.heap.size, 0, none⟩ = some (.slice ad ms.length cap) ∧ w'.cell? ⟨w4.heap.size, 0, none⟩ = some (.slice (some ⟨g4, 0, none⟩) l4 c4))
      (first | go_keep | (refine ⟨cell_below hR ?_, cell_below hR ?_⟩ <;> assumption))
      ((first | (go_at_call 12; refine (toProg_any _ ms _ h6 HN.out.1 HN.out.2).mono ?_; rintro e w7 ⟨v7, rfl, hm7, hR⟩) | (go_at_call 7; refine (eqProg_same _ _ ms _ (M6d.below hR) hm7.at).mono ?_; rintro e w8 ⟨rfl, hb8⟩; have hR := hR.trans (hb8.mono hR.size))))
    have B8 : Below w.heap.size w w8 := B6.drew.trans (hR.mono z6)
    clear hb8 hR hm7 M6d h6 M6 bx6 by6 B6 z6
    go_wp2
    go_ret
    exact ⟨rfl, B8⟩

end Go.Proofs.YtljjjhefpecbaauDoor
