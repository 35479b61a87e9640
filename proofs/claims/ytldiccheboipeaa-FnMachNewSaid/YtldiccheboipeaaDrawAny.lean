/-
  What draws: l71Any draws a program, some spoilt; DrawOpTakes a program and an operation.
-/
import Derived.Test.YtldiccheboipeaaDraw13
import Derived.Test.YtldiccheboipeaaDraw12
namespace Go.Proofs.Ytldiccheboipeaa
open Go.RowKit

set_option maxRecDepth 100000 in
set_option maxHeartbeats 2000000 in
theorem l71Any_any (w : World) (b : Nat) (a : Option Addr) (len cap p : Nat) (hr : Rd w b a len cap p) (hp : p + 500 ≤ 1000000) :
    Calls Try.prog 30 #[.pointer (some ⟨b, 0, none⟩)] w fun e w' => ∃ (v : Value) (ms : List MM) (p' : Nat), e = .returned (.agg #[v]) ∧ Drawn w.heap.size w' v ms ∧ p ≤ p' ∧ p' ≤ p + 500 ∧ Rd w' b a len cap p' ∧ w.grownBy w' (some b) := by
  have hbw : b < w.heap.size := World.block_lt_of_cell? _ _ hr.s
  have hr2 := hr.alloc (.cells #[.slice none 0 0] 25)
  have g2 := grown_alloc (grown_refl w (some b)) (.cells #[.slice none 0 0] 25)
  have r2 := pbox_new w (.slice none 0 0)
  have z2 : (w.alloc (.cells #[.slice none 0 0] 25)).heap.size = w.heap.size + 1 := by simp
  go_enter Try.func30, Try.ntmps30
  go_wp2_with fail
  generalize w.alloc (.cells #[.slice none 0 0] 25) = w2 at *
  refine (l71Prog_any _ _ _ _ _ _ hr2 (by omega)).mono ?_
  rintro e w3 ⟨v3, ms3, p3, rfl, hp3, hl2, hl4, hmo, hq3, hq3', hr3, hg3⟩
  have r3 := row_kept r2 hg3 (by simp; omega)
  have g3 := grown_trans g2 hg3
  have z3 := hg3.size
  obtain ⟨aV, cV, hvV⟩ := hp3.shape
  subst hvV
  clear hr2 hg3 r2 g2
  go_wp2_with fail
  have hA4 := World.grownBy_alloc w3 (.cells #[.slice aV ms3.length cV] 25) none
  have r4 := r3.alloc (.cells #[.slice aV ms3.length cV] 25)
  have hr4 := hr3.alloc (.cells #[.slice aV ms3.length cV] 25)
  have hp4 := hp3.kept hA4 (fun g e => by cases e)
  have g4 := grown_alloc g3 (.cells #[.slice aV ms3.length cV] 25)
  have x4 := pbox_new w3 (.slice aV ms3.length cV)
  have z4 : (w3.alloc (.cells #[.slice aV ms3.length cV] 25)).heap.size = w3.heap.size + 1 := by simp
  generalize w3.alloc (.cells #[.slice aV ms3.length cV] 25) = w4 at *
  refine (pick_any _ _ _ _ _ _ 12 hr4 (by omega) (by omega) (by omega)).mono ?_
  rintro e w5 ⟨x, rfl, hx0, hx1, hr5, hg5⟩
  have r5 := row_kept r4 hg5 (by simp; omega)
  have hp5 := hp4.low hg5 (by omega)
  have g5 := grown_trans g4 hg5
  have z5 := hg5.size
  have x5 := (row_kept x4 hg5 (by simp; omega)).cell (i := 0) (by decide)
  clear hA4 r3 r4 hr3 hr4 hp3 hp4 g3 g4 hg5 x4
  by_cases hx : x = 0
  · subst hx
    go_wp2_with fail
    refine (l71Bent_any _ _ _ _ _ _ hr5 (by omega) w2.heap.size (by omega) _ ms3 hp5 hl2 hl4 hmo).mono ?_
    rintro e w6 ⟨v6, ms6, p6, rfl, hp6, hf6, ho6, hq6, hq6', hr6, hg6⟩
    have r6 := row_kept r5 hg6 (by simp; omega)
    have g6 := grown_trans g5 hg6
    have z6 := hg6.size
    have rc := r6.cell (i := 0) (by decide)
    have rf := r6.frozen 0
    obtain ⟨aW, cW, hvW⟩ := hp6.shape
    subst hvW
    have k7 := grown_set w6 w.heap.size 0 (.slice aW ms6.length cW)
    have D6 : Drawn w.heap.size (w6.setCell ⟨w.heap.size, 0, none⟩ (.slice aW ms6.length cW)) (.slice aW ms6.length cW) ms6 := (Drawn.kept ⟨hp6, hf6, ho6⟩ k7 (by omega)).mono (by omega)
    have hr7 := Rd.kept hr hr6 (by omega) k7 (fun g e => by cases e; exact Nat.le_refl _)
    have g7 := grown_own g6 k7 (fun g e => by cases e; exact Nat.le_refl _)
    have d7 := World.cell?_setCell_same w6 ⟨w.heap.size, 0, none⟩ (.slice aW ms6.length cW) rc
    clear hr5 hp5 r5 hr6 hg6 hp6 g5 g6 x5 r6 k7
    go_wp2
    generalize w6.setCell ⟨w.heap.size, 0, none⟩ (.slice aW ms6.length cW) = W3 at *
    exact bodyPost_ret (v := .agg #[.slice aW ms6.length cW]) (by simp [results, Try.results30, go_sem, d7]) rfl ⟨_, _, _, rfl, D6, by omega, by omega, hr7, g7⟩
  · have ex : (x == 0) = false := beq_eq_false_iff_ne.2 hx
    have rc := r5.cell (i := 0) (by decide)
    have rf := r5.frozen 0
    have k7 := grown_set w5 w.heap.size 0 (.slice aV ms3.length cV)
    have D6 : Drawn w.heap.size (w5.setCell ⟨w.heap.size, 0, none⟩ (.slice aV ms3.length cV)) (.slice aV ms3.length cV) ms3 := (Drawn.kept ⟨hp5, by omega, fun m hm => (hmo m hm).2⟩ k7 (by omega)).mono (by omega)
    have hr7 := Rd.kept hr hr5 (by omega) k7 (fun g e => by cases e; exact Nat.le_refl _)
    have g7 := grown_own g5 k7 (fun g e => by cases e; exact Nat.le_refl _)
    have d7 := World.cell?_setCell_same w5 ⟨w.heap.size, 0, none⟩ (.slice aV ms3.length cV) rc
    clear hr5 hp5 r5 g5 k7
    go_wp2
    generalize w5.setCell ⟨w.heap.size, 0, none⟩ (.slice aV ms3.length cV) = W3 at *
    exact bodyPost_ret (v := .agg #[.slice aV ms3.length cV]) (by simp [results, Try.results30, go_sem, d7]) rfl ⟨_, _, _, rfl, D6, by omega, by omega, hr7, g7⟩

theorem obox_new (w : World) (k q : Int) : (w.alloc (.cells #[.int .i64 k, .int .i64 q] 175)).rowIs w.heap.size 175 2 (fun i => if i = 0 then .int .i64 k else .int .i64 q) :=
  ⟨_, Go.Deep.blk_alloc_new _ _, rfl, fun i hi => by match i, hi with | 0, _ => rfl | 1, _ => rfl⟩

end Go.Proofs.Ytldiccheboipeaa
