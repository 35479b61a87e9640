/-
  What draws: DrawProgOk.
-/
import Derived.Test.YtehffhhiikahbaaDraw13
namespace Go.Proofs.Ytehffhhiikahbaa
open Go.RowKit

set_option maxRecDepth 100000 in
set_option maxHeartbeats 2000000 in
theorem drawProgOk_any (w : World) (a : Option Addr) (len cap : Nat) (h : BytesAt w a len cap) :
    Calls Try.prog 4 #[.slice a len cap] w fun e w' => ∃ (v : Value) (ms : List MM), e = .returned (.agg #[v]) ∧ Drawn w.heap.size w' v ms ∧ Below w.heap.size w w' := by
  have hA : Below w.heap.size w (w.alloc (.cells #[.slice none 0 0] 25)) := (Below.refl _ _).alloc (Nat.le_refl _) _
  have rA := pbox_new w (.slice none 0 0)
  have zA : (w.alloc (.cells #[.slice none 0 0] 25)).heap.size = w.heap.size + 1 := by simp
  go_enter Try.func4, Try.ntmps4
  go_wp2_with fail
  generalize w.alloc (.cells #[.slice none 0 0] 25) = W1 at *
  refine (l6Open_any _ a len cap (h.below hA)).mono ?_
  rintro e w2 ⟨n, rfl, hr2, z2, hb2⟩
  have r2 := row_kept rA (below_grown hb2 none) (by simp)
  have B2 : Below w.heap.size w w2 := hA.trans (hb2.mono (by omega))
  clear hA rA hb2
  rw [zA] at hr2 ⊢
  go_wp2_with fail
  refine (l71Prog_any _ _ _ _ _ _ hr2 (by omega)).mono ?_
  rintro e w3 ⟨v3, ms3, p3, rfl, hp3, hl2, hl4, hmo, hq3, hq3', hr3, hg3⟩
  have r3 := row_kept r2 hg3 (by simp)
  have B3 : Below w.heap.size w w3 := B2.grown hg3 (by omega) (fun k e => by cases e; omega)
  have z3 := hg3.size
  obtain ⟨aV, cV, hvV⟩ := hp3.shape
  subst hvV
  clear hr2 hg3 r2 B2
  go_wp2_with fail
  have hA4 := World.grownBy_alloc w3 (.cells #[.slice aV ms3.length cV] 25) none
  have r4 := r3.alloc (.cells #[.slice aV ms3.length cV] 25)
  have hr4 := hr3.alloc (.cells #[.slice aV ms3.length cV] 25)
  have hp4 := hp3.kept hA4 (fun g e => by cases e)
  have B4 := B3.alloc (by omega) (.cells #[.slice aV ms3.length cV] 25)
  have x4 := pbox_new w3 (.slice aV ms3.length cV)
  have z4 : (w3.alloc (.cells #[.slice aV ms3.length cV] 25)).heap.size = w3.heap.size + 1 := by simp
  generalize w3.alloc (.cells #[.slice aV ms3.length cV] 25) = w4 at *
  refine (pick_any _ _ _ _ _ _ 2 hr4 (by omega) (by omega) (by omega)).mono ?_
  rintro e w5 ⟨x, rfl, hx0, hx1, hr5, hg5⟩
  have r5 := row_kept r4 hg5 (by simp)
  have hp5 := hp4.low hg5 (by omega)
  have B5 : Below w.heap.size w w5 := B4.grown hg5 (by omega) (fun k e => by cases e; omega)
  have z5 := hg5.size
  have x5 := (row_kept x4 hg5 (by simp; omega)).cell (i := 0) (by decide)
  clear hA4 r3 r4 hr3 hr4 hp3 hp4 B3 B4 hg5 x4
  by_cases hx : x = 0
  · subst hx
    go_wp2_with fail
    refine (l71Bent_any _ _ _ _ _ _ hr5 (by omega) w2.heap.size (by omega) _ ms3 hp5 hl2 hl4 hmo).mono ?_
    rintro e w6 ⟨v6, ms6, p6, rfl, hp6, hf6, ho6, hq6, hq6', hr6, hg6⟩
    have r6 := row_kept r5 hg6 (by simp)
    have B6 : Below w.heap.size w w6 := B5.grown hg6 (by omega) (fun k e => by cases e; omega)
    have z6 := hg6.size
    have rc := r6.cell (i := 0) (by decide)
    have rf := r6.frozen 0
    obtain ⟨aW, cW, hvW⟩ := hp6.shape
    subst hvW
    have D6 : Drawn w.heap.size (w6.setCell ⟨w.heap.size, 0, none⟩ (.slice aW ms6.length cW)) (.slice aW ms6.length cW) ms6 :=
      (Drawn.kept ⟨hp6, hf6, ho6⟩ (grown_set w6 w.heap.size 0 (.slice aW ms6.length cW)) (by omega)).mono (by omega)
    have B7 := B6.setCell (p := ⟨w.heap.size, 0, none⟩) (Nat.le_refl _) (.slice aW ms6.length cW)
    have d7 := World.cell?_setCell_same w6 ⟨w.heap.size, 0, none⟩ (.slice aW ms6.length cW) rc
    clear hr5 hp5 r5 hr6 hg6 hp6 B5 B6 x5 r6
    go_wp2
    generalize w6.setCell ⟨w.heap.size, 0, none⟩ (.slice aW ms6.length cW) = W3 at *
    exact bodyPost_ret (v := .agg #[.slice aW ms6.length cW]) (by simp [results, Try.results4, go_sem, d7]) rfl ⟨_, _, rfl, D6, B7⟩
  · have ex : (x == 0) = false := beq_eq_false_iff_ne.2 hx
    have rc := r5.cell (i := 0) (by decide)
    have rf := r5.frozen 0
    have D6 : Drawn w.heap.size (w5.setCell ⟨w.heap.size, 0, none⟩ (.slice aV ms3.length cV)) (.slice aV ms3.length cV) ms3 :=
      (Drawn.kept ⟨hp5, by omega, fun m hm => (hmo m hm).2⟩ (grown_set w5 w.heap.size 0 (.slice aV ms3.length cV)) (by omega)).mono (by omega)
    have B7 := B5.setCell (p := ⟨w.heap.size, 0, none⟩) (Nat.le_refl _) (.slice aV ms3.length cV)
    have d7 := World.cell?_setCell_same w5 ⟨w.heap.size, 0, none⟩ (.slice aV ms3.length cV) rc
    clear hr5 hp5 r5 B5
    go_wp2
    generalize w5.setCell ⟨w.heap.size, 0, none⟩ (.slice aV ms3.length cV) = W3 at *
    exact bodyPost_ret (v := .agg #[.slice aV ms3.length cV]) (by simp [results, Try.results4, go_sem, d7]) rfl ⟨_, _, rfl, D6, B7⟩

end Go.Proofs.Ytehffhhiikahbaa
