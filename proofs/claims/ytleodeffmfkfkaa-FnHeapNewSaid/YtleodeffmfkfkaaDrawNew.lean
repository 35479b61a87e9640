/-
  What draws: DrawHeapNew draws a program, some spoilt.
-/
import Derived.Test.YtleodeffmfkfkaaDrawAny
namespace Go.Proofs.Ytleodeffmfkfkaa
open Go.RowKit

set_option maxRecDepth 100000 in
set_option maxHeartbeats 2000000 in
theorem drawHeapNew_any (w : World) (a : Option Addr) (len cap : Nat) (h : BytesAt w a len cap) :
    Calls Try.prog 13 #[.slice a len cap] w fun e w' => ∃ (v : Value) (ms : List MM), e = .returned (.agg #[v]) ∧ Drawn w.heap.size w' v ms ∧ Below w.heap.size w w' := by
  have hA : Below w.heap.size w (w.alloc (.cells #[.slice none 0 0] 25)) := (Below.refl _ _).alloc (Nat.le_refl _) _
  have rA := pbox_new w (.slice none 0 0)
  have zA : (w.alloc (.cells #[.slice none 0 0] 25)).heap.size = w.heap.size + 1 := by simp
  go_enter Try.func13, Try.ntmps13
  go_wp2_with fail
  generalize w.alloc (.cells #[.slice none 0 0] 25) = W1 at *
  refine (l6Open_any _ a len cap (h.below hA)).mono ?_
  rintro e w2 ⟨n, rfl, hr2, z2, hb2⟩
  have r2 := row_kept rA (below_grown hb2 none) (by simp)
  have B2 : Below w.heap.size w w2 := hA.trans (hb2.mono (by omega))
  clear hA rA hb2
  rw [zA] at hr2 ⊢
  go_wp2_with fail
  refine (l71Any_any _ _ _ _ _ _ hr2 (by omega)).mono ?_
  rintro e w3 ⟨v, ms, p3, rfl, D3, hq3, hq3', hr3, hg3⟩
  have r3 := row_kept r2 hg3 (by intro e; injection e with e; omega)
  have B3 : Below w.heap.size w w3 := B2.grown hg3 (by omega) (fun k e => by cases e; omega)
  have z3 := hg3.size
  obtain ⟨aX, cX, hvX⟩ := D3.row.shape
  subst hvX
  clear hr2 r2 B2 hg3
  have rc := r3.cell (i := 0) (by decide)
  have rf := r3.frozen 0
  have k9 := grown_set w3 w.heap.size 0 (.slice aX ms.length cX)
  have D9 := (D3.kept k9 (by omega)).mono (show w.heap.size ≤ w2.heap.size by omega)
  have B9 := B3.setCell (p := ⟨w.heap.size, 0, none⟩) (Nat.le_refl _) (.slice aX ms.length cX)
  have d9 := World.cell?_setCell_same w3 ⟨w.heap.size, 0, none⟩ (.slice aX ms.length cX) rc
  clear D3 B3 r3 k9
  go_wp2
  generalize w3.setCell ⟨w.heap.size, 0, none⟩ (.slice aX ms.length cX) = W3 at *
  exact bodyPost_ret (v := .agg #[.slice aX ms.length cX]) (by simp [results, Try.results13, go_sem, d9]) rfl ⟨_, _, rfl, D9, B9⟩

end Go.Proofs.Ytleodeffmfkfkaa
