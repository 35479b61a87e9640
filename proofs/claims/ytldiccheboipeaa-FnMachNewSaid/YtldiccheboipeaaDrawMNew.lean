/-
  What draws: DrawMachNew draws a program, some spoilt, how many pages there are, and of how many cells.
-/
import Derived.Test.YtldiccheboipeaaDrawRooms
import Derived.Test.YtldiccheboipeaaMBase
namespace Go.Proofs.Ytldiccheboipeaa
open Go.RowKit

theorem box_grown {w w' : World} {g b : Nat} {t : TypeId} {l : List Value} (h : Bx w g t l) (hg : w.grownBy w' (some b)) (hne : b ≠ g) : Bx w' g t l := h.grown hg fun e => hne (by injection e)

set_option maxRecDepth 100000 in
set_option maxHeartbeats 4000000 in
theorem drawMachNew_any (w : World) (a : Option Addr) (len cap : Nat) (h : BytesAt w a len cap) :
    Calls Try.prog 7 #[.slice a len cap] w fun e w' => ∃ (v : Value) (ms : List MM) (r c : Int), e = .returned (.tuple #[.agg #[v], .int .i64 r, .int .i64 c]) ∧ (-1 ≤ r ∧ r ≤ 6) ∧ (0 ≤ c ∧ c ≤ 61) ∧ Drawn w.heap.size w' v ms ∧ Below w.heap.size w w' := by
  go_enter Try.func7, Try.ntmps7
  go_upto_region 1 with fail
  refine wp_gen (fun W => Below w.heap.size w W ∧ Bx W w.heap.size 25 [.slice none 0 0] ∧ W.heap.size = w.heap.size + 1) ⟨(Below.refl _ _).alloc (Nat.le_refl _) _, Bx.new w _ _, by simp⟩ ?_
  rintro W1 ⟨B1, x1, z1⟩
  go_wp2_with fail
  refine (l6Open_any _ a len cap (h.below B1)).mono ?_
  rintro e w2 ⟨n, rfl, hr2, z2, hb2⟩
  have B2 : Below w.heap.size w w2 := B1.trans (hb2.mono (by omega))
  have x2 := x1.below hb2
  rw [z1] at hr2 ⊢
  clear B1 x1 hb2
  go_wp2_with fail
  refine (l71Any_any _ _ _ _ _ _ hr2 (by omega)).mono ?_
  rintro e w3 ⟨v, ms, p3, rfl, D3, hq3, hq3', hr3, hg3⟩
  have x3 := box_grown x2 hg3 (by omega)
  have B3 : Below w.heap.size w w3 := B2.grown hg3 (by omega) (fun k e => by cases e; omega)
  have z3 := hg3.size
  obtain ⟨aX, cX, hvX⟩ := D3.row.shape
  subst hvX
  clear hr2 x2 B2 hg3
  go_upto_region 3 with fail
  refine wp_gen (fun W => Below w.heap.size w W ∧ Bx W w.heap.size 25 [.slice none 0 0] ∧ Bx W w3.heap.size 25 [.slice aX ms.length cX] ∧ Drawn w2.heap.size W (.slice aX ms.length cX) ms ∧ Rd W (w.heap.size + 1) a n cap p3 ∧ W.heap.size = w3.heap.size + 1)
    ⟨B3.alloc (by have := B3.size; omega) _, x3.alloc _, Bx.new _ _ _, D3.below ((Below.refl _ _).alloc (Nat.le_refl _) _), hr3.alloc _, by simp⟩ ?_
  rintro W4 ⟨B4, x4, y4, D4, hr4, z4⟩
  clear B3 x3 D3 hr3
  go_wp2_with fail
  refine (l71Rooms_any _ _ _ _ _ _ hr4 (by omega)).mono ?_
  rintro e w5 ⟨r, c, rfl, hR, hC, hr5, hg5⟩
  have x5 := box_grown x4 hg5 (by omega)
  have y5 := box_grown y4 hg5 (by omega)
  have B5 : Below w.heap.size w w5 := B4.grown hg5 (by omega) (fun k e => by cases e; omega)
  have D5 := D4.kept hg5 (by omega)
  have z5 := hg5.size
  have c0 := y5.cell 0 rfl
  have xc := x5.cell 0 rfl
  have xf := x5.frozen 0
  clear hr4 hr5 hg5 D4 B4 x4 y4
  go_upto_region 4 with fail
  go_wp2_with fail
  refine bp_gen (fun W => Below w.heap.size w W ∧ Bx W w.heap.size 25 [.slice aX ms.length cX] ∧ Drawn w.heap.size W (.slice aX ms.length cX) ms)
    ⟨B5.setCell (p := ⟨w.heap.size, 0, none⟩) (Nat.le_refl _) _, x5.set 0 _, ?_⟩ ?_
  · exact (D5.kept (grown_set w5 w.heap.size 0 _) (by omega)).mono (by omega)
  rintro W6 ⟨B6, x6, D6⟩
  have d6 := x6.cell 0 rfl
  exact bodyPost_ret (v := .tuple #[.agg #[.slice aX ms.length cX], .int .i64 r, .int .i64 c]) (by simp [results, Try.results7, go_sem, d6]) rfl ⟨_, _, r, c, rfl, hR, hC, D6, B6⟩

end Go.Proofs.Ytldiccheboipeaa
