/-
  What draws: l71Any draws a program, some spoilt; DrawOpTakes a program and an operation.
-/
import Derived.Test.YtehffhhiikahbaaDoorDraw13
namespace Go.Proofs.YtehffhhiikahbaaDoor
open Go.RowKit

set_option maxRecDepth 100000 in
set_option maxHeartbeats 2000000 in
theorem l71Any_any (w : World) (b : Nat) (a : Option Addr) (len cap p : Nat) (hr : Rd w b a len cap p) (hp : p + 500 ≤ 1000000) :
    Calls Tryd.prog 23 #[.pointer (some ⟨b, 0, none⟩)] w fun e w' => ∃ (v : Value) (ms : List MM) (p' : Nat), e = .returned (.agg #[v]) ∧ Drawn w.heap.size w' v ms ∧ p ≤ p' ∧ p' ≤ p + 500 ∧ Rd w' b a len cap p' ∧ w.grownBy w' (some b) := by
  have hbw : b < w.heap.size := World.block_lt_of_cell? _ _ hr.s
  have hr2 := hr.alloc (.cells #[.slice none 0 0] 25)
  have g2 := grown_alloc (grown_refl w (some b)) (.cells #[.slice none 0 0] 25)
  have r2 := pbox_new w (.slice none 0 0)
  have z2 : (w.alloc (.cells #[.slice none 0 0] 25)).heap.size = w.heap.size + 1 := by simp
  go_enter Tryd.func23, Tryd.ntmps23
  go_wp2_with fail
  generalize w.alloc (.cells #[.slice none 0 0] 25) = w2 at *
  refine (l71Prog_any _ _ _ _ _ _ hr2 (by omega)).mono ?_
  rintro e w3 ⟨v3, ms3, p3, rfl, hp3, hl2, hl4, hmo, hq3, hq3', hr3, hg3⟩
  have r3 := row_kept r2 hg3 (by simp; omega)
  have g3 := grown_trans g2 hg3
  have z3 := hg3.size
  obtain ⟨aV, cV, hvV⟩ := hp3.shape
  subst hvV
  clear hr2 hg3 r2 g2
  go_wp2_with fail
  have hA4 := World.grownBy_alloc w3 (.cells #[.slice aV ms3.length cV] 25) none
  have r4 := r3.alloc (.cells #[.slice aV ms3.length cV] 25)
  have hr4 := hr3.alloc (.cells #[.slice aV ms3.length cV] 25)
  have hp4 := hp3.kept hA4 (fun g e => by cases e)
  have g4 := grown_alloc g3 (.cells #[.slice aV ms3.length cV] 25)
  have x4 := pbox_new w3 (.slice aV ms3.length cV)
  have z4 : (w3.alloc (.cells #[.slice aV ms3.length cV] 25)).heap.size = w3.heap.size + 1 := by simp
  generalize w3.alloc (.cells #[.slice aV ms3.length cV] 25) = w4 at *
  refine (pick_any _ _ _ _ _ _ 12 hr4 (by omega) (by omega) (by omega)).mono ?_
  rintro e w5 ⟨x, rfl, hx0, hx1, hr5, hg5⟩
  have r5 := row_kept r4 hg5 (by simp; omega)
  have hp5 := hp4.low hg5 (by omega)
  have g5 := grown_trans g4 hg5
  have z5 := hg5.size
  have x5 := (row_kept x4 hg5 (by simp; omega)).cell (i := 0) (by decide)
  clear hA4 r3 r4 hr3 hr4 hp3 hp4 g3 g4 hg5 x4
  by_cases hx : x = 0
  · subst hx
    go_wp2_with fail
    refine (l71Bent_any _ _ _ _ _ _ hr5 (by omega) w2.heap.size (by omega) _ ms3 hp5 hl2 hl4 hmo).mono ?_
    rintro e w6 ⟨v6, ms6, p6, rfl, hp6, hf6, ho6, hq6, hq6', hr6, hg6⟩
    have r6 := row_kept r5 hg6 (by simp; omega)
    have g6 := grown_trans g5 hg6
    have z6 := hg6.size
    have rc := r6.cell (i := 0) (by decide)
    have rf := r6.frozen 0
    obtain ⟨aW, cW, hvW⟩ := hp6.shape
    subst hvW
    have k7 := grown_set w6 w.heap.size 0 (.slice aW ms6.length cW)
    have D6 : Drawn w.heap.size (w6.setCell ⟨w.heap.size, 0, none⟩ (.slice aW ms6.length cW)) (.slice aW ms6.length cW) ms6 := (Drawn.kept ⟨hp6, hf6, ho6⟩ k7 (by omega)).mono (by omega)
    have hr7 := Rd.kept hr hr6 (by omega) k7 (fun g e => by cases e; exact Nat.le_refl _)
    have g7 := grown_own g6 k7 (fun g e => by cases e; exact Nat.le_refl _)
    have d7 := World.cell?_setCell_same w6 ⟨w.heap.size, 0, none⟩ (.slice aW ms6.length cW) rc
    clear hr5 hp5 r5 hr6 hg6 hp6 g5 g6 x5 r6 k7
    go_wp2
    generalize w6.setCell ⟨w.heap.size, 0, none⟩ (.slice aW ms6.length cW) = W3 at *
    exact bodyPost_ret (v := .agg #[.slice aW ms6.length cW]) (by simp [results, Tryd.results23, go_sem, d7]) rfl ⟨_, _, _, rfl, D6, by omega, by omega, hr7, g7⟩
  · have ex : (x == 0) = false := beq_eq_false_iff_ne.2 hx
    have rc := r5.cell (i := 0) (by decide)
    have rf := r5.frozen 0
    have k7 := grown_set w5 w.heap.size 0 (.slice aV ms3.length cV)
    have D6 : Drawn w.heap.size (w5.setCell ⟨w.heap.size, 0, none⟩ (.slice aV ms3.length cV)) (.slice aV ms3.length cV) ms3 := (Drawn.kept ⟨hp5, by omega, fun m hm => (hmo m hm).2⟩ k7 (by omega)).mono (by omega)
    have hr7 := Rd.kept hr hr5 (by omega) k7 (fun g e => by cases e; exact Nat.le_refl _)
    have g7 := grown_own g5 k7 (fun g e => by cases e; exact Nat.le_refl _)
    have d7 := World.cell?_setCell_same w5 ⟨w.heap.size, 0, none⟩ (.slice aV ms3.length cV) rc
    clear hr5 hp5 r5 g5 k7
    go_wp2
    generalize w5.setCell ⟨w.heap.size, 0, none⟩ (.slice aV ms3.length cV) = W3 at *
    exact bodyPost_ret (v := .agg #[.slice aV ms3.length cV]) (by simp [results, Tryd.results23, go_sem, d7]) rfl ⟨_, _, _, rfl, D6, by omega, by omega, hr7, g7⟩

theorem obox_new (w : World) (k q : Int) : (w.alloc (.cells #[.int .i64 k, .int .i64 q] 27)).rowIs w.heap.size 27 2 (fun i => if i = 0 then .int .i64 k else .int .i64 q) :=
  ⟨_, Go.Deep.blk_alloc_new _ _, rfl, fun i hi => by match i, hi with | 0, _ => rfl | 1, _ => rfl⟩

set_option maxRecDepth 100000 in
set_option maxHeartbeats 2000000 in
theorem drawOpTakes_any (w : World) (a : Option Addr) (len cap : Nat) (h : BytesAt w a len cap) :
    Calls Tryd.prog 8 #[.slice a len cap] w fun e w' => ∃ (v : Value) (ms : List MM) (k q : Int), e = .returned (.tuple #[.agg #[v], .agg #[.int .i64 k, .int .i64 q]]) ∧ Drawn w.heap.size w' v ms ∧ Below w.heap.size w w' := by
  have hA := ((Below.refl w.heap.size w).alloc (Nat.le_refl _) (.cells #[.slice none 0 0] 25)).alloc (by simp) (.cells #[.int .i64 0, .int .i64 0] 27)
  have rA := (pbox_new w (.slice none 0 0)).alloc (.cells #[.int .i64 0, .int .i64 0] 27)
  have sA := obox_new (w.alloc (.cells #[.slice none 0 0] 25)) 0 0
  have zA : ((w.alloc (.cells #[.slice none 0 0] 25)).alloc (.cells #[.int .i64 0, .int .i64 0] 27)).heap.size = w.heap.size + 1 + 1 := by simp
  simp only [World.size_alloc] at sA
  go_enter Tryd.func8, Tryd.ntmps8
  go_wp2_with fail
  generalize (w.alloc (.cells #[.slice none 0 0] 25)).alloc (.cells #[.int .i64 0, .int .i64 0] 27) = W1 at *
  refine (l6Open_any _ a len cap (h.below hA)).mono ?_
  rintro e w2 ⟨n, rfl, hr2, z2, hb2⟩
  have r2 := row_kept rA (below_grown hb2 none) (by simp)
  have s2 := row_kept sA (below_grown hb2 none) (by simp)
  have B2 : Below w.heap.size w w2 := hA.trans (hb2.mono (by omega))
  clear hA rA sA hb2
  rw [zA] at hr2 ⊢
  go_wp2_with fail
  refine (l71Any_any _ _ _ _ _ _ hr2 (by omega)).mono ?_
  rintro e w3 ⟨v, ms, p3, rfl, D3, hq3, hq3', hr3, hg3⟩
  have r3 := row_kept r2 hg3 (by intro e; injection e with e; omega)
  have s3 := row_kept s2 hg3 (by intro e; injection e with e; omega)
  have B3 : Below w.heap.size w w3 := B2.grown hg3 (by omega) (fun k e => by cases e; omega)
  have z3 := hg3.size
  obtain ⟨aV, cV, hvV⟩ := D3.row.shape
  subst hvV
  clear hr2 r2 s2 B2 hg3
  go_wp2_with fail
  refine (pick_any _ _ _ _ _ _ 20 hr3 (by omega) (by omega) (by omega)).mono ?_
  rintro e w4 ⟨x4, rfl, hx4, hx4', hr4, hg4⟩
  have r4 := row_kept r3 hg4 (by intro e; injection e with e; omega)
  have s4 := row_kept s3 hg4 (by intro e; injection e with e; omega)
  have D4 := D3.kept hg4 (by omega)
  have B4 : Below w.heap.size w w4 := B3.grown hg4 (by omega) (fun k e => by cases e; omega)
  have z4 := hg4.size
  clear hr3 r3 s3 B3 hg4 D3
  go_wp2_with fail
  refine (pick_any _ _ _ _ _ _ 5 hr4 (by omega) (by omega) (by omega)).mono ?_
  rintro e w5 ⟨x5, rfl, hx5, hx5', hr5, hg5⟩
  have r5 := row_kept r4 hg5 (by intro e; injection e with e; omega)
  have s5 := row_kept s4 hg5 (by intro e; injection e with e; omega)
  have D5 := D4.kept hg5 (by omega)
  have B5 : Below w.heap.size w w5 := B4.grown hg5 (by omega) (fun k e => by cases e; omega)
  have z5 := hg5.size
  clear hr4 r4 s4 B4 hg5 D4
  go_wp2_with fail
  refine (pick_any _ _ _ _ _ _ 8 hr5 (by omega) (by omega) (by omega)).mono ?_
  rintro e w6 ⟨x6, rfl, hx6, hx6', hr6, hg6⟩
  have r6 := row_kept r5 hg6 (by intro e; injection e with e; omega)
  have s6 := row_kept s5 hg6 (by intro e; injection e with e; omega)
  have D6 := D5.kept hg6 (by omega)
  have B6 : Below w.heap.size w w6 := B5.grown hg6 (by omega) (fun k e => by cases e; omega)
  have z6 := hg6.size
  clear hr5 r5 s5 B5 hg6 D5 hr6
  have rc := r6.cell (i := 0) (by decide)
  have rf := r6.frozen 0
  have sc0 : w6.cell? ⟨w.heap.size + 1, 0, none⟩ = some (.int .i64 0) := s6.cell (i := 0) (by decide)
  have sc1 : w6.cell? ⟨w.heap.size + 1, 1, none⟩ = some (.int .i64 0) := s6.cell (i := 1) (by decide)
  have sf0 := s6.frozen 0
  have sf1 := s6.frozen 1
  have k7 := grown_set w6 w.heap.size 0 (.slice aV ms.length cV)
  have D7 := D6.kept k7 (by omega)
  have r7 := r6.set 0 (.slice aV ms.length cV)
  have s7 := row_kept s6 k7 (by intro e; injection e with e; omega)
  have B7 := B6.setCell (p := ⟨w.heap.size, 0, none⟩) (Nat.le_refl _) (.slice aV ms.length cV)
  have k8 := grown_set (w6.setCell ⟨w.heap.size, 0, none⟩ (.slice aV ms.length cV)) (w.heap.size + 1) 0 (.int .i64 x4)
  have D8 := D7.kept k8 (by omega)
  have r8 := row_kept r7 k8 (by intro e; injection e with e; omega)
  have s8 := s7.set 0 (.int .i64 x4)
  have B8 := B7.setCell (p := ⟨w.heap.size + 1, 0, none⟩) (Nat.le_succ _) (.int .i64 x4)
  have k9 := grown_set ((w6.setCell ⟨w.heap.size, 0, none⟩ (.slice aV ms.length cV)).setCell ⟨w.heap.size + 1, 0, none⟩ (.int .i64 x4)) (w.heap.size + 1) 1 (.int .i64 (x5 - x6 / 7))
  have D9 := (D8.kept k9 (by omega)).mono (show w.heap.size ≤ w2.heap.size by omega)
  have r9 := row_kept r8 k9 (by intro e; injection e with e; omega)
  have s9 := s8.set 1 (.int .i64 (x5 - x6 / 7))
  have B9 := B8.setCell (p := ⟨w.heap.size + 1, 1, none⟩) (Nat.le_succ _) (.int .i64 (x5 - x6 / 7))
  clear k7 k8 k9 D7 D8 r7 r8 s7 s8 B7 B8 D6 B6 r6 s6
  go_wp2
  generalize ((w6.setCell ⟨w.heap.size, 0, none⟩ (.slice aV ms.length cV)).setCell ⟨w.heap.size + 1, 0, none⟩ (.int .i64 x4)).setCell ⟨w.heap.size + 1, 1, none⟩ (.int .i64 (x5 - x6 / 7)) = W3 at *
  have u0 : W3.cell? ⟨w.heap.size, 0, none⟩ = some (.slice aV ms.length cV) := r9.cell (i := 0) (by decide)
  have u1 : W3.cell? ⟨w.heap.size + 1, 0, none⟩ = some (.int .i64 x4) := s9.cell (i := 0) (by decide)
  have u2 : W3.cell? ⟨w.heap.size + 1, 1, none⟩ = some (.int .i64 (x5 - x6 / 7)) := s9.cell (i := 1) (by decide)
  exact bodyPost_ret (v := .tuple #[.agg #[.slice aV ms.length cV], .agg #[.int .i64 x4, .int .i64 (x5 - x6 / 7)]]) (by simp [results, Tryd.results8, go_sem, u0, u1, u2]) rfl ⟨_, _, _, _, rfl, D9, B9⟩

end Go.Proofs.YtehffhhiikahbaaDoor
