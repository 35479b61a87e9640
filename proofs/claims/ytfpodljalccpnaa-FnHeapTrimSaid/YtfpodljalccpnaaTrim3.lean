/-
  HeapTrim of the program, walked.
-/
import Derived.Test.YtfpodljalccpnaaTrim
import Derived.Deep.RegionHeld3

namespace Go.Proofs.Ytfpodljalccpnaa
open Go.RowKit
set_option maxRecDepth 100000 in
set_option maxHeartbeats 4000000 in
theorem implHeapTrim_any (vp vc vs : Value) (ms : List (Int × Int × List (Int × Int))) (h : Hp) (w : World) (hp : MethsAt w vp ms) (hh : HeapAt w vc vs h) (hsm : h.small) :
    Calls Try.prog 6 #[.agg #[vp], .agg (hpCells vc vs h)] w fun e w' => Below w.heap.size w w' ∧ ∃ vc' vs' V, e = .returned (.tuple #[.agg (hpCells vc' vs' (trimH ms h)), .bool (heapOk ms h)]) ∧ OwnHeap w.heap.size w' vc' vs' (trimH ms h) V := by
  obtain ⟨ap, cp, hvp, _⟩ := id hp
  obtain ⟨ac, kc, hvc⟩ := hh.c.shape
  obtain ⟨aD, kD, hvs⟩ := hh.s.shape
  subst hvp hvc hvs
  unfold hpCells
  have hA : Below w.heap.size w (((w.alloc (.cells #[.slice ap ms.length cp] 25)).alloc (.cells #[.slice ac h.calls.length kc, .int .i64 h.now, .int .i64 h.born, .slice aD h.said.length kD, .int .i64 h.code] 29)).alloc (.cells #[.slice none 0 0, .int .i64 0, .int .i64 0, .slice none 0 0, .int .i64 0] 29)) := (((Below.refl _ _).alloc (Nat.le_refl _) _).alloc (by simp) _).alloc (by simp; omega) _
  have bp : (((w.alloc (.cells #[.slice ap ms.length cp] 25)).alloc (.cells #[.slice ac h.calls.length kc, .int .i64 h.now, .int .i64 h.born, .slice aD h.said.length kD, .int .i64 h.code] 29)).alloc (.cells #[.slice none 0 0, .int .i64 0, .int .i64 0, .slice none 0 0, .int .i64 0] 29)).cell? ⟨w.heap.size, 0, none⟩ = some (.slice ap ms.length cp) := by simp [go_sem]
  have bh := (five_new (w.alloc (.cells #[.slice ap ms.length cp] 25)) 29 (.slice ac h.calls.length kc) (.int .i64 h.now) (.int .i64 h.born) (.slice aD h.said.length kD) (.int .i64 h.code)).alloc (.cells #[.slice none 0 0, .int .i64 0, .int .i64 0, .slice none 0 0, .int .i64 0] 29)
  have bz := five_new ((w.alloc (.cells #[.slice ap ms.length cp] 25)).alloc (.cells #[.slice ac h.calls.length kc, .int .i64 h.now, .int .i64 h.born, .slice aD h.said.length kD, .int .i64 h.code] 29)) 29 (.slice none 0 0) (.int .i64 0) (.int .i64 0) (.slice none 0 0) (.int .i64 0)
  simp only [World.size_alloc] at bh bz
  go_enter Try.func6, Try.ntmps6
  go_upto_region 1 with fail
  generalize ((w.alloc (.cells #[.slice ap ms.length cp] 25)).alloc (.cells #[.slice ac h.calls.length kc, .int .i64 h.now, .int .i64 h.born, .slice aD h.said.length kD, .int .i64 h.code] 29)).alloc (.cells #[.slice none 0 0, .int .i64 0, .int .i64 0, .slice none 0 0, .int .i64 0] 29) = W0 at *
  have z0 := hA.size
  obtain ⟨⟨x0, x1, x2, x3, x4⟩, xf⟩ := five_cells bh
  clear xf
  go_wp2_with fail
  refine (implHeapOk_any _ _ _ ms h _ (hp.below hA) (hh.below hA) hsm.1).mono ?_
  rintro e w1 ⟨rfl, hb1⟩
  have B1 : Below w.heap.size w w1 := hA.trans (hb1.mono z0)
  have bh1 := row_below hb1 bh
  have bz1 := row_below hb1 bz
  have z1 := B1.size
  have y1 := bz1.lt
  have hz2 : w.heap.size ≤ w.heap.size + 1 + 1 := by omega
  clear hb1 bp bh bz hA z0 x0 x1 x2 x3 x4
  obtain ⟨⟨x0, x1, x2, x3, x4⟩, xf⟩ := five_cells bh1
  obtain ⟨⟨u0, u1, u2, u3, u4⟩, f0, f1, f2, f3, f4⟩ := five_cells bz1
  clear xf
  by_cases hof : heapOk ms h = false
  · have hN : Hid (trimH ms h = ⟨[], 0, 0, [], 0⟩) := by show trimH ms h = _; simp [trimH, hof]
    have R9 := five_set4 (five_set3 (five_set2 (five_set1 (five_set0 bz1 (.slice none 0 0)) (.int .i64 0)) (.int .i64 0)) (.slice none 0 0)) (.int .i64 0)
    have B9 := ((((B1.setCell (p := ⟨w.heap.size + 1 + 1, 0, none⟩) hz2 (.slice none 0 0)).setCell (p := ⟨w.heap.size + 1 + 1, 1, none⟩) hz2 (.int .i64 0)).setCell (p := ⟨w.heap.size + 1 + 1, 2, none⟩) hz2 (.int .i64 0)).setCell (p := ⟨w.heap.size + 1 + 1, 3, none⟩) hz2 (.slice none 0 0)).setCell (p := ⟨w.heap.size + 1 + 1, 4, none⟩) hz2 (.int .i64 0)
    go_wp2
    generalize ((((w1.setCell ⟨w.heap.size + 1 + 1, 0, none⟩ (.slice none 0 0)).setCell ⟨w.heap.size + 1 + 1, 1, none⟩ (.int .i64 0)).setCell ⟨w.heap.size + 1 + 1, 2, none⟩ (.int .i64 0)).setCell ⟨w.heap.size + 1 + 1, 3, none⟩ (.slice none 0 0)).setCell ⟨w.heap.size + 1 + 1, 4, none⟩ (.int .i64 0) = W9 at *
    obtain ⟨⟨q0, q1, q2, q3, q4⟩, _⟩ := five_cells R9
    exact bodyPost_ret (v := .tuple #[.agg #[.slice none 0 0, .int .i64 0, .int .i64 0, .slice none 0 0, .int .i64 0], .bool false]) (by simp [results, Try.results6, go_sem, q0, q1, q2, q3, q4]) rfl ⟨B9, .slice none 0 0, .slice none 0 0, _, by rw [hN.out, hof], by rw [hN.out]; exact OwnHeap.none _ _⟩
  have hok : heapOk ms h = true := by simpa using hof
  clear hof
  have hPT := ok_parts hok
  have hh1 := hh.below B1
  have HS8 : ∀ w', Below w1.heap.size w1 w' → (w'.cell? ⟨w.heap.size + 1, 0, none⟩ = some (.slice ac h.calls.length kc) ∧ w'.cell? ⟨w.heap.size + 1, 1, none⟩ = some (.int .i64 h.now) ∧ w'.cell? ⟨w.heap.size + 1, 2, none⟩ = some (.int .i64 h.born) ∧ w'.cell? ⟨w.heap.size + 1, 3, none⟩ = some (.slice aD h.said.length kD) ∧ w'.cell? ⟨w.heap.size + 1, 4, none⟩ = some (.int .i64 h.code) ∧ Below w1.heap.size w1 w') := fun w' hB => ⟨cell_below hB x0, cell_below hB x1, cell_below hB x2, cell_below hB x3, cell_below hB x4, hB⟩
  have hsl : h.said.length ≤ 1048576 := hsm.2.2
  have hdr : ∀ W : World, W.drew.heap.size = W.heap.size := fun _ => rfl
  clear u0 u1 u2 u3 u4 f0 f1 f2 f3 f4
  go_wp2_with fail
  go_region_held3 (fun w' => w'.cell? ⟨w.heap.size + 1, 0, none⟩ = some (.slice ac h.calls.length kc) ∧ w'.cell? ⟨w.heap.size + 1, 1, none⟩ = some (.int .i64 h.now) ∧ w'.cell? ⟨w.heap.size + 1, 2, none⟩ = some (.int .i64 h.born) ∧ w'.cell? ⟨w.heap.size + 1, 3, none⟩ = some (.slice aD h.said.length kD) ∧ w'.cell? ⟨w.heap.size + 1, 4, none⟩ = some (.int .i64 h.code) ∧ Below w1.heap.size w1 w')
    ((refine HS8 _ ?_; first | (with_reducible exact (‹_ ∧ _ ∧ _ ∧ _ ∧ _ ∧ Below w1.heap.size w1 _›).2.2.2.2.2) | (with_reducible exact hBC) | (with_reducible exact hBA) | (with_reducible exact hBA.alloc hBA.size _) | (with_reducible exact ((((hBA.setCell (p := ⟨_, 0, none⟩) (by first | omega | (dsimp only; omega)) _).setCell (p := ⟨_, 1, none⟩) (by first | omega | (dsimp only; omega)) _).setCell (p := ⟨_, 2, none⟩) (by first | omega | (dsimp only; omega)) _).setCell (p := ⟨_, 3, none⟩) (by first | omega | (dsimp only; omega)) _).setCell (p := ⟨_, 4, none⟩) (by first | omega | (dsimp only; omega)) _) | (with_reducible exact Below.refl _ _) | (with_reducible exact (Below.refl _ _).drew) | (with_reducible exact ((Below.refl _ _).alloc (Nat.le_refl _) _).drew) | (with_reducible exact Below.alloc (‹_ ∧ _ ∧ _ ∧ _ ∧ _ ∧ Below w1.heap.size w1 _›).2.2.2.2.2 ((‹_ ∧ _ ∧ _ ∧ _ ∧ _ ∧ Below w1.heap.size w1 _›).2.2.2.2.2).size _) | (with_reducible exact ((‹_ ∧ _ ∧ _ ∧ _ ∧ _ ∧ Below w1.heap.size w1 _›).2.2.2.2.2).drew)))
    ((first
      | (go_at_call 10; refine (implHeapView_any _ _ h _ (hh1.below (‹_ ∧ _ ∧ _ ∧ _ ∧ _ ∧ Below w1.heap.size w1 _›).2.2.2.2.2) hPT.sh hPT.n30).mono ?_; rintro e wC ⟨⟨vC, VC, rfl, hOC⟩, hbC⟩; obtain ⟨aC, kC, hvC, _⟩ := hOC.shape; subst hvC; have hBC := Below.trans (‹_ ∧ _ ∧ _ ∧ _ ∧ _ ∧ Below w1.heap.size w1 _›).2.2.2.2.2 (hbC.mono ((‹_ ∧ _ ∧ _ ∧ _ ∧ _ ∧ Below w1.heap.size w1 _›).2.2.2.2.2).size); have hzC := hBC.size; first | (have rC := row_below hbC (show ((w1.alloc (.cells #[.slice none 0 0, .int .i64 0, .int .i64 0, .slice none 0 0, .int .i64 0] 29)).drew).rowIs _ _ 5 _ from five_new w1 29 (.slice none 0 0) (.int .i64 0) (.int .i64 0) (.slice none 0 0) (.int .i64 0))) | skip)
      | (go_at_call 16; refine (clone_big _ h.said _ (hh1.s.below (‹_ ∧ _ ∧ _ ∧ _ ∧ _ ∧ Below w1.heap.size w1 _›).2.2.2.2.2) hsl).mono ?_; rintro e wA ⟨vA, rfl, hrowA, hbA⟩; obtain ⟨aA, kA, hvA, _⟩ := hrowA.slice; subst hvA; have hBA := Below.trans (‹_ ∧ _ ∧ _ ∧ _ ∧ _ ∧ Below w1.heap.size w1 _›).2.2.2.2.2 (hbA.mono ((‹_ ∧ _ ∧ _ ∧ _ ∧ _ ∧ Below w1.heap.size w1 _›).2.2.2.2.2).size); have hzA := hbA.size; first | (have rZ := row_below hbA (five_new wC 29 (.slice none 0 0) (.int .i64 0) (.int .i64 0) (.slice none 0 0) (.int .i64 0)); obtain ⟨⟨n0, n1, n2, n3, n4⟩, l0, l1, l2, l3, l4⟩ := five_cells rZ) | (have rZ := row_below hbA rC; obtain ⟨⟨n0, n1, n2, n3, n4⟩, l0, l1, l2, l3, l4⟩ := five_cells rZ) | skip)))
  · have hBw : w1.drew.heap.size = w1.heap.size := rfl
    rw [hBw] at hOC
    have r9 := five_new wA 29 (.slice aC (viewL h).length kC) (.int .i64 (-1)) (.int .i64 h.born) (.slice aA h.said.length kA) (.int .i64 h.code)
    have NN := (Below.refl wA.heap.size wA).alloc (Nat.le_refl _) (.cells #[.slice aC (viewL h).length kC, .int .i64 (-1), .int .i64 h.born, .slice aA h.said.length kA, .int .i64 h.code] 29)
    have O9 := (hOC.below hbA).below NN
    have P9 := hrowA.below NN
    have B9 := hBA.trans (NN.mono hBA.size)
    have hob : w1.heap.size ≤ wA.heap.size := hBA.size
    have nO : ¬ CallBlocks (.slice aC (viewL h).length kC) (viewL h).length VC wA.heap.size := fun e => by have := (hOC.lt e).2; omega
    have nP : (Value.slice aA h.said.length kA).ownBlock ≠ some wA.heap.size := fun e => by have := (hrowA.lt _ e).2; omega
    have hcs : ∀ g, CallBlocks (.slice aC (viewL h).length kC) (viewL h).length VC g → g < wC.heap.size := fun g e => (hOC.lt e).2
    clear HS8 NN hOC hrowA hbA hBA hbC hBC hBw
    generalize wA.alloc (.cells #[.slice aC (viewL h).length kC, .int .i64 (-1), .int .i64 h.born, .slice aA h.said.length kA, .int .i64 h.code] 29) = w9 at *
    generalize wA.heap.size = ob at *
    obtain ⟨⟨x0', x1', x2', x3', x4'⟩, xf⟩ := five_cells (row_below B9 bh1)
    obtain ⟨⟨y0, y1', y2, y3, y4⟩, e0, e1, e2, e3, e4⟩ := five_cells r9
    clear xf x0 x1 x2 x3 x4
    by_cases hnow : h.now = -1
    · have hT : Hid (trimH ms h = ⟨viewL h, -1, h.born, h.said, h.code⟩) := by show trimH ms h = _; unfold trimH; rw [if_pos hok, if_pos hnow]
      rw [hnow] at x1'
      have r10 := r9
      have B10 := B9
      have P10 := P9
      have O10 := O9
      clear r9 B9 P9 O9
      go_upto_region 6 with fail
      generalize w9 = w10 at *
      clear x0' x1' x2' x3' x4' y0 y1' y2 y3 y4 e0 e1 e2 e3 e4
      have rz10 := row_below B10 bz1
      have B10w := B1.trans (B10.mono z1)
      obtain ⟨⟨k0, k1, k2, k3, k4⟩, kf⟩ := five_cells r10
      obtain ⟨⟨t0, t1, t2, t3, t4⟩, j0, j1, j2, j3, j4⟩ := five_cells rz10
      have nPr : (Value.slice aA h.said.length kA).ownBlock ≠ some (w.heap.size + 1 + 1) := fun e => by have := (P10.lt _ e).1; omega
      have RF := (five_set4 (five_set3 (five_set2 (five_set1 (five_set0 rz10 (.slice aC (viewL h).length kC)) (.int .i64 (-1))) (.int .i64 h.born)) (.slice aA h.said.length kA)) (.int .i64 h.code))
      have BF := (((((B10w.setCell (p := ⟨w.heap.size + 1 + 1, 0, none⟩) hz2 (.slice aC (viewL h).length kC)).setCell (p := ⟨w.heap.size + 1 + 1, 1, none⟩) hz2 (.int .i64 (-1))).setCell (p := ⟨w.heap.size + 1 + 1, 2, none⟩) hz2 (.int .i64 h.born)).setCell (p := ⟨w.heap.size + 1 + 1, 3, none⟩) hz2 (.slice aA h.said.length kA)).setCell (p := ⟨w.heap.size + 1 + 1, 4, none⟩) hz2 (.int .i64 h.code))
      have PF := PairRow.mono (B' := w.heap.size) (((((P10.set_other (p := ⟨w.heap.size + 1 + 1, 0, none⟩) (.slice aC (viewL h).length kC) nPr).set_other (p := ⟨w.heap.size + 1 + 1, 1, none⟩) (.int .i64 (-1)) nPr).set_other (p := ⟨w.heap.size + 1 + 1, 2, none⟩) (.int .i64 h.born) nPr).set_other (p := ⟨w.heap.size + 1 + 1, 3, none⟩) (.slice aA h.said.length kA) nPr).set_other (p := ⟨w.heap.size + 1 + 1, 4, none⟩) (.int .i64 h.code) nPr) (by omega)
      have OF := OwnCalls.mono (O10.kept (w' := (((((w10.setCell ⟨w.heap.size + 1 + 1, 0, none⟩ (.slice aC (viewL h).length kC)).setCell ⟨w.heap.size + 1 + 1, 1, none⟩ (.int .i64 (-1))).setCell ⟨w.heap.size + 1 + 1, 2, none⟩ (.int .i64 h.born)).setCell ⟨w.heap.size + 1 + 1, 3, none⟩ (.slice aA h.said.length kA)).setCell ⟨w.heap.size + 1 + 1, 4, none⟩ (.int .i64 h.code))) (by simp [World.setCell]) (fun g e => by
        have hne : g ≠ w.heap.size + 1 + 1 := by have := (O10.lt e).1; omega
        rw [Below.heap_setCell _ _ _ _ hne, Below.heap_setCell _ _ _ _ hne, Below.heap_setCell _ _ _ _ hne, Below.heap_setCell _ _ _ _ hne, Below.heap_setCell _ _ _ _ hne])) (B' := w.heap.size) (by omega)
      have hapF : ∀ g, (Value.slice aA h.said.length kA).ownBlock = some g → ¬ CallBlocks (.slice aC (viewL h).length kC) (viewL h).length VC g := fun g e e2 => by have h1 := (P10.lt g e).1; have h2 := hcs g e2; omega
      go_wp2
      generalize (((((w10.setCell ⟨w.heap.size + 1 + 1, 0, none⟩ (.slice aC (viewL h).length kC)).setCell ⟨w.heap.size + 1 + 1, 1, none⟩ (.int .i64 (-1))).setCell ⟨w.heap.size + 1 + 1, 2, none⟩ (.int .i64 h.born)).setCell ⟨w.heap.size + 1 + 1, 3, none⟩ (.slice aA h.said.length kA)).setCell ⟨w.heap.size + 1 + 1, 4, none⟩ (.int .i64 h.code)) = WF at *
      obtain ⟨⟨q0, q1, q2, q3, q4⟩, _⟩ := five_cells RF
      exact bodyPost_ret (v := .tuple #[.agg #[.slice aC (viewL h).length kC, .int .i64 (-1), .int .i64 h.born, .slice aA h.said.length kA, .int .i64 h.code], .bool true]) (by simp [results, Try.results6, go_sem, q0, q1, q2, q3, q4]) rfl ⟨BF, .slice aC (viewL h).length kC, .slice aA h.said.length kA, VC, by rw [hT.out, hok], by rw [hT.out]; exact ⟨OF, PF, hapF⟩⟩
    · have hT : Hid (trimH ms h = ⟨viewL h, 0, h.born, h.said, h.code⟩) := by show trimH ms h = _; unfold trimH; rw [if_pos hok, if_neg hnow]
      have r10 := five_set1 r9 (.int .i64 0)
      have B10 := B9.setCell (p := ⟨ob, 1, none⟩) hob (.int .i64 0)
      have P10 := P9.set_other (p := ⟨ob, 1, none⟩) (.int .i64 0) nP
      have O10 : OwnCalls w1.heap.size (w9.setCell ⟨ob, 1, none⟩ (.int .i64 0)) (.slice aC (viewL h).length kC) (viewL h) VC := O9.kept (by simp [World.setCell]) (fun g e => Below.heap_setCell _ _ _ _ (fun q => nO (by have q' : g = ob := q; rw [← q']; exact e)))
      go_upto_region 6 with fail
      generalize w9.setCell ⟨ob, 1, none⟩ (.int .i64 0) = w10 at *
      clear r9 B9 P9 O9 x0' x1' x2' x3' x4' y0 y1' y2 y3 y4 e0 e1 e2 e3 e4
      have rz10 := row_below B10 bz1
      have B10w := B1.trans (B10.mono z1)
      obtain ⟨⟨k0, k1, k2, k3, k4⟩, kf⟩ := five_cells r10
      obtain ⟨⟨t0, t1, t2, t3, t4⟩, j0, j1, j2, j3, j4⟩ := five_cells rz10
      have nPr : (Value.slice aA h.said.length kA).ownBlock ≠ some (w.heap.size + 1 + 1) := fun e => by have := (P10.lt _ e).1; omega
      have RF := (five_set4 (five_set3 (five_set2 (five_set1 (five_set0 rz10 (.slice aC (viewL h).length kC)) (.int .i64 (0))) (.int .i64 h.born)) (.slice aA h.said.length kA)) (.int .i64 h.code))
      have BF := (((((B10w.setCell (p := ⟨w.heap.size + 1 + 1, 0, none⟩) hz2 (.slice aC (viewL h).length kC)).setCell (p := ⟨w.heap.size + 1 + 1, 1, none⟩) hz2 (.int .i64 (0))).setCell (p := ⟨w.heap.size + 1 + 1, 2, none⟩) hz2 (.int .i64 h.born)).setCell (p := ⟨w.heap.size + 1 + 1, 3, none⟩) hz2 (.slice aA h.said.length kA)).setCell (p := ⟨w.heap.size + 1 + 1, 4, none⟩) hz2 (.int .i64 h.code))
      have PF := PairRow.mono (B' := w.heap.size) (((((P10.set_other (p := ⟨w.heap.size + 1 + 1, 0, none⟩) (.slice aC (viewL h).length kC) nPr).set_other (p := ⟨w.heap.size + 1 + 1, 1, none⟩) (.int .i64 (0)) nPr).set_other (p := ⟨w.heap.size + 1 + 1, 2, none⟩) (.int .i64 h.born) nPr).set_other (p := ⟨w.heap.size + 1 + 1, 3, none⟩) (.slice aA h.said.length kA) nPr).set_other (p := ⟨w.heap.size + 1 + 1, 4, none⟩) (.int .i64 h.code) nPr) (by omega)
      have OF := OwnCalls.mono (O10.kept (w' := (((((w10.setCell ⟨w.heap.size + 1 + 1, 0, none⟩ (.slice aC (viewL h).length kC)).setCell ⟨w.heap.size + 1 + 1, 1, none⟩ (.int .i64 (0))).setCell ⟨w.heap.size + 1 + 1, 2, none⟩ (.int .i64 h.born)).setCell ⟨w.heap.size + 1 + 1, 3, none⟩ (.slice aA h.said.length kA)).setCell ⟨w.heap.size + 1 + 1, 4, none⟩ (.int .i64 h.code))) (by simp [World.setCell]) (fun g e => by
        have hne : g ≠ w.heap.size + 1 + 1 := by have := (O10.lt e).1; omega
        rw [Below.heap_setCell _ _ _ _ hne, Below.heap_setCell _ _ _ _ hne, Below.heap_setCell _ _ _ _ hne, Below.heap_setCell _ _ _ _ hne, Below.heap_setCell _ _ _ _ hne])) (B' := w.heap.size) (by omega)
      have hapF : ∀ g, (Value.slice aA h.said.length kA).ownBlock = some g → ¬ CallBlocks (.slice aC (viewL h).length kC) (viewL h).length VC g := fun g e e2 => by have h1 := (P10.lt g e).1; have h2 := hcs g e2; omega
      go_wp2
      generalize (((((w10.setCell ⟨w.heap.size + 1 + 1, 0, none⟩ (.slice aC (viewL h).length kC)).setCell ⟨w.heap.size + 1 + 1, 1, none⟩ (.int .i64 (0))).setCell ⟨w.heap.size + 1 + 1, 2, none⟩ (.int .i64 h.born)).setCell ⟨w.heap.size + 1 + 1, 3, none⟩ (.slice aA h.said.length kA)).setCell ⟨w.heap.size + 1 + 1, 4, none⟩ (.int .i64 h.code)) = WF at *
      obtain ⟨⟨q0, q1, q2, q3, q4⟩, _⟩ := five_cells RF
      exact bodyPost_ret (v := .tuple #[.agg #[.slice aC (viewL h).length kC, .int .i64 (0), .int .i64 h.born, .slice aA h.said.length kA, .int .i64 h.code], .bool true]) (by simp [results, Try.results6, go_sem, q0, q1, q2, q3, q4]) rfl ⟨BF, .slice aC (viewL h).length kC, .slice aA h.said.length kA, VC, by rw [hT.out, hok], by rw [hT.out]; exact ⟨OF, PF, hapF⟩⟩
  · have hBw : w1.drew.heap.size = w1.heap.size := rfl
    rw [hBw] at hOC
    have hZz : (wC.alloc (.cells #[.slice none 0 0, .int .i64 0, .int .i64 0, .slice none 0 0, .int .i64 0] 29)).heap.size = wC.heap.size + 1 := by simp
    have NZ := (Below.refl wC.heap.size wC).alloc (Nat.le_refl _) (.cells #[.slice none 0 0, .int .i64 0, .int .i64 0, .slice none 0 0, .int .i64 0] 29)
    have OA := (hOC.below NZ).below hbA
    have PA := hrowA.mono (B' := wC.heap.size) (by omega)
    have hob : w1.heap.size ≤ wC.heap.size := hzC
    have nO : ¬ CallBlocks (.slice aC (viewL h).length kC) (viewL h).length VC wC.heap.size := fun e => by have := (hOC.lt e).2; omega
    have nP : (Value.slice aA h.said.length kA).ownBlock ≠ some wC.heap.size := fun e => by have := (hrowA.lt _ e).1; omega
    have hcs : ∀ g, CallBlocks (.slice aC (viewL h).length kC) (viewL h).length VC g → g < wC.heap.size := fun g e => (hOC.lt e).2
    have r9 := (five_set4 (five_set3 (five_set2 (five_set1 (five_set0 rZ (.slice aC (viewL h).length kC)) (.int .i64 (-1))) (.int .i64 h.born)) (.slice aA h.said.length kA)) (.int .i64 h.code))
    have B9 := (((((hBA.setCell (p := ⟨wC.heap.size, 0, none⟩) hob (.slice aC (viewL h).length kC)).setCell (p := ⟨wC.heap.size, 1, none⟩) hob (.int .i64 (-1))).setCell (p := ⟨wC.heap.size, 2, none⟩) hob (.int .i64 h.born)).setCell (p := ⟨wC.heap.size, 3, none⟩) hob (.slice aA h.said.length kA)).setCell (p := ⟨wC.heap.size, 4, none⟩) hob (.int .i64 h.code))
    have P9 := (((((PA.set_other (p := ⟨wC.heap.size, 0, none⟩) (.slice aC (viewL h).length kC) nP).set_other (p := ⟨wC.heap.size, 1, none⟩) (.int .i64 (-1)) nP).set_other (p := ⟨wC.heap.size, 2, none⟩) (.int .i64 h.born) nP).set_other (p := ⟨wC.heap.size, 3, none⟩) (.slice aA h.said.length kA) nP).set_other (p := ⟨wC.heap.size, 4, none⟩) (.int .i64 h.code) nP)
    have O9 := OwnCalls.mono (OA.kept (w' := (((((wA.setCell ⟨wC.heap.size, 0, none⟩ (.slice aC (viewL h).length kC)).setCell ⟨wC.heap.size, 1, none⟩ (.int .i64 (-1))).setCell ⟨wC.heap.size, 2, none⟩ (.int .i64 h.born)).setCell ⟨wC.heap.size, 3, none⟩ (.slice aA h.said.length kA)).setCell ⟨wC.heap.size, 4, none⟩ (.int .i64 h.code))) (by simp [World.setCell]) (fun g e => by
      have hne : g ≠ wC.heap.size := fun q => nO (by rw [← q]; exact e)
      rw [Below.heap_setCell _ _ _ _ hne, Below.heap_setCell _ _ _ _ hne, Below.heap_setCell _ _ _ _ hne, Below.heap_setCell _ _ _ _ hne, Below.heap_setCell _ _ _ _ hne])) (B' := w1.heap.size) (by omega)
    clear n0 n1 n2 n3 n4 l0 l1 l2 l3 l4 rZ HS8 OA PA hOC hrowA hbA hBA hbC hBC
    generalize (((((wA.setCell ⟨wC.heap.size, 0, none⟩ (.slice aC (viewL h).length kC)).setCell ⟨wC.heap.size, 1, none⟩ (.int .i64 (-1))).setCell ⟨wC.heap.size, 2, none⟩ (.int .i64 h.born)).setCell ⟨wC.heap.size, 3, none⟩ (.slice aA h.said.length kA)).setCell ⟨wC.heap.size, 4, none⟩ (.int .i64 h.code)) = w9 at *
    generalize hobe : wC.heap.size = ob at r9 nO nP ⊢
    have hob2 : w1.heap.size ≤ ob := by omega
    clear hob hobe
    have hob := hob2
    clear hob2
    obtain ⟨⟨x0', x1', x2', x3', x4'⟩, xf⟩ := five_cells (row_below B9 bh1)
    obtain ⟨⟨y0, y1', y2, y3, y4⟩, e0, e1, e2, e3, e4⟩ := five_cells r9
    clear xf x0 x1 x2 x3 x4
    by_cases hnow : h.now = -1
    · have hT : Hid (trimH ms h = ⟨viewL h, -1, h.born, h.said, h.code⟩) := by show trimH ms h = _; unfold trimH; rw [if_pos hok, if_pos hnow]
      rw [hnow] at x1'
      have r10 := r9
      have B10 := B9
      have P10 := P9
      have O10 := O9
      clear r9 B9 P9 O9
      go_upto_region 6 with fail
      generalize w9 = w10 at *
      clear x0' x1' x2' x3' x4' y0 y1' y2 y3 y4 e0 e1 e2 e3 e4
      have rz10 := row_below B10 bz1
      have B10w := B1.trans (B10.mono z1)
      obtain ⟨⟨k0, k1, k2, k3, k4⟩, kf⟩ := five_cells r10
      obtain ⟨⟨t0, t1, t2, t3, t4⟩, j0, j1, j2, j3, j4⟩ := five_cells rz10
      have nPr : (Value.slice aA h.said.length kA).ownBlock ≠ some (w.heap.size + 1 + 1) := fun e => by have := (P10.lt _ e).1; omega
      have RF := (five_set4 (five_set3 (five_set2 (five_set1 (five_set0 rz10 (.slice aC (viewL h).length kC)) (.int .i64 (-1))) (.int .i64 h.born)) (.slice aA h.said.length kA)) (.int .i64 h.code))
      have BF := (((((B10w.setCell (p := ⟨w.heap.size + 1 + 1, 0, none⟩) hz2 (.slice aC (viewL h).length kC)).setCell (p := ⟨w.heap.size + 1 + 1, 1, none⟩) hz2 (.int .i64 (-1))).setCell (p := ⟨w.heap.size + 1 + 1, 2, none⟩) hz2 (.int .i64 h.born)).setCell (p := ⟨w.heap.size + 1 + 1, 3, none⟩) hz2 (.slice aA h.said.length kA)).setCell (p := ⟨w.heap.size + 1 + 1, 4, none⟩) hz2 (.int .i64 h.code))
      have PF := PairRow.mono (B' := w.heap.size) (((((P10.set_other (p := ⟨w.heap.size + 1 + 1, 0, none⟩) (.slice aC (viewL h).length kC) nPr).set_other (p := ⟨w.heap.size + 1 + 1, 1, none⟩) (.int .i64 (-1)) nPr).set_other (p := ⟨w.heap.size + 1 + 1, 2, none⟩) (.int .i64 h.born) nPr).set_other (p := ⟨w.heap.size + 1 + 1, 3, none⟩) (.slice aA h.said.length kA) nPr).set_other (p := ⟨w.heap.size + 1 + 1, 4, none⟩) (.int .i64 h.code) nPr) (by omega)
      have OF := OwnCalls.mono (O10.kept (w' := (((((w10.setCell ⟨w.heap.size + 1 + 1, 0, none⟩ (.slice aC (viewL h).length kC)).setCell ⟨w.heap.size + 1 + 1, 1, none⟩ (.int .i64 (-1))).setCell ⟨w.heap.size + 1 + 1, 2, none⟩ (.int .i64 h.born)).setCell ⟨w.heap.size + 1 + 1, 3, none⟩ (.slice aA h.said.length kA)).setCell ⟨w.heap.size + 1 + 1, 4, none⟩ (.int .i64 h.code))) (by simp [World.setCell]) (fun g e => by
        have hne : g ≠ w.heap.size + 1 + 1 := by have := (O10.lt e).1; omega
        rw [Below.heap_setCell _ _ _ _ hne, Below.heap_setCell _ _ _ _ hne, Below.heap_setCell _ _ _ _ hne, Below.heap_setCell _ _ _ _ hne, Below.heap_setCell _ _ _ _ hne])) (B' := w.heap.size) (by omega)
      have hapF : ∀ g, (Value.slice aA h.said.length kA).ownBlock = some g → ¬ CallBlocks (.slice aC (viewL h).length kC) (viewL h).length VC g := fun g e e2 => by have h1 := (P10.lt g e).1; have h2 := hcs g e2; omega
      go_wp2
      generalize (((((w10.setCell ⟨w.heap.size + 1 + 1, 0, none⟩ (.slice aC (viewL h).length kC)).setCell ⟨w.heap.size + 1 + 1, 1, none⟩ (.int .i64 (-1))).setCell ⟨w.heap.size + 1 + 1, 2, none⟩ (.int .i64 h.born)).setCell ⟨w.heap.size + 1 + 1, 3, none⟩ (.slice aA h.said.length kA)).setCell ⟨w.heap.size + 1 + 1, 4, none⟩ (.int .i64 h.code)) = WF at *
      obtain ⟨⟨q0, q1, q2, q3, q4⟩, _⟩ := five_cells RF
      exact bodyPost_ret (v := .tuple #[.agg #[.slice aC (viewL h).length kC, .int .i64 (-1), .int .i64 h.born, .slice aA h.said.length kA, .int .i64 h.code], .bool true]) (by simp [results, Try.results6, go_sem, q0, q1, q2, q3, q4]) rfl ⟨BF, .slice aC (viewL h).length kC, .slice aA h.said.length kA, VC, by rw [hT.out, hok], by rw [hT.out]; exact ⟨OF, PF, hapF⟩⟩
    · have hT : Hid (trimH ms h = ⟨viewL h, 0, h.born, h.said, h.code⟩) := by show trimH ms h = _; unfold trimH; rw [if_pos hok, if_neg hnow]
      have r10 := five_set1 r9 (.int .i64 0)
      have B10 := B9.setCell (p := ⟨ob, 1, none⟩) hob (.int .i64 0)
      have P10 := P9.set_other (p := ⟨ob, 1, none⟩) (.int .i64 0) nP
      have O10 : OwnCalls w1.heap.size (w9.setCell ⟨ob, 1, none⟩ (.int .i64 0)) (.slice aC (viewL h).length kC) (viewL h) VC := O9.kept (by simp [World.setCell]) (fun g e => Below.heap_setCell _ _ _ _ (fun q => nO (by have q' : g = ob := q; rw [← q']; exact e)))
      go_upto_region 6 with fail
      generalize w9.setCell ⟨ob, 1, none⟩ (.int .i64 0) = w10 at *
      clear r9 B9 P9 O9 x0' x1' x2' x3' x4' y0 y1' y2 y3 y4 e0 e1 e2 e3 e4
      have rz10 := row_below B10 bz1
      have B10w := B1.trans (B10.mono z1)
      obtain ⟨⟨k0, k1, k2, k3, k4⟩, kf⟩ := five_cells r10
      obtain ⟨⟨t0, t1, t2, t3, t4⟩, j0, j1, j2, j3, j4⟩ := five_cells rz10
      have nPr : (Value.slice aA h.said.length kA).ownBlock ≠ some (w.heap.size + 1 + 1) := fun e => by have := (P10.lt _ e).1; omega
      have RF := (five_set4 (five_set3 (five_set2 (five_set1 (five_set0 rz10 (.slice aC (viewL h).length kC)) (.int .i64 (0))) (.int .i64 h.born)) (.slice aA h.said.length kA)) (.int .i64 h.code))
      have BF := (((((B10w.setCell (p := ⟨w.heap.size + 1 + 1, 0, none⟩) hz2 (.slice aC (viewL h).length kC)).setCell (p := ⟨w.heap.size + 1 + 1, 1, none⟩) hz2 (.int .i64 (0))).setCell (p := ⟨w.heap.size + 1 + 1, 2, none⟩) hz2 (.int .i64 h.born)).setCell (p := ⟨w.heap.size + 1 + 1, 3, none⟩) hz2 (.slice aA h.said.length kA)).setCell (p := ⟨w.heap.size + 1 + 1, 4, none⟩) hz2 (.int .i64 h.code))
      have PF := PairRow.mono (B' := w.heap.size) (((((P10.set_other (p := ⟨w.heap.size + 1 + 1, 0, none⟩) (.slice aC (viewL h).length kC) nPr).set_other (p := ⟨w.heap.size + 1 + 1, 1, none⟩) (.int .i64 (0)) nPr).set_other (p := ⟨w.heap.size + 1 + 1, 2, none⟩) (.int .i64 h.born) nPr).set_other (p := ⟨w.heap.size + 1 + 1, 3, none⟩) (.slice aA h.said.length kA) nPr).set_other (p := ⟨w.heap.size + 1 + 1, 4, none⟩) (.int .i64 h.code) nPr) (by omega)
      have OF := OwnCalls.mono (O10.kept (w' := (((((w10.setCell ⟨w.heap.size + 1 + 1, 0, none⟩ (.slice aC (viewL h).length kC)).setCell ⟨w.heap.size + 1 + 1, 1, none⟩ (.int .i64 (0))).setCell ⟨w.heap.size + 1 + 1, 2, none⟩ (.int .i64 h.born)).setCell ⟨w.heap.size + 1 + 1, 3, none⟩ (.slice aA h.said.length kA)).setCell ⟨w.heap.size + 1 + 1, 4, none⟩ (.int .i64 h.code))) (by simp [World.setCell]) (fun g e => by
        have hne : g ≠ w.heap.size + 1 + 1 := by have := (O10.lt e).1; omega
        rw [Below.heap_setCell _ _ _ _ hne, Below.heap_setCell _ _ _ _ hne, Below.heap_setCell _ _ _ _ hne, Below.heap_setCell _ _ _ _ hne, Below.heap_setCell _ _ _ _ hne])) (B' := w.heap.size) (by omega)
      have hapF : ∀ g, (Value.slice aA h.said.length kA).ownBlock = some g → ¬ CallBlocks (.slice aC (viewL h).length kC) (viewL h).length VC g := fun g e e2 => by have h1 := (P10.lt g e).1; have h2 := hcs g e2; omega
      go_wp2
      generalize (((((w10.setCell ⟨w.heap.size + 1 + 1, 0, none⟩ (.slice aC (viewL h).length kC)).setCell ⟨w.heap.size + 1 + 1, 1, none⟩ (.int .i64 (0))).setCell ⟨w.heap.size + 1 + 1, 2, none⟩ (.int .i64 h.born)).setCell ⟨w.heap.size + 1 + 1, 3, none⟩ (.slice aA h.said.length kA)).setCell ⟨w.heap.size + 1 + 1, 4, none⟩ (.int .i64 h.code)) = WF at *
      obtain ⟨⟨q0, q1, q2, q3, q4⟩, _⟩ := five_cells RF
      exact bodyPost_ret (v := .tuple #[.agg #[.slice aC (viewL h).length kC, .int .i64 (0), .int .i64 h.born, .slice aA h.said.length kA, .int .i64 h.code], .bool true]) (by simp [results, Try.results6, go_sem, q0, q1, q2, q3, q4]) rfl ⟨BF, .slice aC (viewL h).length kC, .slice aA h.said.length kA, VC, by rw [hT.out, hok], by rw [hT.out]; exact ⟨OF, PF, hapF⟩⟩
  · have hBw : (w1.alloc (.cells #[.slice none 0 0, .int .i64 0, .int .i64 0, .slice none 0 0, .int .i64 0] 29)).drew.heap.size = w1.heap.size + 1 := by show (w1.alloc _).heap.size = _; simp
    rw [hBw] at hOC
    have OA := hOC.below hbA
    have PA := hrowA
    have hob : w1.heap.size ≤ w1.heap.size := Nat.le_refl _
    have nO : ¬ CallBlocks (.slice aC (viewL h).length kC) (viewL h).length VC w1.heap.size := fun e => by have := (hOC.lt e).1; omega
    have nP : (Value.slice aA h.said.length kA).ownBlock ≠ some w1.heap.size := fun e => by have h1 := (hrowA.lt _ e).1; have h2 := rC.lt; omega
    have hcs : ∀ g, CallBlocks (.slice aC (viewL h).length kC) (viewL h).length VC g → g < wC.heap.size := fun g e => (hOC.lt e).2
    have r9 := (five_set4 (five_set3 (five_set2 (five_set1 (five_set0 rZ (.slice aC (viewL h).length kC)) (.int .i64 (-1))) (.int .i64 h.born)) (.slice aA h.said.length kA)) (.int .i64 h.code))
    have B9 := (((((hBA.setCell (p := ⟨w1.heap.size, 0, none⟩) hob (.slice aC (viewL h).length kC)).setCell (p := ⟨w1.heap.size, 1, none⟩) hob (.int .i64 (-1))).setCell (p := ⟨w1.heap.size, 2, none⟩) hob (.int .i64 h.born)).setCell (p := ⟨w1.heap.size, 3, none⟩) hob (.slice aA h.said.length kA)).setCell (p := ⟨w1.heap.size, 4, none⟩) hob (.int .i64 h.code))
    have P9 := (((((PA.set_other (p := ⟨w1.heap.size, 0, none⟩) (.slice aC (viewL h).length kC) nP).set_other (p := ⟨w1.heap.size, 1, none⟩) (.int .i64 (-1)) nP).set_other (p := ⟨w1.heap.size, 2, none⟩) (.int .i64 h.born) nP).set_other (p := ⟨w1.heap.size, 3, none⟩) (.slice aA h.said.length kA) nP).set_other (p := ⟨w1.heap.size, 4, none⟩) (.int .i64 h.code) nP)
    have O9 := OwnCalls.mono (OA.kept (w' := (((((wA.setCell ⟨w1.heap.size, 0, none⟩ (.slice aC (viewL h).length kC)).setCell ⟨w1.heap.size, 1, none⟩ (.int .i64 (-1))).setCell ⟨w1.heap.size, 2, none⟩ (.int .i64 h.born)).setCell ⟨w1.heap.size, 3, none⟩ (.slice aA h.said.length kA)).setCell ⟨w1.heap.size, 4, none⟩ (.int .i64 h.code))) (by simp [World.setCell]) (fun g e => by
      have hne : g ≠ w1.heap.size := fun q => nO (by rw [← q]; exact e)
      rw [Below.heap_setCell _ _ _ _ hne, Below.heap_setCell _ _ _ _ hne, Below.heap_setCell _ _ _ _ hne, Below.heap_setCell _ _ _ _ hne, Below.heap_setCell _ _ _ _ hne])) (B' := w1.heap.size) (by omega)
    clear n0 n1 n2 n3 n4 l0 l1 l2 l3 l4 rZ HS8 OA PA hOC hrowA hbA hBA hbC hBC
    generalize (((((wA.setCell ⟨w1.heap.size, 0, none⟩ (.slice aC (viewL h).length kC)).setCell ⟨w1.heap.size, 1, none⟩ (.int .i64 (-1))).setCell ⟨w1.heap.size, 2, none⟩ (.int .i64 h.born)).setCell ⟨w1.heap.size, 3, none⟩ (.slice aA h.said.length kA)).setCell ⟨w1.heap.size, 4, none⟩ (.int .i64 h.code)) = w9 at *
    generalize hobe : w1.heap.size = ob at r9 nO nP ⊢
    have hob2 : w1.heap.size ≤ ob := by omega
    clear hob hobe
    have hob := hob2
    clear hob2
    obtain ⟨⟨x0', x1', x2', x3', x4'⟩, xf⟩ := five_cells (row_below B9 bh1)
    obtain ⟨⟨y0, y1', y2, y3, y4⟩, e0, e1, e2, e3, e4⟩ := five_cells r9
    clear xf x0 x1 x2 x3 x4
    by_cases hnow : h.now = -1
    · have hT : Hid (trimH ms h = ⟨viewL h, -1, h.born, h.said, h.code⟩) := by show trimH ms h = _; unfold trimH; rw [if_pos hok, if_pos hnow]
      rw [hnow] at x1'
      have r10 := r9
      have B10 := B9
      have P10 := P9
      have O10 := O9
      clear r9 B9 P9 O9
      go_upto_region 6 with fail
      generalize w9 = w10 at *
      clear x0' x1' x2' x3' x4' y0 y1' y2 y3 y4 e0 e1 e2 e3 e4
      have rz10 := row_below B10 bz1
      have B10w := B1.trans (B10.mono z1)
      obtain ⟨⟨k0, k1, k2, k3, k4⟩, kf⟩ := five_cells r10
      obtain ⟨⟨t0, t1, t2, t3, t4⟩, j0, j1, j2, j3, j4⟩ := five_cells rz10
      have nPr : (Value.slice aA h.said.length kA).ownBlock ≠ some (w.heap.size + 1 + 1) := fun e => by have := (P10.lt _ e).1; omega
      have RF := (five_set4 (five_set3 (five_set2 (five_set1 (five_set0 rz10 (.slice aC (viewL h).length kC)) (.int .i64 (-1))) (.int .i64 h.born)) (.slice aA h.said.length kA)) (.int .i64 h.code))
      have BF := (((((B10w.setCell (p := ⟨w.heap.size + 1 + 1, 0, none⟩) hz2 (.slice aC (viewL h).length kC)).setCell (p := ⟨w.heap.size + 1 + 1, 1, none⟩) hz2 (.int .i64 (-1))).setCell (p := ⟨w.heap.size + 1 + 1, 2, none⟩) hz2 (.int .i64 h.born)).setCell (p := ⟨w.heap.size + 1 + 1, 3, none⟩) hz2 (.slice aA h.said.length kA)).setCell (p := ⟨w.heap.size + 1 + 1, 4, none⟩) hz2 (.int .i64 h.code))
      have PF := PairRow.mono (B' := w.heap.size) (((((P10.set_other (p := ⟨w.heap.size + 1 + 1, 0, none⟩) (.slice aC (viewL h).length kC) nPr).set_other (p := ⟨w.heap.size + 1 + 1, 1, none⟩) (.int .i64 (-1)) nPr).set_other (p := ⟨w.heap.size + 1 + 1, 2, none⟩) (.int .i64 h.born) nPr).set_other (p := ⟨w.heap.size + 1 + 1, 3, none⟩) (.slice aA h.said.length kA) nPr).set_other (p := ⟨w.heap.size + 1 + 1, 4, none⟩) (.int .i64 h.code) nPr) (by omega)
      have OF := OwnCalls.mono (O10.kept (w' := (((((w10.setCell ⟨w.heap.size + 1 + 1, 0, none⟩ (.slice aC (viewL h).length kC)).setCell ⟨w.heap.size + 1 + 1, 1, none⟩ (.int .i64 (-1))).setCell ⟨w.heap.size + 1 + 1, 2, none⟩ (.int .i64 h.born)).setCell ⟨w.heap.size + 1 + 1, 3, none⟩ (.slice aA h.said.length kA)).setCell ⟨w.heap.size + 1 + 1, 4, none⟩ (.int .i64 h.code))) (by simp [World.setCell]) (fun g e => by
        have hne : g ≠ w.heap.size + 1 + 1 := by have := (O10.lt e).1; omega
        rw [Below.heap_setCell _ _ _ _ hne, Below.heap_setCell _ _ _ _ hne, Below.heap_setCell _ _ _ _ hne, Below.heap_setCell _ _ _ _ hne, Below.heap_setCell _ _ _ _ hne])) (B' := w.heap.size) (by omega)
      have hapF : ∀ g, (Value.slice aA h.said.length kA).ownBlock = some g → ¬ CallBlocks (.slice aC (viewL h).length kC) (viewL h).length VC g := fun g e e2 => by have h1 := (P10.lt g e).1; have h2 := hcs g e2; omega
      go_wp2
      generalize (((((w10.setCell ⟨w.heap.size + 1 + 1, 0, none⟩ (.slice aC (viewL h).length kC)).setCell ⟨w.heap.size + 1 + 1, 1, none⟩ (.int .i64 (-1))).setCell ⟨w.heap.size + 1 + 1, 2, none⟩ (.int .i64 h.born)).setCell ⟨w.heap.size + 1 + 1, 3, none⟩ (.slice aA h.said.length kA)).setCell ⟨w.heap.size + 1 + 1, 4, none⟩ (.int .i64 h.code)) = WF at *
      obtain ⟨⟨q0, q1, q2, q3, q4⟩, _⟩ := five_cells RF
      exact bodyPost_ret (v := .tuple #[.agg #[.slice aC (viewL h).length kC, .int .i64 (-1), .int .i64 h.born, .slice aA h.said.length kA, .int .i64 h.code], .bool true]) (by simp [results, Try.results6, go_sem, q0, q1, q2, q3, q4]) rfl ⟨BF, .slice aC (viewL h).length kC, .slice aA h.said.length kA, VC, by rw [hT.out, hok], by rw [hT.out]; exact ⟨OF, PF, hapF⟩⟩
    · have hT : Hid (trimH ms h = ⟨viewL h, 0, h.born, h.said, h.code⟩) := by show trimH ms h = _; unfold trimH; rw [if_pos hok, if_neg hnow]
      have r10 := five_set1 r9 (.int .i64 0)
      have B10 := B9.setCell (p := ⟨ob, 1, none⟩) hob (.int .i64 0)
      have P10 := P9.set_other (p := ⟨ob, 1, none⟩) (.int .i64 0) nP
      have O10 : OwnCalls w1.heap.size (w9.setCell ⟨ob, 1, none⟩ (.int .i64 0)) (.slice aC (viewL h).length kC) (viewL h) VC := O9.kept (by simp [World.setCell]) (fun g e => Below.heap_setCell _ _ _ _ (fun q => nO (by have q' : g = ob := q; rw [← q']; exact e)))
      go_upto_region 6 with fail
      generalize w9.setCell ⟨ob, 1, none⟩ (.int .i64 0) = w10 at *
      clear r9 B9 P9 O9 x0' x1' x2' x3' x4' y0 y1' y2 y3 y4 e0 e1 e2 e3 e4
      have rz10 := row_below B10 bz1
      have B10w := B1.trans (B10.mono z1)
      obtain ⟨⟨k0, k1, k2, k3, k4⟩, kf⟩ := five_cells r10
      obtain ⟨⟨t0, t1, t2, t3, t4⟩, j0, j1, j2, j3, j4⟩ := five_cells rz10
      have nPr : (Value.slice aA h.said.length kA).ownBlock ≠ some (w.heap.size + 1 + 1) := fun e => by have := (P10.lt _ e).1; omega
      have RF := (five_set4 (five_set3 (five_set2 (five_set1 (five_set0 rz10 (.slice aC (viewL h).length kC)) (.int .i64 (0))) (.int .i64 h.born)) (.slice aA h.said.length kA)) (.int .i64 h.code))
      have BF := (((((B10w.setCell (p := ⟨w.heap.size + 1 + 1, 0, none⟩) hz2 (.slice aC (viewL h).length kC)).setCell (p := ⟨w.heap.size + 1 + 1, 1, none⟩) hz2 (.int .i64 (0))).setCell (p := ⟨w.heap.size + 1 + 1, 2, none⟩) hz2 (.int .i64 h.born)).setCell (p := ⟨w.heap.size + 1 + 1, 3, none⟩) hz2 (.slice aA h.said.length kA)).setCell (p := ⟨w.heap.size + 1 + 1, 4, none⟩) hz2 (.int .i64 h.code))
      have PF := PairRow.mono (B' := w.heap.size) (((((P10.set_other (p := ⟨w.heap.size + 1 + 1, 0, none⟩) (.slice aC (viewL h).length kC) nPr).set_other (p := ⟨w.heap.size + 1 + 1, 1, none⟩) (.int .i64 (0)) nPr).set_other (p := ⟨w.heap.size + 1 + 1, 2, none⟩) (.int .i64 h.born) nPr).set_other (p := ⟨w.heap.size + 1 + 1, 3, none⟩) (.slice aA h.said.length kA) nPr).set_other (p := ⟨w.heap.size + 1 + 1, 4, none⟩) (.int .i64 h.code) nPr) (by omega)
      have OF := OwnCalls.mono (O10.kept (w' := (((((w10.setCell ⟨w.heap.size + 1 + 1, 0, none⟩ (.slice aC (viewL h).length kC)).setCell ⟨w.heap.size + 1 + 1, 1, none⟩ (.int .i64 (0))).setCell ⟨w.heap.size + 1 + 1, 2, none⟩ (.int .i64 h.born)).setCell ⟨w.heap.size + 1 + 1, 3, none⟩ (.slice aA h.said.length kA)).setCell ⟨w.heap.size + 1 + 1, 4, none⟩ (.int .i64 h.code))) (by simp [World.setCell]) (fun g e => by
        have hne : g ≠ w.heap.size + 1 + 1 := by have := (O10.lt e).1; omega
        rw [Below.heap_setCell _ _ _ _ hne, Below.heap_setCell _ _ _ _ hne, Below.heap_setCell _ _ _ _ hne, Below.heap_setCell _ _ _ _ hne, Below.heap_setCell _ _ _ _ hne])) (B' := w.heap.size) (by omega)
      have hapF : ∀ g, (Value.slice aA h.said.length kA).ownBlock = some g → ¬ CallBlocks (.slice aC (viewL h).length kC) (viewL h).length VC g := fun g e e2 => by have h1 := (P10.lt g e).1; have h2 := hcs g e2; omega
      go_wp2
      generalize (((((w10.setCell ⟨w.heap.size + 1 + 1, 0, none⟩ (.slice aC (viewL h).length kC)).setCell ⟨w.heap.size + 1 + 1, 1, none⟩ (.int .i64 (0))).setCell ⟨w.heap.size + 1 + 1, 2, none⟩ (.int .i64 h.born)).setCell ⟨w.heap.size + 1 + 1, 3, none⟩ (.slice aA h.said.length kA)).setCell ⟨w.heap.size + 1 + 1, 4, none⟩ (.int .i64 h.code)) = WF at *
      obtain ⟨⟨q0, q1, q2, q3, q4⟩, _⟩ := five_cells RF
      exact bodyPost_ret (v := .tuple #[.agg #[.slice aC (viewL h).length kC, .int .i64 (0), .int .i64 h.born, .slice aA h.said.length kA, .int .i64 h.code], .bool true]) (by simp [results, Try.results6, go_sem, q0, q1, q2, q3, q4]) rfl ⟨BF, .slice aC (viewL h).length kC, .slice aA h.said.length kA, VC, by rw [hT.out, hok], by rw [hT.out]; exact ⟨OF, PF, hapF⟩⟩
end Go.Proofs.Ytfpodljalccpnaa
