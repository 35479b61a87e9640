/-
  The program's heap at work: who called, a value is put.
-/
import Derived.Test.YtlpbklgkafjfmaaGreatDoorLStep1
import Derived.Deep.RegionLaw

namespace Go.Proofs.YtlpbklgkafjfmaaGreatDoor
open Go.RowKit
variable {B : Nat} {w w' : World} {bl br : Nat} {vp vcs vsd : Value} {C D : Nat → Nat} {T : Nat → Value × Value} {h h' : Hp}
theorem one_drewL (w : World) (k q : Int) (e : TypeId) (c : Nat) : OpsAt (w.alloc (.cells #[.int .i64 k, .int .i64 q] e)).drew (.slice (some ⟨w.heap.size, 0, none⟩) 1 c) [(k, q)] := one_at w k q e c
theorem val_box {w w2 : World} {t : TypeId} (hb : Below w.heap.size w w2) (hr : w2.rowIs w.heap.size t 2 (two (.int .i64 0) (.int .i64 0))) (x y : Int) : ∃ W9 : World, W9 = (w2.setCell ⟨w.heap.size, 0, none⟩ (.int .i64 x)).setCell ⟨w.heap.size, 1, none⟩ (.int .i64 y) ∧ W9.cell? ⟨w.heap.size, 0, none⟩ = some (.int .i64 x) ∧ W9.cell? ⟨w.heap.size, 1, none⟩ = some (.int .i64 y) ∧ Below w.heap.size w W9 := by
  have R9 : ((w2.setCell ⟨w.heap.size, 0, none⟩ (.int .i64 x)).setCell ⟨w.heap.size, 1, none⟩ (.int .i64 y)).rowIs w.heap.size t 2 (two (.int .i64 x) (.int .i64 y)) := ((two_set0 hr (.int .i64 x)).set 1 (.int .i64 y)).congr fun i hi => by match i, hi with | 0, _ => rfl | 1, _ => rfl
  obtain ⟨⟨q0, q1⟩, _⟩ := two_cells R9
  exact ⟨_, rfl, q0, q1, (hb.setCell (p := ⟨w.heap.size, 0, none⟩) (Nat.le_refl _) (.int .i64 x)).setCell (p := ⟨w.heap.size, 1, none⟩) (Nat.le_refl _) (.int .i64 y)⟩
set_option maxRecDepth 100000 in
theorem sender_at (k : LV B w bl br vp vcs vsd C D T h) {j i : Nat} (hj : j < h.calls.length) (hs : h.calls[j].sender = (i : Int)) (hi : i < h.calls.length) :
    Calls Tryz.prog 132 #[.pointer (some ⟨bl, 0, none⟩), .int .i64 j] w fun e w' => e = .returned (.agg #[.int .i64 2, .int .i64 i]) ∧ Below w.heap.size w w' := by
  have hA : Below w.heap.size w (w.alloc (.cells #[.int .i64 0, .int .i64 0] 37)) := (Below.refl _ _).alloc (Nat.le_refl _) _
  have rx := two_new w 37 (.int .i64 0) (.int .i64 0)
  have kA := k.below hA
  obtain ⟨⟨x0, x1⟩, _⟩ := two_cells kA.hp
  obtain ⟨g, off, cap, hv, hl, hx⟩ := kA.ptr (by omega)
  subst hv
  have z := hx j hj
  clear hx
  obtain ⟨⟨y0, y1, y2⟩, _⟩ := trio_cells (kA.cl j hj)
  rw [hs, ptrN_at] at y2
  have u1 := (trio_cells (kA.cl i hi)).1.2.1
  have hjz : (j : Int) < (h.calls.length : Int) := by omega
  go_enter Tryz.func132, Tryz.ntmps132
  go_wp2_with (first
    | (go_at_call 133; refine (callVal_at i _).mono ?_; rintro e w2 ⟨rfl, hb⟩; have r2 := row_below hb rx; obtain ⟨⟨t0, t1⟩, tf0, tf1⟩ := two_cells r2)
    | (go_at_call 35; refine (placeOf_at (C i) i _ u1).mono ?_; rintro e w' ⟨rfl, hw⟩; obtain rfl := hw.symm))
  obtain ⟨W9, hW9, q0, q1, B9⟩ := val_box (hA.trans (hb.mono hA.size)) r2 2 i
  rw [← hW9]
  exact bodyPost_ret (v := .agg #[.int .i64 2, .int .i64 i]) (by simp [results, Tryz.results132, go_sem, q0, q1]) rfl ⟨rfl, B9⟩
set_option maxRecDepth 100000 in
theorem sender_none (k : LV B w bl br vp vcs vsd C D T h) {j : Nat} (hj : j < h.calls.length) (hs : h.calls[j].sender < 0) :
    Calls Tryz.prog 132 #[.pointer (some ⟨bl, 0, none⟩), .int .i64 j] w fun e w' => e = .returned (.agg #[.int .i64 0, .int .i64 0]) ∧ Below w.heap.size w w' := by
  have hA : Below w.heap.size w (w.alloc (.cells #[.int .i64 0, .int .i64 0] 37)) := (Below.refl _ _).alloc (Nat.le_refl _) _
  have rx := two_new w 37 (.int .i64 0) (.int .i64 0)
  have kA := k.below hA
  obtain ⟨⟨x0, x1⟩, _⟩ := two_cells kA.hp
  obtain ⟨g, off, cap, hv, hl, hx⟩ := kA.ptr (by omega)
  subst hv
  have z := hx j hj
  clear hx
  obtain ⟨⟨y0, y1, y2⟩, _⟩ := trio_cells (kA.cl j hj)
  rw [ptrN_neg hs] at y2
  have hjz : (j : Int) < (h.calls.length : Int) := by omega
  go_enter Tryz.func132, Tryz.ntmps132
  go_wp2_with (first
    | (go_at_call 133; refine (callVal_none _).mono ?_; rintro e w2 ⟨rfl, hb⟩; have r2 := row_below hb rx; obtain ⟨⟨t0, t1⟩, tf0, tf1⟩ := two_cells r2)
    | (go_at_call 35; refine (placeOf_none _).mono ?_; rintro e w' ⟨rfl, hw⟩; obtain rfl := hw.symm))
  obtain ⟨W9, hW9, q0, q1, B9⟩ := val_box (hA.trans (hb.mono hA.size)) r2 0 0
  rw [← hW9]
  exact bodyPost_ret (v := .agg #[.int .i64 0, .int .i64 0]) (by simp [results, Tryz.results132, go_sem, q0, q1]) rfl ⟨rfl, B9⟩
set_option maxRecDepth 100000 in
set_option maxHeartbeats 2000000 in
theorem bodyPut_any (k : LV B w bl br vp vcs vsd C D T h) {j : Nat} (hj : j < h.calls.length) (hB : B ≤ w.heap.size) (a b : Int) (hl : h.calls[j].stack.length ≤ 1000) :
    Calls Tryz.prog 110 #[.pointer (some ⟨D j, 0, none⟩), .agg #[.int .i64 a, .int .i64 b]] w fun e w' => e = .returned (.tuple #[]) ∧ ∃ T', LV B w' bl br vp vcs vsd C D T' { h with calls := h.calls.set j { h.calls[j] with stack := h.calls[j].stack ++ [(a, b)] } } ∧ LGo B (LOwn bl br vcs vsd C D T h.calls.length) (LOwn bl br vcs vsd C D T' h.calls.length) w w' := by
  have hA : Below w.heap.size w (w.alloc (.cells #[.int .i64 a, .int .i64 b] 37)) := (Below.refl _ _).alloc (Nat.le_refl _) _
  have rx := two_new w 37 (.int .i64 a) (.int .i64 b)
  have zA : (w.alloc (.cells #[.int .i64 a, .int .i64 b] 37)).heap.size = w.heap.size + 1 := by simp
  obtain ⟨aS, cS, hS, _⟩ := (k.ts j hj).2.slice
  have hDl := k.lo (.body j) hj (D j) rfl
  have HPU : Hid (∀ (w2 : World) (v' : Value), w.heap.size ≤ w2.heap.size → Below B w w2 → (∀ g, g < w.heap.size → (T j).2.ownBlock ≠ some g → w2.heap[g]? = w.heap[g]?) → PairRow B w2 v' (h.calls[j].stack ++ [(a, b)]) → (∀ q, v'.ownBlock = some q → (T j).2.ownBlock = some q ∨ w.heap.size ≤ q) → ∃ T', LV B (w2.setCell ⟨D j, 3, none⟩ v') bl br vp vcs vsd C D T' { h with calls := h.calls.set j { h.calls[j] with stack := h.calls[j].stack ++ [(a, b)] } } ∧ LGo B (LOwn bl br vcs vsd C D T h.calls.length) (LOwn bl br vcs vsd C D T' h.calls.length) w (w2.setCell ⟨D j, 3, none⟩ v')) := fun w2 v' h1 h2 h3 h4 h5 => ⟨_, k.push hj hB h1 h2 h3 h4 h5⟩
  have hrow := (k.ts j hj).2
  have hDs : (T j).2.ownBlock ≠ some (D j) := fun e => by have := k.ap (.stack j) (.body j) hj hj (D j) e rfl; cases this
  obtain ⟨⟨_, _, _, b3, _⟩, _, _, _, bf3, _⟩ := five_cells (k.bd j hj)
  rw [hS] at hrow hDs b3
  have HS : Hid ((T j).2 = .slice aS h.calls[j].stack.length cS) := hS
  clear hS
  have hown0 := hrow.below hA
  generalize h.calls[j].stack = st at *
  have b3A := cell_below hA b3
  have bf3A : (w.alloc (.cells #[.int .i64 a, .int .i64 b] 37)).frozen? ⟨D j, 3, none⟩ = false := (World.frozen?_of_block (a := ⟨D j, 3, none⟩) (hA.block _ hDl.2)).trans bf3
  go_enter Tryz.func110, Tryz.ntmps110
  go_upto_region 1 with fail
  generalize w.alloc (.cells #[.int .i64 a, .int .i64 b] 37) = W1 at *
  have NA : Below W1.heap.size W1 (W1.alloc (.cells #[.int .i64 a, .int .i64 b] 37)).drew := ((Below.refl _ _).alloc (Nat.le_refl _) _).drew
  have hown := hown0.below NA
  have zN : (W1.alloc (.cells #[.int .i64 a, .int .i64 b] 37)).drew.heap.size = W1.heap.size + 1 := by simp
  obtain ⟨⟨x0, x1⟩, _⟩ := two_cells rx
  have hBz : B ≤ (W1.alloc (.cells #[.int .i64 a, .int .i64 b] 37)).drew.heap.size := by omega
  have HE : Hid (∀ v' w', PairRow B w' v' (st ++ [(a, b)]) → (W1.alloc (.cells #[.int .i64 a, .int .i64 b] 37)).drew.grownBy w' (Value.slice aS st.length cS).ownBlock → (v'.ownBlock = (Value.slice aS st.length cS).ownBlock ∨ v'.ownBlock = some (W1.alloc (.cells #[.int .i64 a, .int .i64 b] 37)).drew.heap.size) → (w'.cell? ⟨D j, 3, none⟩ = some (.slice aS st.length cS) ∧ w'.frozen? ⟨D j, 3, none⟩ = false) ∧ ∃ T', LV B (w'.setCell ⟨D j, 3, none⟩ v') bl br vp vcs vsd C D T' { h with calls := h.calls.set j { h.calls[j] with stack := st ++ [(a, b)] } } ∧ LGo B (LOwn bl br vcs vsd C D T h.calls.length) (LOwn bl br vcs vsd C D T' h.calls.length) w (w'.setCell ⟨D j, 3, none⟩ v')) := by
    intro v' w' hr hg hv
    have hz := hg.size
    have hz1 := hA.size
    have hbl : ∀ g, g < w.heap.size → (Value.slice aS st.length cS).ownBlock ≠ some g → w'.heap[g]? = w.heap[g]? := fun g h1 h2 => ((hg.block g (by omega) (fun e => h2 e.symm)).trans (NA.block g (by omega))).trans (hA.block g h1)
    have hDb := hbl (D j) hDl.2 hDs
    refine ⟨⟨(World.cell?_of_block (a := ⟨D j, 3, none⟩) hDb).trans b3, (World.frozen?_of_block (a := ⟨D j, 3, none⟩) hDb).trans bf3⟩, HPU.out w' v' (by omega) ?_ (fun g h1 h2 => hbl g h1 (by rw [← HS.out]; exact h2)) hr (fun q e => ?_)⟩
    · exact ((hA.mono hB).trans (NA.mono (by omega))).grown hg (by omega) (fun q e => (hrow.lt q e).1)
    · rcases hv with x | x
      · exact .inl (by rw [HS.out, ← x]; exact e)
      · rw [x] at e; injection e with e; exact .inr (by omega)
  have one1 : OpsAt (W1.alloc (.cells #[.int .i64 a, .int .i64 b] 37)).drew (.slice (some ⟨w.heap.size + 1, 0, none⟩) 1 1) [(a, b)] := by rw [← zA]; exact one_drewL W1 a b _ _
  clear HPU hown0 rx b3 bf3 NA hrow
  go_region_law (refine step_vals _ (by rfl) _ _ (by rfl) B _ _ st [(a, b)] (by rfl) (by rfl) hown one1 (by simp; omega) (by simp; omega) ?_; intro v' w' hrow hg hbk; obtain ⟨a', c', hv', _⟩ := hrow.slice; rw [List.length_append] at hv'; subst hv'; obtain ⟨⟨z4, f4⟩, hLV⟩ := HE.out _ w' hrow hg hbk)
  all_goals exact bodyPost_end (results_none rfl _ _ _) rfl ⟨rfl, hLV⟩
end Go.Proofs.YtlpbklgkafjfmaaGreatDoor

/-
  The program's heap at work: a value is put to what runs; the call that runs returns.
-/
namespace Go.Proofs.YtlpbklgkafjfmaaGreatDoor
open Go.RowKit
variable {B : Nat} {w w' : World} {bl br : Nat} {vp vcs vsd : Value} {C D : Nat → Nat} {T : Nat → Value × Value} {h h' : Hp}
theorem Tryz.go_running (bl : Nat) (w : World) : (method 267 70 (.pointer (some ⟨bl, 0, none⟩)) "loop.example/gemel/impl.running").run Tryz.prog w = .ok (131, .pointer (some ⟨bl, 0, none⟩)) w := by kernel_rfl
theorem pushH_at {h : Hp} {j : Nat} (hn : h.now = (j : Int)) (hj : j < h.calls.length) (x : Int × Int) : pushH h x = { h with calls := h.calls.set j { h.calls[j] with stack := h.calls[j].stack ++ [x] } } := by
  unfold pushH setH
  rw [cur_at hn hj, hn, Int.toNat_natCast]
set_option maxRecDepth 100000 in
set_option maxHeartbeats 2000000 in
theorem runPut_any (k : LV B w bl br vp vcs vsd C D T h) {j : Nat} (hn : h.now = (j : Int)) (hj : j < h.calls.length) (hB : B ≤ w.heap.size) (a b : Int) (hl : h.calls[j].stack.length ≤ 1000) :
    Calls Tryz.prog 105 #[.pointer (some ⟨br, 0, none⟩), .agg #[.int .i64 a, .int .i64 b]] w fun e w' => e = .returned (.tuple #[]) ∧ ∃ T', LV B w' bl br vp vcs vsd C D T' (pushH h (a, b)) ∧ LGo B (LOwn bl br vcs vsd C D T h.calls.length) (LOwn bl br vcs vsd C D T' h.calls.length) w w' := by
  rw [pushH_at hn hj]
  have hA : Below w.heap.size w (w.alloc (.cells #[.int .i64 a, .int .i64 b] 37)) := (Below.refl _ _).alloc (Nat.le_refl _) _
  have rx := two_new w 37 (.int .i64 a) (.int .i64 b)
  have k1 := k.below hA
  have hm := Tryz.go_running bl
  go_enter Tryz.func105, Tryz.ntmps105
  go_upto_region 1 with fail
  generalize w.alloc (.cells #[.int .i64 a, .int .i64 b] 37) = W1 at *
  have k1d := k1.below ((Below.refl _ _).drew)
  have g1 : LGo B (LOwn bl br vcs vsd C D T h.calls.length) (LOwn bl br vcs vsd C D T h.calls.length) w W1.drew := LGo.of_below hB hA.drew
  have hBd : B ≤ W1.drew.heap.size := by have := hA.size; show B ≤ W1.heap.size; omega
  obtain ⟨⟨x0, x1⟩, _⟩ := two_cells rx
  obtain ⟨⟨y0, y1, y2, y3, y4⟩, _⟩ := five_cells k1.rn
  have HP : Hid (Calls Tryz.prog 110 #[.pointer (some ⟨D j, 0, none⟩), .agg #[.int .i64 a, .int .i64 b]] W1.drew fun e w' => e = .returned (.tuple #[]) ∧ ∃ T', LV B w' bl br vp vcs vsd C D T' { h with calls := h.calls.set j { h.calls[j] with stack := h.calls[j].stack ++ [(a, b)] } } ∧ LGo B (LOwn bl br vcs vsd C D T h.calls.length) (LOwn bl br vcs vsd C D T' h.calls.length) W1.drew w') := bodyPut_any k1d hj hBd a b hl
  have HR : Hid (Calls Tryz.prog 131 #[.pointer (some ⟨bl, 0, none⟩)] W1.drew fun e w' => e = .returned (.pointer (some ⟨D j, 0, none⟩)) ∧ w' = W1.drew) := running_any k1d hn hj
  clear k k1 k1d rx
  go_region_law (first
    | (go_simp; go_at_call 110; refine HP.out.mono ?_; rintro e w2 ⟨rfl, T2, k2, g2⟩)
    | (go_simp; go_at_call 131; refine HR.out.mono ?_; rintro e w' ⟨rfl, hw⟩; obtain rfl := hw.symm))
  all_goals exact bodyPost_end (results_none rfl _ _ _) rfl ⟨rfl, T2, k2, g1.trans g2⟩
set_option maxRecDepth 100000 in
theorem dieL_any (d : Nat) (w : World) (x3 x4 : Value) (h3 : w.cell? ⟨d, 3, none⟩ = some x3) (h4 : w.cell? ⟨d, 4, none⟩ = some x4) (f3 : w.frozen? ⟨d, 3, none⟩ = false) (f4 : w.frozen? ⟨d, 4, none⟩ = false) :
    Calls Tryz.prog 134 #[.pointer (some ⟨d, 0, none⟩)] w fun e w' => e = .returned (.tuple #[]) ∧ w' = (w.setCell ⟨d, 3, none⟩ (.slice none 0 0)).setCell ⟨d, 4, none⟩ (.bool true) := by
  go_enter Tryz.func134, Tryz.ntmps134
  go_wp2
  exact bodyPost_end (results_none rfl _ _ _) rfl ⟨rfl, rfl⟩
theorem LV.die (k : LV B w bl br vp vcs vsd C D T h) {j : Nat} (hj : j < h.calls.length) : LV B ((w.setCell ⟨D j, 3, none⟩ (.slice none 0 0)).setCell ⟨D j, 4, none⟩ (.bool true)) bl br vp vcs vsd C D (putV T j ((T j).1, .slice none 0 0)) { h with calls := h.calls.set j { h.calls[j] with stack := [], dead := true } } ∧
    LGo B (LOwn bl br vcs vsd C D T h.calls.length) (LOwn bl br vcs vsd C D (putV T j ((T j).1, .slice none 0 0)) h.calls.length) w ((w.setCell ⟨D j, 3, none⟩ (.slice none 0 0)).setCell ⟨D j, 4, none⟩ (.bool true)) := by
  have hDl := k.lo (.body j) hj (D j) rfl
  have hDt : (T j).1.ownBlock ≠ some (D j) := fun e => by have := k.ap (.temps j) (.body j) hj hj (D j) e rfl; cases this
  have hbl : ∀ g, g < w.heap.size → g ≠ D j → (T j).1.ownBlock ≠ some g → (T j).2.ownBlock ≠ some g → ((w.setCell ⟨D j, 3, none⟩ (.slice none 0 0)).setCell ⟨D j, 4, none⟩ (.bool true)).heap[g]? = w.heap[g]? := fun g _ h2 _ _ => (Below.heap_setCell _ _ _ _ (fun e => h2 e)).trans (Below.heap_setCell _ _ _ _ (fun e => h2 e))
  have nt : ∀ q, (T j).1.ownBlock = some q → (T j).1.ownBlock = some q ∨ (T j).2.ownBlock = some q ∨ w.heap.size ≤ q := fun q e => .inl e
  have ns : ∀ q, (Value.slice none 0 0).ownBlock = some q → (T j).1.ownBlock = some q ∨ (T j).2.ownBlock = some q ∨ w.heap.size ≤ q := fun q e => by simp [Value.ownBlock] at e
  refine ⟨k.turn hj rfl (by simp [World.setCell]) hbl (five_set4 (five_set3 (k.bd j hj) (.slice none 0 0)) (.bool true)) (((k.ts j hj).1.set_other _ hDt).set_other _ hDt) (PairRow.nil _ _) nt ns (fun q _ e => by simp [Value.ownBlock] at e), LV.turn_go hj ((Below.refl _ _ |>.setCell (p := ⟨D j, 3, none⟩) hDl.1 _).setCell (p := ⟨D j, 4, none⟩) hDl.1 _) hbl nt ns⟩
theorem leaveH_at {h : Hp} {j : Nat} (hn : h.now = (j : Int)) (hj : j < h.calls.length) : leaveH h = { h with calls := (h.calls.set j { h.calls[j] with sender := -1 }).set j { h.calls[j] with stack := [], sender := -1, dead := true }, now := h.calls[j].sender } := by
  unfold leaveH setH dieC
  rw [cur_at hn hj, hn, Int.toNat_natCast, List.set_set]
set_option maxRecDepth 100000 in
set_option maxHeartbeats 2000000 in
theorem leave_any (k : LV B w bl br vp vcs vsd C D T h) {j : Nat} (hn : h.now = (j : Int)) (hj : j < h.calls.length) :
    Calls Tryz.prog 129 #[.pointer (some ⟨bl, 0, none⟩)] w fun e w' => e = .returned (.tuple #[]) ∧ ∃ T', LV B w' bl br vp vcs vsd C D T' (leaveH h) ∧ LGo B (LOwn bl br vcs vsd C D T h.calls.length) (LOwn bl br vcs vsd C D T' h.calls.length) w w' := by
  rw [leaveH_at hn hj]
  have hbl := k.lo .heap trivial bl rfl
  have hCl := k.lo (.call j) hj (C j) rfl
  have hCb : C j ≠ bl := fun e => by have := k.ap (.call j) .heap hj trivial (C j) rfl (by rw [e]; rfl); cases this
  have hDb : D j ≠ bl := fun e => by have := k.ap (.body j) .heap hj trivial (D j) rfl (by rw [e]; rfl); cases this
  have hDC : D j ≠ C j := fun e => by have := k.ap (.body j) (.call j) hj hj (D j) rfl (by rw [e]; rfl); cases this
  obtain ⟨q, hq⟩ : ∃ q, ptrN C h.calls[j].sender = .pointer q := by
    unfold ptrN
    split
    · exact ⟨_, rfl⟩
    · exact ⟨_, rfl⟩
  have kn := k.now h.calls[j].sender (.pointer q) hq.symm
  have gn : LGo B (LOwn bl br vcs vsd C D T h.calls.length) (LOwn bl br vcs vsd C D T h.calls.length) w (w.setCell ⟨bl, 1, none⟩ (.pointer q)) := LGo.set (p := ⟨bl, 1, none⟩) ⟨.heap, trivial, rfl⟩ hbl.1 _
  have ks := kn.snd (j := j) hj (-1) (.pointer none) rfl
  have gs : LGo B (LOwn bl br vcs vsd C D T h.calls.length) (LOwn bl br vcs vsd C D T h.calls.length) (w.setCell ⟨bl, 1, none⟩ (.pointer q)) ((w.setCell ⟨bl, 1, none⟩ (.pointer q)).setCell ⟨C j, 2, none⟩ (.pointer none)) := LGo.set (p := ⟨C j, 2, none⟩) ⟨.call j, hj, rfl⟩ hCl.1 _
  have hjs : j < (h.calls.set j { h.calls[j] with sender := -1 }).length := by rw [List.length_set]; exact hj
  obtain ⟨kd, gd⟩ := ks.die (j := j) hjs
  simp only [List.getElem_set_self, List.length_set] at kd gd
  have G := (gn.trans gs).trans gd
  have HK : Hid _ := kd
  have HG : Hid _ := G
  obtain ⟨⟨x0, x1⟩, xf0, xf1⟩ := two_cells k.hp
  rw [hn, ptrN_at] at x1
  obtain ⟨⟨y0, y1, y2⟩, yf0, yf1, yf2⟩ := trio_cells (k.cl j hj)
  rw [hq] at y2
  obtain ⟨⟨z0, z1, z2⟩, _⟩ := trio_cells (ks.cl j hjs)
  obtain ⟨⟨b0, b1, b2, b3, b4⟩, bf0, bf1, bf2, bf3, bf4⟩ := five_cells (ks.bd j hjs)
  clear kd G gd gs gn ks kn k
  go_enter Tryz.func129, Tryz.ntmps129
  go_wp2_with (go_at_call 134; refine (dieL_any (D j) _ _ _ b3 b4 bf3 bf4).mono ?_; rintro e w' ⟨rfl, hw⟩; subst hw)
  exact bodyPost_end (results_none rfl _ _ _) rfl ⟨rfl, _, HK.out, HG.out⟩
end Go.Proofs.YtlpbklgkafjfmaaGreatDoor

/-
  The program's heap at work: one goes back to a call.
-/
namespace Go.Proofs.YtlpbklgkafjfmaaGreatDoor
open Go.RowKit
variable {B : Nat} {w w' : World} {bl br : Nat} {vp vcs vsd : Value} {C D : Nat → Nat} {T : Nat → Value × Value} {h h' : Hp}
set_option maxRecDepth 100000 in
set_option maxHeartbeats 4000000 in
theorem backTo_any (k : LV B w bl br vp vcs vsd C D T h) {b : Nat} {l : List Nat} (hw : Waits h.calls h.now l) (hb : b ∈ l) (hl : l.length ≤ h.calls.length) :
    Calls Tryz.prog 126 #[.pointer (some ⟨bl, 0, none⟩), .int .i64 b] w fun e w' => e = .returned (.tuple #[]) ∧ ∃ T', LV B w' bl br vp vcs vsd C D T' (backTo h.calls.length h b) ∧ LGo B (LOwn bl br vcs vsd C D T h.calls.length) (LOwn bl br vcs vsd C D T' h.calls.length) w w' := by
  obtain ⟨R, hR⟩ : ∃ R, backTo h.calls.length h b = R := ⟨_, rfl⟩
  rw [hR]
  have HS : Hid (∃ (hc : Hp) (T' : Nat → Value × Value) (fc : Nat) (lc : List Nat), LV B w bl br vp vcs vsd C D T' hc ∧ LGo B (LOwn bl br vcs vsd C D T h.calls.length) (LOwn bl br vcs vsd C D T' h.calls.length) w w ∧ Waits hc.calls hc.now lc ∧ b ∈ lc ∧ lc.length ≤ fc ∧ backTo fc hc b = R ∧ hc.calls.length = h.calls.length ∧ l.length = lc.length) := ⟨h, T, h.calls.length, l, k, LGo.refl _ _ _, hw, hb, hl, hR, rfl, rfl⟩
  generalize hN : h.calls.length = n at *
  clear k hw hb hR hN
  go_enter Tryz.func126, Tryz.ntmps126
  go_wp2
  go_loopg [] l.length (fun g wr => ∃ (hc : Hp) (T' : Nat → Value × Value) (fc : Nat) (lc : List Nat), LV B wr bl br vp vcs vsd C D T' hc ∧ LGo B (LOwn bl br vcs vsd C D T n) (LOwn bl br vcs vsd C D T' n) w wr ∧ Waits hc.calls hc.now lc ∧ b ∈ lc ∧ lc.length ≤ fc ∧ backTo fc hc b = R ∧ hc.calls.length = n ∧ g = lc.length)
  case atStart => exact HS.out
  case round =>
    obtain ⟨hc, T', fc, lc, kc, gc, hwc, hbc, hlf, hbk, hcn, rfl⟩ := hrel
    have hpos : 0 < lc.length := List.length_pos_iff.2 (fun e => by rw [e] at hbc; cases hbc)
    obtain ⟨fc', rfl⟩ : ∃ f, fc = f + 1 := ⟨fc - 1, by omega⟩
    have hnn : 0 ≤ hc.now := by
      by_cases e : 0 ≤ hc.now
      · exact e
      · obtain ⟨f, hf⟩ := hwc.ch
        rw [walkC_neg (by omega)] at hf
        cases hf
        cases hbc
    obtain ⟨j, hj⟩ := Int.eq_ofNat_of_zero_le hnn
    rw [hj] at hwc
    obtain ⟨hjl, t0, hl0, _⟩ := hwc.head
    obtain ⟨⟨x0, x1⟩, _⟩ := two_cells kc.hp
    rw [hj, ptrN_at] at x1
    obtain ⟨⟨y0, y1, y2⟩, _⟩ := trio_cells (kc.cl j hjl)
    by_cases hjb : j = b
    · subst hjb
      have hE : R = hc := by rw [← hbk]; exact backTo_here hj
      have HK : Hid (LV B wr bl br vp vcs vsd C D T' R) := by rw [hE]; exact kc
      clear kc
      go_wp2
      exact bodyPost_end (results_none rfl _ _ _) rfl ⟨rfl, T', HK.out, gc⟩
    · have hne : ((j : Int) == (b : Int)) = false := beq_eq_false_iff_ne.2 (by omega)
      have HL := leave_any kc hj hjl
      have hbk2 : backTo fc' (leaveH hc) b = R := by rw [← hbk, backTo_on (by rw [hj]; omega)]
      obtain ⟨t, hlt, hwt, _⟩ := hwc.leave hjl (dieC hc.calls[j]) rfl
      obtain ⟨e1, e2, _⟩ := leave_at hj hjl
      have hwl : Waits (leaveH hc).calls (leaveH hc).now t := by rw [e1, e2]; exact hwt
      have hbt : b ∈ t := by
        rw [hlt] at hbc
        rcases List.mem_cons.1 hbc with e | e
        · exact absurd e.symm hjb
        · exact e
      have htl : t.length + 1 = lc.length := by rw [hlt]; rfl
      have hcl : (leaveH hc).calls.length = n := by rw [e1, List.length_set]; exact hcn
      have HX : Hid _ := And.intro hwl (And.intro hbt (And.intro hbk2 hcl))
      clear hwl hbt hbk2 hcl e1 e2 hwt hwc hbk kc
      rw [hcn] at HL
      generalize leaveH hc = hd at *
      go_wp2_with (go_at_call 129; refine HL.mono ?_; rintro e w2 ⟨rfl, T2, k2, g2⟩)
      have g3 := gc.trans g2
      go_roundg t.length
      case measure => omega
      case rel => exact ⟨hd, T2, fc', t, k2, g3, HX.out.1, HX.out.2.1, by omega, HX.out.2.2.1, HX.out.2.2.2, rfl⟩
end Go.Proofs.YtlpbklgkafjfmaaGreatDoor
