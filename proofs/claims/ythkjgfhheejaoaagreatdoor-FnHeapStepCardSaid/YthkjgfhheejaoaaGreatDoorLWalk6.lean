import Derived.Test.YthkjgfhheejaoaaGreatDoorLMem2
import Derived.Deep.RegionLaw

/-
  The program's heap at work: who runs, who is looked at, where it is, who called it.
-/
namespace Go.Proofs.YthkjgfhheejaoaaGreatDoor
open Go.RowKit

variable {B : Nat} {w w' : World} {bl br : Nat} {vp vcs vsd : Value} {C D : Nat → Nat} {T : Nat → Value × Value} {h h' : Hp}

/-- the row of pointers -/
theorem LV.ptr (k : LV B w bl br vp vcs vsd C D T h) (hp : 0 < h.calls.length) : ∃ g off cap, vcs = .slice (some ⟨g, off, none⟩) h.calls.length cap ∧ h.calls.length ≤ cap ∧ ∀ i, i < h.calls.length → w.cell? ⟨g, off + i, none⟩ = some (.pointer (some ⟨C i, 0, none⟩)) := by
  obtain ⟨_, hr⟩ := k.row
  rcases hr with ⟨_, e⟩ | ⟨g, off, cap, hv, _, _, hl, _, _, hx⟩
  · omega
  · refine ⟨g, off, cap, hv, hl, fun i hi => ?_⟩
    have := hx i (by simp [ptrs]; exact hi)
    simpa [ptrs] using this

set_option maxRecDepth 100000 in
theorem running_any (k : LV B w bl br vp vcs vsd C D T h) {j : Nat} (hn : h.now = (j : Int)) (hj : j < h.calls.length) :
    Calls Tryz.prog 142 #[.pointer (some ⟨bl, 0, none⟩)] w fun e w' => e = .returned (.pointer (some ⟨D j, 0, none⟩)) ∧ w' = w := by
  obtain ⟨⟨x0, x1⟩, _⟩ := two_cells k.hp
  rw [hn, ptrN_at] at x1
  obtain ⟨⟨y0, y1, y2⟩, _⟩ := trio_cells (k.cl j hj)
  go_enter Tryz.func142, Tryz.ntmps142
  go_wp2
  go_ret
  exact ⟨rfl, rfl⟩

set_option maxRecDepth 100000 in
theorem running_none (k : LV B w bl br vp vcs vsd C D T h) (hn : h.now < 0) :
    Calls Tryz.prog 142 #[.pointer (some ⟨bl, 0, none⟩)] w fun e w' => e = .returned (.pointer none) ∧ w' = w := by
  obtain ⟨⟨x0, x1⟩, _⟩ := two_cells k.hp
  rw [ptrN_neg hn] at x1
  go_enter Tryz.func142, Tryz.ntmps142
  go_wp2
  go_ret
  exact ⟨rfl, rfl⟩

set_option maxRecDepth 100000 in
theorem looked_any (k : LV B w bl br vp vcs vsd C D T h) {j : Nat} (hj : j < h.calls.length) :
    Calls Tryz.prog 141 #[.pointer (some ⟨bl, 0, none⟩), .int .i64 j] w fun e w' => e = .returned (.pointer (some ⟨D j, 0, none⟩)) ∧ w' = w := by
  obtain ⟨⟨x0, x1⟩, _⟩ := two_cells k.hp
  obtain ⟨g, off, cap, hv, hl, hx⟩ := k.ptr (by omega)
  subst hv
  have z := hx j hj
  clear hx
  obtain ⟨⟨y0, y1, y2⟩, _⟩ := trio_cells (k.cl j hj)
  have hjz : (j : Int) < (h.calls.length : Int) := by omega
  go_enter Tryz.func141, Tryz.ntmps141
  go_wp2
  go_ret
  exact ⟨rfl, rfl⟩

set_option maxRecDepth 100000 in
theorem callVal_at (j : Nat) (w : World) :
    Calls Tryz.prog 144 #[.int .i64 j] w fun e w' => e = .returned (.agg #[.int .i64 2, .int .i64 j]) ∧ Below w.heap.size w w' := by
  have hne : ((j : Int) == -1) = false := beq_eq_false_iff_ne.2 (by omega)
  go_enter Tryz.func144, Tryz.ntmps144
  go_wp2
  exact bodyPost_ret (v := .agg #[.int .i64 2, .int .i64 j]) (by simp [results, Tryz.results144, go_sem]) rfl ⟨rfl, (Below.refl _ _).alloc (Nat.le_refl _) _⟩

set_option maxRecDepth 100000 in
theorem callVal_none (w : World) :
    Calls Tryz.prog 144 #[.int .i64 (-1)] w fun e w' => e = .returned (.agg #[.int .i64 0, .int .i64 0]) ∧ Below w.heap.size w w' := by
  go_enter Tryz.func144, Tryz.ntmps144
  go_wp2
  exact bodyPost_ret (v := .agg #[.int .i64 0, .int .i64 0]) (by simp [results, Tryz.results144, go_sem]) rfl ⟨rfl, (Below.refl _ _).alloc (Nat.le_refl _) _⟩

set_option maxRecDepth 100000 in
theorem placeOf_none (w : World) : Calls Tryz.prog 36 #[.pointer none] w fun e w' => e = .returned (.int .i64 (-1)) ∧ w' = w := by
  go_enter Tryz.func36, Tryz.ntmps36
  go_wp2
  go_ret
  exact ⟨rfl, rfl⟩

set_option maxRecDepth 100000 in
theorem placeOf_at (c j : Nat) (w : World) (hc : w.cell? ⟨c, 1, none⟩ = some (.int .i64 j)) : Calls Tryz.prog 36 #[.pointer (some ⟨c, 0, none⟩)] w fun e w' => e = .returned (.int .i64 j) ∧ w' = w := by
  go_enter Tryz.func36, Tryz.ntmps36
  go_wp2
  go_ret
  exact ⟨rfl, rfl⟩

set_option maxRecDepth 100000 in
theorem here_any (k : LV B w bl br vp vcs vsd C D T h) {j : Nat} (hn : h.now = (j : Int)) (hj : j < h.calls.length) :
    Calls Tryz.prog 139 #[.pointer (some ⟨bl, 0, none⟩)] w fun e w' => e = .returned (.agg #[.int .i64 2, .int .i64 j]) ∧ Below w.heap.size w w' := by
  have hA : Below w.heap.size w (w.alloc (.cells #[.int .i64 0, .int .i64 0] 43)) := (Below.refl _ _).alloc (Nat.le_refl _) _
  have rx := two_new w 43 (.int .i64 0) (.int .i64 0)
  have kA := k.below hA
  obtain ⟨⟨x0, x1⟩, _⟩ := two_cells kA.hp
  rw [hn, ptrN_at] at x1
  obtain ⟨⟨y0, y1, y2⟩, _⟩ := trio_cells (kA.cl j hj)
  go_enter Tryz.func139, Tryz.ntmps139
  go_wp2_with (go_at_call 144; refine (callVal_at j _).mono ?_; rintro e w2 ⟨rfl, hb⟩; have r2 := row_below hb rx; obtain ⟨⟨t0, t1⟩, tf0, tf1⟩ := two_cells r2)
  have hB2 := hA.trans (hb.mono hA.size)
  have R9 : ((w2.setCell ⟨w.heap.size, 0, none⟩ (.int .i64 2)).setCell ⟨w.heap.size, 1, none⟩ (.int .i64 j)).rowIs w.heap.size 43 2 (two (.int .i64 2) (.int .i64 j)) := ((two_set0 r2 (.int .i64 2)).set 1 (.int .i64 j)).congr fun i hi => by match i, hi with | 0, _ => rfl | 1, _ => rfl
  have B9 := (hB2.setCell (p := ⟨w.heap.size, 0, none⟩) (Nat.le_refl _) (.int .i64 2)).setCell (p := ⟨w.heap.size, 1, none⟩) (Nat.le_refl _) (.int .i64 j)
  generalize (w2.setCell ⟨w.heap.size, 0, none⟩ (.int .i64 2)).setCell ⟨w.heap.size, 1, none⟩ (.int .i64 j) = W9 at *
  obtain ⟨⟨q0, q1⟩, _⟩ := two_cells R9
  exact bodyPost_ret (v := .agg #[.int .i64 2, .int .i64 j]) (by simp [results, Tryz.results139, go_sem, q0, q1]) rfl ⟨rfl, B9⟩

end Go.Proofs.YthkjgfhheejaoaaGreatDoor

/-
  The program's heap at work: who called, a value is put.
-/
namespace Go.Proofs.YthkjgfhheejaoaaGreatDoor
open Go.RowKit

variable {B : Nat} {w w' : World} {bl br : Nat} {vp vcs vsd : Value} {C D : Nat → Nat} {T : Nat → Value × Value} {h h' : Hp}

theorem one_drewL (w : World) (k q : Int) (e : TypeId) (c : Nat) : OpsAt (w.alloc (.cells #[.int .i64 k, .int .i64 q] e)).drew (.slice (some ⟨w.heap.size, 0, none⟩) 1 c) [(k, q)] := one_at w k q e c

/-- a box of a value, written -/
theorem val_box {w w2 : World} {t : TypeId} (hb : Below w.heap.size w w2) (hr : w2.rowIs w.heap.size t 2 (two (.int .i64 0) (.int .i64 0))) (x y : Int) : ∃ W9 : World, W9 = (w2.setCell ⟨w.heap.size, 0, none⟩ (.int .i64 x)).setCell ⟨w.heap.size, 1, none⟩ (.int .i64 y) ∧ W9.cell? ⟨w.heap.size, 0, none⟩ = some (.int .i64 x) ∧ W9.cell? ⟨w.heap.size, 1, none⟩ = some (.int .i64 y) ∧ Below w.heap.size w W9 := by
  have R9 : ((w2.setCell ⟨w.heap.size, 0, none⟩ (.int .i64 x)).setCell ⟨w.heap.size, 1, none⟩ (.int .i64 y)).rowIs w.heap.size t 2 (two (.int .i64 x) (.int .i64 y)) := ((two_set0 hr (.int .i64 x)).set 1 (.int .i64 y)).congr fun i hi => by match i, hi with | 0, _ => rfl | 1, _ => rfl
  obtain ⟨⟨q0, q1⟩, _⟩ := two_cells R9
  exact ⟨_, rfl, q0, q1, (hb.setCell (p := ⟨w.heap.size, 0, none⟩) (Nat.le_refl _) (.int .i64 x)).setCell (p := ⟨w.heap.size, 1, none⟩) (Nat.le_refl _) (.int .i64 y)⟩

set_option maxRecDepth 100000 in
theorem sender_at (k : LV B w bl br vp vcs vsd C D T h) {j i : Nat} (hj : j < h.calls.length) (hs : h.calls[j].sender = (i : Int)) (hi : i < h.calls.length) :
    Calls Tryz.prog 143 #[.pointer (some ⟨bl, 0, none⟩), .int .i64 j] w fun e w' => e = .returned (.agg #[.int .i64 2, .int .i64 i]) ∧ Below w.heap.size w w' := by
  have hA : Below w.heap.size w (w.alloc (.cells #[.int .i64 0, .int .i64 0] 43)) := (Below.refl _ _).alloc (Nat.le_refl _) _
  have rx := two_new w 43 (.int .i64 0) (.int .i64 0)
  have kA := k.below hA
  obtain ⟨⟨x0, x1⟩, _⟩ := two_cells kA.hp
  obtain ⟨g, off, cap, hv, hl, hx⟩ := kA.ptr (by omega)
  subst hv
  have z := hx j hj
  clear hx
  obtain ⟨⟨y0, y1, y2⟩, _⟩ := trio_cells (kA.cl j hj)
  rw [hs, ptrN_at] at y2
  have u1 := (trio_cells (kA.cl i hi)).1.2.1
  have hjz : (j : Int) < (h.calls.length : Int) := by omega
  go_enter Tryz.func143, Tryz.ntmps143
  go_wp2_with (first
    | (go_at_call 144; refine (callVal_at i _).mono ?_; rintro e w2 ⟨rfl, hb⟩; have r2 := row_below hb rx; obtain ⟨⟨t0, t1⟩, tf0, tf1⟩ := two_cells r2)
    | (go_at_call 36; refine (placeOf_at (C i) i _ u1).mono ?_; rintro e w' ⟨rfl, hw⟩; obtain rfl := hw.symm))
  obtain ⟨W9, hW9, q0, q1, B9⟩ := val_box (hA.trans (hb.mono hA.size)) r2 2 i
  rw [← hW9]
  exact bodyPost_ret (v := .agg #[.int .i64 2, .int .i64 i]) (by simp [results, Tryz.results143, go_sem, q0, q1]) rfl ⟨rfl, B9⟩

set_option maxRecDepth 100000 in
theorem sender_none (k : LV B w bl br vp vcs vsd C D T h) {j : Nat} (hj : j < h.calls.length) (hs : h.calls[j].sender < 0) :
    Calls Tryz.prog 143 #[.pointer (some ⟨bl, 0, none⟩), .int .i64 j] w fun e w' => e = .returned (.agg #[.int .i64 0, .int .i64 0]) ∧ Below w.heap.size w w' := by
  have hA : Below w.heap.size w (w.alloc (.cells #[.int .i64 0, .int .i64 0] 43)) := (Below.refl _ _).alloc (Nat.le_refl _) _
  have rx := two_new w 43 (.int .i64 0) (.int .i64 0)
  have kA := k.below hA
  obtain ⟨⟨x0, x1⟩, _⟩ := two_cells kA.hp
  obtain ⟨g, off, cap, hv, hl, hx⟩ := kA.ptr (by omega)
  subst hv
  have z := hx j hj
  clear hx
  obtain ⟨⟨y0, y1, y2⟩, _⟩ := trio_cells (kA.cl j hj)
  rw [ptrN_neg hs] at y2
  have hjz : (j : Int) < (h.calls.length : Int) := by omega
  go_enter Tryz.func143, Tryz.ntmps143
  go_wp2_with (first
    | (go_at_call 144; refine (callVal_none _).mono ?_; rintro e w2 ⟨rfl, hb⟩; have r2 := row_below hb rx; obtain ⟨⟨t0, t1⟩, tf0, tf1⟩ := two_cells r2)
    | (go_at_call 36; refine (placeOf_none _).mono ?_; rintro e w' ⟨rfl, hw⟩; obtain rfl := hw.symm))
  obtain ⟨W9, hW9, q0, q1, B9⟩ := val_box (hA.trans (hb.mono hA.size)) r2 0 0
  rw [← hW9]
  exact bodyPost_ret (v := .agg #[.int .i64 0, .int .i64 0]) (by simp [results, Tryz.results143, go_sem, q0, q1]) rfl ⟨rfl, B9⟩

set_option maxRecDepth 100000 in
set_option maxHeartbeats 2000000 in
theorem bodyPut_any (k : LV B w bl br vp vcs vsd C D T h) {j : Nat} (hj : j < h.calls.length) (hB : B ≤ w.heap.size) (a b : Int) (hl : h.calls[j].stack.length ≤ 1000) :
    Calls Tryz.prog 121 #[.pointer (some ⟨D j, 0, none⟩), .agg #[.int .i64 a, .int .i64 b]] w fun e w' => e = .returned (.tuple #[]) ∧ ∃ T', LV B w' bl br vp vcs vsd C D T' { h with calls := h.calls.set j { h.calls[j] with stack := h.calls[j].stack ++ [(a, b)] } } ∧ LGo B (LOwn bl br vcs vsd C D T h.calls.length) (LOwn bl br vcs vsd C D T' h.calls.length) w w' := by
  have hA : Below w.heap.size w (w.alloc (.cells #[.int .i64 a, .int .i64 b] 43)) := (Below.refl _ _).alloc (Nat.le_refl _) _
  have rx := two_new w 43 (.int .i64 a) (.int .i64 b)
  have zA : (w.alloc (.cells #[.int .i64 a, .int .i64 b] 43)).heap.size = w.heap.size + 1 := by simp
  obtain ⟨aS, cS, hS, _⟩ := (k.ts j hj).2.slice
  have hDl := k.lo (.body j) hj (D j) rfl
  have HPU : Hid (∀ (w2 : World) (v' : Value), w.heap.size ≤ w2.heap.size → Below B w w2 → (∀ g, g < w.heap.size → (T j).2.ownBlock ≠ some g → w2.heap[g]? = w.heap[g]?) → PairRow B w2 v' (h.calls[j].stack ++ [(a, b)]) → (∀ q, v'.ownBlock = some q → (T j).2.ownBlock = some q ∨ w.heap.size ≤ q) → ∃ T', LV B (w2.setCell ⟨D j, 3, none⟩ v') bl br vp vcs vsd C D T' { h with calls := h.calls.set j { h.calls[j] with stack := h.calls[j].stack ++ [(a, b)] } } ∧ LGo B (LOwn bl br vcs vsd C D T h.calls.length) (LOwn bl br vcs vsd C D T' h.calls.length) w (w2.setCell ⟨D j, 3, none⟩ v')) := fun w2 v' h1 h2 h3 h4 h5 => ⟨_, k.push hj hB h1 h2 h3 h4 h5⟩
  have hrow := (k.ts j hj).2
  have hDs : (T j).2.ownBlock ≠ some (D j) := fun e => by have := k.ap (.stack j) (.body j) hj hj (D j) e rfl; cases this
  obtain ⟨⟨_, _, _, b3, _⟩, _, _, _, bf3, _⟩ := five_cells (k.bd j hj)
  rw [hS] at hrow hDs b3
  have HS : Hid ((T j).2 = .slice aS h.calls[j].stack.length cS) := hS
  clear hS
  have hown0 := hrow.below hA
  generalize h.calls[j].stack = st at *
  have b3A := cell_below hA b3
  have bf3A : (w.alloc (.cells #[.int .i64 a, .int .i64 b] 43)).frozen? ⟨D j, 3, none⟩ = false := (World.frozen?_of_block (a := ⟨D j, 3, none⟩) (hA.block _ hDl.2)).trans bf3
  go_enter Tryz.func121, Tryz.ntmps121
  go_upto_region 1 with fail
  generalize w.alloc (.cells #[.int .i64 a, .int .i64 b] 43) = W1 at *
  have NA : Below W1.heap.size W1 (W1.alloc (.cells #[.int .i64 a, .int .i64 b] 43)).drew := ((Below.refl _ _).alloc (Nat.le_refl _) _).drew
  have hown := hown0.below NA
  have zN : (W1.alloc (.cells #[.int .i64 a, .int .i64 b] 43)).drew.heap.size = W1.heap.size + 1 := by simp
  obtain ⟨⟨x0, x1⟩, _⟩ := two_cells rx
  have hBz : B ≤ (W1.alloc (.cells #[.int .i64 a, .int .i64 b] 43)).drew.heap.size := by omega
  have HE : Hid (∀ v' w', PairRow B w' v' (st ++ [(a, b)]) → (W1.alloc (.cells #[.int .i64 a, .int .i64 b] 43)).drew.grownBy w' (Value.slice aS st.length cS).ownBlock → (v'.ownBlock = (Value.slice aS st.length cS).ownBlock ∨ v'.ownBlock = some (W1.alloc (.cells #[.int .i64 a, .int .i64 b] 43)).drew.heap.size) → (w'.cell? ⟨D j, 3, none⟩ = some (.slice aS st.length cS) ∧ w'.frozen? ⟨D j, 3, none⟩ = false) ∧ ∃ T', LV B (w'.setCell ⟨D j, 3, none⟩ v') bl br vp vcs vsd C D T' { h with calls := h.calls.set j { h.calls[j] with stack := st ++ [(a, b)] } } ∧ LGo B (LOwn bl br vcs vsd C D T h.calls.length) (LOwn bl br vcs vsd C D T' h.calls.length) w (w'.setCell ⟨D j, 3, none⟩ v')) := by
    intro v' w' hr hg hv
    have hz := hg.size
    have hz1 := hA.size
    have hbl : ∀ g, g < w.heap.size → (Value.slice aS st.length cS).ownBlock ≠ some g → w'.heap[g]? = w.heap[g]? := fun g h1 h2 => ((hg.block g (by omega) (fun e => h2 e.symm)).trans (NA.block g (by omega))).trans (hA.block g h1)
    have hDb := hbl (D j) hDl.2 hDs
    refine ⟨⟨(World.cell?_of_block (a := ⟨D j, 3, none⟩) hDb).trans b3, (World.frozen?_of_block (a := ⟨D j, 3, none⟩) hDb).trans bf3⟩, HPU.out w' v' (by omega) ?_ (fun g h1 h2 => hbl g h1 (by rw [← HS.out]; exact h2)) hr (fun q e => ?_)⟩
    · exact ((hA.mono hB).trans (NA.mono (by omega))).grown hg (by omega) (fun q e => (hrow.lt q e).1)
    · rcases hv with x | x
      · exact .inl (by rw [HS.out, ← x]; exact e)
      · rw [x] at e; injection e with e; exact .inr (by omega)
  have one1 : OpsAt (W1.alloc (.cells #[.int .i64 a, .int .i64 b] 43)).drew (.slice (some ⟨w.heap.size + 1, 0, none⟩) 1 1) [(a, b)] := by rw [← zA]; exact one_drewL W1 a b _ _
  clear HPU hown0 rx b3 bf3 NA hrow
  go_region_law (refine step_vals _ (by rfl) _ _ (by rfl) B _ _ st [(a, b)] (by rfl) (by rfl) hown one1 (by simp; omega) (by simp; omega) ?_; intro v' w' hrow hg hbk; obtain ⟨a', c', hv', _⟩ := hrow.slice; rw [List.length_append] at hv'; subst hv'; obtain ⟨⟨z4, f4⟩, hLV⟩ := HE.out _ w' hrow hg hbk)
  all_goals exact bodyPost_end (results_none rfl _ _ _) rfl ⟨rfl, hLV⟩

end Go.Proofs.YthkjgfhheejaoaaGreatDoor

/-
  The program's heap at work: a value is put to what runs; the call that runs returns.
-/
namespace Go.Proofs.YthkjgfhheejaoaaGreatDoor
open Go.RowKit

variable {B : Nat} {w w' : World} {bl br : Nat} {vp vcs vsd : Value} {C D : Nat → Nat} {T : Nat → Value × Value} {h h' : Hp}

theorem Tryz.go_running (bl : Nat) (w : World) : (method 268 58 (.pointer (some ⟨bl, 0, none⟩)) "loop.example/gemel/impl.running").run Tryz.prog w = .ok (142, .pointer (some ⟨bl, 0, none⟩)) w := by kernel_rfl

theorem pushH_at {h : Hp} {j : Nat} (hn : h.now = (j : Int)) (hj : j < h.calls.length) (x : Int × Int) : pushH h x = { h with calls := h.calls.set j { h.calls[j] with stack := h.calls[j].stack ++ [x] } } := by
  unfold pushH setH
  rw [cur_at hn hj, hn, Int.toNat_natCast]

set_option maxRecDepth 100000 in
set_option maxHeartbeats 2000000 in
theorem runPut_any (k : LV B w bl br vp vcs vsd C D T h) {j : Nat} (hn : h.now = (j : Int)) (hj : j < h.calls.length) (hB : B ≤ w.heap.size) (a b : Int) (hl : h.calls[j].stack.length ≤ 1000) :
    Calls Tryz.prog 116 #[.pointer (some ⟨br, 0, none⟩), .agg #[.int .i64 a, .int .i64 b]] w fun e w' => e = .returned (.tuple #[]) ∧ ∃ T', LV B w' bl br vp vcs vsd C D T' (pushH h (a, b)) ∧ LGo B (LOwn bl br vcs vsd C D T h.calls.length) (LOwn bl br vcs vsd C D T' h.calls.length) w w' := by
  rw [pushH_at hn hj]
  have hA : Below w.heap.size w (w.alloc (.cells #[.int .i64 a, .int .i64 b] 43)) := (Below.refl _ _).alloc (Nat.le_refl _) _
  have rx := two_new w 43 (.int .i64 a) (.int .i64 b)
  have k1 := k.below hA
  have hm := Tryz.go_running bl
  go_enter Tryz.func116, Tryz.ntmps116
  go_upto_region 1 with fail
  generalize w.alloc (.cells #[.int .i64 a, .int .i64 b] 43) = W1 at *
  have k1d := k1.below ((Below.refl _ _).drew)
  have g1 : LGo B (LOwn bl br vcs vsd C D T h.calls.length) (LOwn bl br vcs vsd C D T h.calls.length) w W1.drew := LGo.of_below hB hA.drew
  have hBd : B ≤ W1.drew.heap.size := by have := hA.size; show B ≤ W1.heap.size; omega
  obtain ⟨⟨x0, x1⟩, _⟩ := two_cells rx
  obtain ⟨⟨y0, y1, y2, y3, y4⟩, _⟩ := five_cells k1.rn
  have HP : Hid (Calls Tryz.prog 121 #[.pointer (some ⟨D j, 0, none⟩), .agg #[.int .i64 a, .int .i64 b]] W1.drew fun e w' => e = .returned (.tuple #[]) ∧ ∃ T', LV B w' bl br vp vcs vsd C D T' { h with calls := h.calls.set j { h.calls[j] with stack := h.calls[j].stack ++ [(a, b)] } } ∧ LGo B (LOwn bl br vcs vsd C D T h.calls.length) (LOwn bl br vcs vsd C D T' h.calls.length) W1.drew w') := bodyPut_any k1d hj hBd a b hl
  have HR : Hid (Calls Tryz.prog 142 #[.pointer (some ⟨bl, 0, none⟩)] W1.drew fun e w' => e = .returned (.pointer (some ⟨D j, 0, none⟩)) ∧ w' = W1.drew) := running_any k1d hn hj
  clear k k1 k1d rx
  go_region_law (first
    | (go_simp; go_at_call 121; refine HP.out.mono ?_; rintro e w2 ⟨rfl, T2, k2, g2⟩)
    | (go_simp; go_at_call 142; refine HR.out.mono ?_; rintro e w' ⟨rfl, hw⟩; obtain rfl := hw.symm))
  all_goals exact bodyPost_end (results_none rfl _ _ _) rfl ⟨rfl, T2, k2, g1.trans g2⟩

set_option maxRecDepth 100000 in
theorem dieL_any (d : Nat) (w : World) (x3 x4 : Value) (h3 : w.cell? ⟨d, 3, none⟩ = some x3) (h4 : w.cell? ⟨d, 4, none⟩ = some x4) (f3 : w.frozen? ⟨d, 3, none⟩ = false) (f4 : w.frozen? ⟨d, 4, none⟩ = false) :
    Calls Tryz.prog 145 #[.pointer (some ⟨d, 0, none⟩)] w fun e w' => e = .returned (.tuple #[]) ∧ w' = (w.setCell ⟨d, 3, none⟩ (.slice none 0 0)).setCell ⟨d, 4, none⟩ (.bool true) := by
  go_enter Tryz.func145, Tryz.ntmps145
  go_wp2
  exact bodyPost_end (results_none rfl _ _ _) rfl ⟨rfl, rfl⟩

/-- call j has returned: its values are gone -/
theorem LV.die (k : LV B w bl br vp vcs vsd C D T h) {j : Nat} (hj : j < h.calls.length) : LV B ((w.setCell ⟨D j, 3, none⟩ (.slice none 0 0)).setCell ⟨D j, 4, none⟩ (.bool true)) bl br vp vcs vsd C D (putV T j ((T j).1, .slice none 0 0)) { h with calls := h.calls.set j { h.calls[j] with stack := [], dead := true } } ∧
    LGo B (LOwn bl br vcs vsd C D T h.calls.length) (LOwn bl br vcs vsd C D (putV T j ((T j).1, .slice none 0 0)) h.calls.length) w ((w.setCell ⟨D j, 3, none⟩ (.slice none 0 0)).setCell ⟨D j, 4, none⟩ (.bool true)) := by
  have hDl := k.lo (.body j) hj (D j) rfl
  have hDt : (T j).1.ownBlock ≠ some (D j) := fun e => by have := k.ap (.temps j) (.body j) hj hj (D j) e rfl; cases this
  have hbl : ∀ g, g < w.heap.size → g ≠ D j → (T j).1.ownBlock ≠ some g → (T j).2.ownBlock ≠ some g → ((w.setCell ⟨D j, 3, none⟩ (.slice none 0 0)).setCell ⟨D j, 4, none⟩ (.bool true)).heap[g]? = w.heap[g]? := fun g _ h2 _ _ => (Below.heap_setCell _ _ _ _ (fun e => h2 e)).trans (Below.heap_setCell _ _ _ _ (fun e => h2 e))
  have nt : ∀ q, (T j).1.ownBlock = some q → (T j).1.ownBlock = some q ∨ (T j).2.ownBlock = some q ∨ w.heap.size ≤ q := fun q e => .inl e
  have ns : ∀ q, (Value.slice none 0 0).ownBlock = some q → (T j).1.ownBlock = some q ∨ (T j).2.ownBlock = some q ∨ w.heap.size ≤ q := fun q e => by simp [Value.ownBlock] at e
  refine ⟨k.turn hj rfl (by simp [World.setCell]) hbl (five_set4 (five_set3 (k.bd j hj) (.slice none 0 0)) (.bool true)) (((k.ts j hj).1.set_other _ hDt).set_other _ hDt) (PairRow.nil _ _) nt ns (fun q _ e => by simp [Value.ownBlock] at e), LV.turn_go hj ((Below.refl _ _ |>.setCell (p := ⟨D j, 3, none⟩) hDl.1 _).setCell (p := ⟨D j, 4, none⟩) hDl.1 _) hbl nt ns⟩

theorem leaveH_at {h : Hp} {j : Nat} (hn : h.now = (j : Int)) (hj : j < h.calls.length) : leaveH h = { h with calls := (h.calls.set j { h.calls[j] with sender := -1 }).set j { h.calls[j] with stack := [], sender := -1, dead := true }, now := h.calls[j].sender } := by
  unfold leaveH setH dieC
  rw [cur_at hn hj, hn, Int.toNat_natCast, List.set_set]

set_option maxRecDepth 100000 in
set_option maxHeartbeats 2000000 in
theorem leave_any (k : LV B w bl br vp vcs vsd C D T h) {j : Nat} (hn : h.now = (j : Int)) (hj : j < h.calls.length) :
    Calls Tryz.prog 140 #[.pointer (some ⟨bl, 0, none⟩)] w fun e w' => e = .returned (.tuple #[]) ∧ ∃ T', LV B w' bl br vp vcs vsd C D T' (leaveH h) ∧ LGo B (LOwn bl br vcs vsd C D T h.calls.length) (LOwn bl br vcs vsd C D T' h.calls.length) w w' := by
  rw [leaveH_at hn hj]
  have hbl := k.lo .heap trivial bl rfl
  have hCl := k.lo (.call j) hj (C j) rfl
  have hCb : C j ≠ bl := fun e => by have := k.ap (.call j) .heap hj trivial (C j) rfl (by rw [e]; rfl); cases this
  have hDb : D j ≠ bl := fun e => by have := k.ap (.body j) .heap hj trivial (D j) rfl (by rw [e]; rfl); cases this
  have hDC : D j ≠ C j := fun e => by have := k.ap (.body j) (.call j) hj hj (D j) rfl (by rw [e]; rfl); cases this
  obtain ⟨q, hq⟩ : ∃ q, ptrN C h.calls[j].sender = .pointer q := by
    unfold ptrN
    split
    · exact ⟨_, rfl⟩
    · exact ⟨_, rfl⟩
  have kn := k.now h.calls[j].sender (.pointer q) hq.symm
  have gn : LGo B (LOwn bl br vcs vsd C D T h.calls.length) (LOwn bl br vcs vsd C D T h.calls.length) w (w.setCell ⟨bl, 1, none⟩ (.pointer q)) := LGo.set (p := ⟨bl, 1, none⟩) ⟨.heap, trivial, rfl⟩ hbl.1 _
  have ks := kn.snd (j := j) hj (-1) (.pointer none) rfl
  have gs : LGo B (LOwn bl br vcs vsd C D T h.calls.length) (LOwn bl br vcs vsd C D T h.calls.length) (w.setCell ⟨bl, 1, none⟩ (.pointer q)) ((w.setCell ⟨bl, 1, none⟩ (.pointer q)).setCell ⟨C j, 2, none⟩ (.pointer none)) := LGo.set (p := ⟨C j, 2, none⟩) ⟨.call j, hj, rfl⟩ hCl.1 _
  have hjs : j < (h.calls.set j { h.calls[j] with sender := -1 }).length := by rw [List.length_set]; exact hj
  obtain ⟨kd, gd⟩ := ks.die (j := j) hjs
  simp only [List.getElem_set_self, List.length_set] at kd gd
  have G := (gn.trans gs).trans gd
  have HK : Hid _ := kd
  have HG : Hid _ := G
  obtain ⟨⟨x0, x1⟩, xf0, xf1⟩ := two_cells k.hp
  rw [hn, ptrN_at] at x1
  obtain ⟨⟨y0, y1, y2⟩, yf0, yf1, yf2⟩ := trio_cells (k.cl j hj)
  rw [hq] at y2
  obtain ⟨⟨z0, z1, z2⟩, _⟩ := trio_cells (ks.cl j hjs)
  obtain ⟨⟨b0, b1, b2, b3, b4⟩, bf0, bf1, bf2, bf3, bf4⟩ := five_cells (ks.bd j hjs)
  clear kd G gd gs gn ks kn k
  go_enter Tryz.func140, Tryz.ntmps140
  go_wp2_with (go_at_call 145; refine (dieL_any (D j) _ _ _ b3 b4 bf3 bf4).mono ?_; rintro e w' ⟨rfl, hw⟩; subst hw)
  exact bodyPost_end (results_none rfl _ _ _) rfl ⟨rfl, _, HK.out, HG.out⟩

end Go.Proofs.YthkjgfhheejaoaaGreatDoor

/-
  The program's heap at work: one goes back to a call.
-/
namespace Go.Proofs.YthkjgfhheejaoaaGreatDoor
open Go.RowKit

variable {B : Nat} {w w' : World} {bl br : Nat} {vp vcs vsd : Value} {C D : Nat → Nat} {T : Nat → Value × Value} {h h' : Hp}

set_option maxRecDepth 100000 in
set_option maxHeartbeats 4000000 in
theorem backTo_any (k : LV B w bl br vp vcs vsd C D T h) {b : Nat} {l : List Nat} (hw : Waits h.calls h.now l) (hb : b ∈ l) (hl : l.length ≤ h.calls.length) :
    Calls Tryz.prog 137 #[.pointer (some ⟨bl, 0, none⟩), .int .i64 b] w fun e w' => e = .returned (.tuple #[]) ∧ ∃ T', LV B w' bl br vp vcs vsd C D T' (backTo h.calls.length h b) ∧ LGo B (LOwn bl br vcs vsd C D T h.calls.length) (LOwn bl br vcs vsd C D T' h.calls.length) w w' := by
  obtain ⟨R, hR⟩ : ∃ R, backTo h.calls.length h b = R := ⟨_, rfl⟩
  rw [hR]
  have HS : Hid (∃ (hc : Hp) (T' : Nat → Value × Value) (fc : Nat) (lc : List Nat), LV B w bl br vp vcs vsd C D T' hc ∧ LGo B (LOwn bl br vcs vsd C D T h.calls.length) (LOwn bl br vcs vsd C D T' h.calls.length) w w ∧ Waits hc.calls hc.now lc ∧ b ∈ lc ∧ lc.length ≤ fc ∧ backTo fc hc b = R ∧ hc.calls.length = h.calls.length ∧ l.length = lc.length) := ⟨h, T, h.calls.length, l, k, LGo.refl _ _ _, hw, hb, hl, hR, rfl, rfl⟩
  generalize hN : h.calls.length = n at *
  clear k hw hb hR hN
  go_enter Tryz.func137, Tryz.ntmps137
  go_wp2
  go_loopg [] l.length (fun g wr => ∃ (hc : Hp) (T' : Nat → Value × Value) (fc : Nat) (lc : List Nat), LV B wr bl br vp vcs vsd C D T' hc ∧ LGo B (LOwn bl br vcs vsd C D T n) (LOwn bl br vcs vsd C D T' n) w wr ∧ Waits hc.calls hc.now lc ∧ b ∈ lc ∧ lc.length ≤ fc ∧ backTo fc hc b = R ∧ hc.calls.length = n ∧ g = lc.length)
  case atStart => exact HS.out
  case round =>
    obtain ⟨hc, T', fc, lc, kc, gc, hwc, hbc, hlf, hbk, hcn, rfl⟩ := hrel
    have hpos : 0 < lc.length := List.length_pos_iff.2 (fun e => by rw [e] at hbc; cases hbc)
    obtain ⟨fc', rfl⟩ : ∃ f, fc = f + 1 := ⟨fc - 1, by omega⟩
    have hnn : 0 ≤ hc.now := by
      by_cases e : 0 ≤ hc.now
      · exact e
      · obtain ⟨f, hf⟩ := hwc.ch
        rw [walkC_neg (by omega)] at hf
        cases hf
        cases hbc
    obtain ⟨j, hj⟩ := Int.eq_ofNat_of_zero_le hnn
    rw [hj] at hwc
    obtain ⟨hjl, t0, hl0, _⟩ := hwc.head
    obtain ⟨⟨x0, x1⟩, _⟩ := two_cells kc.hp
    rw [hj, ptrN_at] at x1
    obtain ⟨⟨y0, y1, y2⟩, _⟩ := trio_cells (kc.cl j hjl)
    by_cases hjb : j = b
    · subst hjb
      have hE : R = hc := by rw [← hbk]; exact backTo_here hj
      have HK : Hid (LV B wr bl br vp vcs vsd C D T' R) := by rw [hE]; exact kc
      clear kc
      go_wp2
      exact bodyPost_end (results_none rfl _ _ _) rfl ⟨rfl, T', HK.out, gc⟩
    · have hne : ((j : Int) == (b : Int)) = false := beq_eq_false_iff_ne.2 (by omega)
      have HL := leave_any kc hj hjl
      have hbk2 : backTo fc' (leaveH hc) b = R := by rw [← hbk, backTo_on (by rw [hj]; omega)]
      obtain ⟨t, hlt, hwt, _⟩ := hwc.leave hjl (dieC hc.calls[j]) rfl
      obtain ⟨e1, e2, _⟩ := leave_at hj hjl
      have hwl : Waits (leaveH hc).calls (leaveH hc).now t := by rw [e1, e2]; exact hwt
      have hbt : b ∈ t := by
        rw [hlt] at hbc
        rcases List.mem_cons.1 hbc with e | e
        · exact absurd e.symm hjb
        · exact e
      have htl : t.length + 1 = lc.length := by rw [hlt]; rfl
      have hcl : (leaveH hc).calls.length = n := by rw [e1, List.length_set]; exact hcn
      have HX : Hid _ := And.intro hwl (And.intro hbt (And.intro hbk2 hcl))
      clear hwl hbt hbk2 hcl e1 e2 hwt hwc hbk kc
      rw [hcn] at HL
      generalize leaveH hc = hd at *
      go_wp2_with (go_at_call 140; refine HL.mono ?_; rintro e w2 ⟨rfl, T2, k2, g2⟩)
      have g3 := gc.trans g2
      go_roundg t.length
      case measure => omega
      case rel => exact ⟨hd, T2, fc', t, k2, g3, HX.out.1, HX.out.2.1, by omega, HX.out.2.2.1, HX.out.2.2.2, rfl⟩

end Go.Proofs.YthkjgfhheejaoaaGreatDoor

/-
  The program's heap at work: a value is said.
-/
namespace Go.Proofs.YthkjgfhheejaoaaGreatDoor
open Go.RowKit

variable {B : Nat} {w w' : World} {bl br : Nat} {vp vcs vsd : Value} {C D : Nat → Nat} {T : Nat → Value × Value} {h h' : Hp}

theorem Tryz.go_looked (bl : Nat) (w : World) : (method 268 58 (.pointer (some ⟨bl, 0, none⟩)) "loop.example/gemel/impl.looked").run Tryz.prog w = .ok (141, .pointer (some ⟨bl, 0, none⟩)) w := by kernel_rfl
theorem Tryz.go_here (bl : Nat) (w : World) : (method 268 58 (.pointer (some ⟨bl, 0, none⟩)) "loop.example/gemel/impl.here").run Tryz.prog w = .ok (139, .pointer (some ⟨bl, 0, none⟩)) w := by kernel_rfl
theorem Tryz.go_sender (bl : Nat) (w : World) : (method 268 58 (.pointer (some ⟨bl, 0, none⟩)) "loop.example/gemel/impl.sender").run Tryz.prog w = .ok (143, .pointer (some ⟨bl, 0, none⟩)) w := by kernel_rfl
theorem Tryz.go_enter (bl : Nat) (w : World) : (method 268 58 (.pointer (some ⟨bl, 0, none⟩)) "loop.example/gemel/impl.enter").run Tryz.prog w = .ok (138, .pointer (some ⟨bl, 0, none⟩)) w := by kernel_rfl
theorem Tryz.go_leave (bl : Nat) (w : World) : (method 268 58 (.pointer (some ⟨bl, 0, none⟩)) "loop.example/gemel/impl.leave").run Tryz.prog w = .ok (140, .pointer (some ⟨bl, 0, none⟩)) w := by kernel_rfl
theorem Tryz.go_backTo (bl : Nat) (w : World) : (method 268 58 (.pointer (some ⟨bl, 0, none⟩)) "loop.example/gemel/impl.backTo").run Tryz.prog w = .ok (137, .pointer (some ⟨bl, 0, none⟩)) w := by kernel_rfl

/-- what append to what was said needs, and what it leaves: the value lies in a box behind world w -/
theorem say_tail (k : LV B w bl br vp vcs vsd C D T h) (hB : B ≤ w.heap.size) (W1 : World) (hA : Below w.heap.size w W1) (a m : Int) {sa : Option Addr} {sc : Nat} (hS : vsd = .slice sa h.said.length sc) :
    PairRow B (W1.alloc (.cells #[.int .i64 a, .int .i64 m] 43)).drew (.slice sa h.said.length sc) h.said ∧ (W1.cell? ⟨br, 3, none⟩ = some (.slice sa h.said.length sc)) ∧
    ∀ v' w', PairRow B w' v' (h.said ++ [(a, m)]) → (W1.alloc (.cells #[.int .i64 a, .int .i64 m] 43)).drew.grownBy w' (Value.slice sa h.said.length sc).ownBlock → (v'.ownBlock = (Value.slice sa h.said.length sc).ownBlock ∨ v'.ownBlock = some (W1.alloc (.cells #[.int .i64 a, .int .i64 m] 43)).drew.heap.size) →
      (w'.cell? ⟨br, 3, none⟩ = some (.slice sa h.said.length sc) ∧ w'.frozen? ⟨br, 3, none⟩ = false) ∧ ∃ vsd', LV B (w'.setCell ⟨br, 3, none⟩ v') bl br vp vcs vsd' C D T { h with said := h.said ++ [(a, m)] } ∧ LGo B (LOwn bl br vcs vsd C D T h.calls.length) (LOwn bl br vcs vsd' C D T h.calls.length) w (w'.setCell ⟨br, 3, none⟩ v') := by
  have NA : Below W1.heap.size W1 (W1.alloc (.cells #[.int .i64 a, .int .i64 m] 43)).drew := ((Below.refl _ _).alloc (Nat.le_refl _) _).drew
  have zN : (W1.alloc (.cells #[.int .i64 a, .int .i64 m] 43)).drew.heap.size = W1.heap.size + 1 := by simp
  have hz1 := hA.size
  have hbr := k.lo .run trivial br rfl
  obtain ⟨⟨_, _, _, b3, _⟩, _, _, _, bf3, _⟩ := five_cells k.rn
  have hrs : vsd.ownBlock ≠ some br := fun e => by have := k.ap .said .run trivial trivial br e rfl; cases this
  have hrow := k.sd
  rw [hS] at b3
  refine ⟨?_, cell_below hA b3, fun v' w' hr hg hv => ?_⟩
  · rw [← hS]; exact (hrow.below hA).below NA
  have hz := hg.size
  have hbl : ∀ g, g < w.heap.size → vsd.ownBlock ≠ some g → w'.heap[g]? = w.heap[g]? := fun g h1 h2 => ((hg.block g (by omega) (fun e => h2 (by rw [hS]; exact e.symm))).trans (NA.block g (by omega))).trans (hA.block g h1)
  have hDb := hbl br hbr.2 hrs
  have hvn : ∀ q, v'.ownBlock = some q → vsd.ownBlock = some q ∨ w.heap.size ≤ q := fun q e => by
    rcases hv with x | x
    · exact .inl (by rw [hS, ← x]; exact e)
    · rw [x] at e; injection e with e; exact .inr (by omega)
  have hBw : Below B w w' := ((hA.mono hB).trans (NA.mono (by omega))).grown hg (by omega) (fun q e => (hrow.lt q (by rw [hS]; exact e)).1)
  exact ⟨⟨(World.cell?_of_block (a := ⟨br, 3, none⟩) hDb).trans b3, (World.frozen?_of_block (a := ⟨br, 3, none⟩) hDb).trans bf3⟩, v', k.say v' _ (by omega) hbl hr hvn, k.say_go v' hBw hbl hvn⟩

set_option maxRecDepth 100000 in
set_option maxHeartbeats 4000000 in
theorem runSay_any (k : LV B w bl br vp vcs vsd C D T h) (hB : B ≤ w.heap.size) (a b : Int) (hv : a = 2 → 0 ≤ b ∧ b < (h.calls.length : Int)) (hsl : h.said.length ≤ 900000) :
    Calls Tryz.prog 120 #[.pointer (some ⟨br, 0, none⟩), .agg #[.int .i64 a, .int .i64 b]] w fun e w' => e = .returned (.tuple #[]) ∧ ∃ vsd', LV B w' bl br vp vcs vsd' C D T (sayH h (a, b)) ∧ LGo B (LOwn bl br vcs vsd C D T h.calls.length) (LOwn bl br vcs vsd' C D T h.calls.length) w w' := by
  have hA : Below w.heap.size w (w.alloc (.cells #[.int .i64 a, .int .i64 b] 43)) := (Below.refl _ _).alloc (Nat.le_refl _) _
  have rx := two_new w 43 (.int .i64 a) (.int .i64 b)
  have zA : (w.alloc (.cells #[.int .i64 a, .int .i64 b] 43)).heap.size = w.heap.size + 1 := by simp
  obtain ⟨sa, sc, hS, _⟩ := k.sd.slice
  have hbr := k.lo .run trivial br rfl
  by_cases ha : a = 2
  · subst ha
    obtain ⟨h0, h1⟩ := hv rfl
    obtain ⟨i, rfl⟩ := Int.eq_ofNat_of_zero_le h0
    have hi : i < h.calls.length := by omega
    have hsay : sayH h (2, (i : Int)) = { h with said := h.said ++ [(2, h.calls[i].m)] } := by
      unfold sayH sayV
      rw [if_pos rfl, Int.toNat_natCast, getD_at hi]
    rw [hsay]
    have hDi := k.lo (.body i) hi (D i) rfl
    have k1 := k.below hA
    have hm := Tryz.go_looked bl
    have hW : Below w.heap.size w (((w.alloc (.cells #[.int .i64 2, .int .i64 i] 43)).setCell ⟨w.heap.size, 1, none⟩ (.int .i64 h.calls[i].m)).drew) := (hA.setCell (p := ⟨w.heap.size, 1, none⟩) (Nat.le_refl _) _).drew
    have rW : (((w.alloc (.cells #[.int .i64 2, .int .i64 i] 43)).setCell ⟨w.heap.size, 1, none⟩ (.int .i64 h.calls[i].m)).drew).rowIs w.heap.size 43 2 (two (.int .i64 2) (.int .i64 h.calls[i].m)) := (rx.set 1 (.int .i64 h.calls[i].m)).congr fun q hq => by match q, hq with | 0, _ => rfl | 1, _ => rfl
    obtain ⟨hown, c3, hend⟩ := say_tail k hB _ hW 2 h.calls[i].m hS
    have HE : Hid _ := hend
    have c0 := (five_cells (k1.bd i hi)).1.1
    clear hend
    obtain ⟨⟨x0, x1⟩, xf0, xf1⟩ := two_cells rx
    obtain ⟨⟨y0, y1, y2, y3, y4⟩, _⟩ := five_cells k1.rn
    obtain ⟨⟨t0, t1⟩, _⟩ := two_cells rW
    generalize h.calls[i].m = mm at *
    go_enter Tryz.func120, Tryz.ntmps120
    go_upto_region 1 with fail
    generalize w.alloc (.cells #[.int .i64 2, .int .i64 i] 43) = W1 at *
    have k1d := k1.below ((Below.refl _ _).drew)
    have HR : Hid (Calls Tryz.prog 141 #[.pointer (some ⟨bl, 0, none⟩), .int .i64 i] W1.drew fun e w' => e = .returned (.pointer (some ⟨D i, 0, none⟩)) ∧ w' = W1.drew) := looked_any k1d hi
    have hbrW : br < W1.heap.size := by omega
    have hwW : w.heap.size < W1.heap.size := by omega
    have hzW : (W1.setCell ⟨w.heap.size, 1, none⟩ (.int .i64 mm)).drew.heap.size = w.heap.size + 1 := by simp [World.setCell]; exact zA
    clear k k1 k1d rx rW hW
    go_wp2_with fail
    go_region_law (go_simp; go_at_call 141; refine HR.out.mono ?_; rintro e w' ⟨rfl, hw⟩; obtain rfl := hw.symm)
    all_goals
      generalize (W1.setCell ⟨w.heap.size, 1, none⟩ (.int .i64 mm)).drew = W2 at *
      have one1 : OpsAt (W2.alloc (.cells #[.int .i64 2, .int .i64 mm] 43)).drew (.slice (some ⟨w.heap.size + 1, 0, none⟩) 1 1) [(2, mm)] := by rw [← hzW]; exact one_drewL W2 2 mm _ _
      have hz1 : B ≤ (W2.alloc (.cells #[.int .i64 2, .int .i64 mm] 43)).drew.heap.size := by simp; omega
      have hbr2 : br < W2.heap.size := by omega
      have hw2 : w.heap.size < W2.heap.size := by omega
      clear x0 x1 y0 y1 y2 y3 y4 c0 xf0 xf1
      go_wp2_with fail
      go_region_law (refine step_vals _ (by rfl) _ _ (by rfl) B _ _ h.said [(2, mm)] (by rfl) (by rfl) hown one1 (by simp; omega) (by first | exact hz1 | (simp; omega)) ?_; intro v' w' hrow hg hbk; obtain ⟨a', c', hv', _⟩ := hrow.slice; rw [List.length_append] at hv'; subst hv'; obtain ⟨⟨z4, f4⟩, hLV⟩ := HE.out _ w' hrow hg hbk)
      all_goals exact bodyPost_end (results_none rfl _ _ _) rfl ⟨rfl, hLV⟩
  · have hae : (a == 2) = false := beq_eq_false_iff_ne.2 ha
    have hsay : sayH h (a, b) = { h with said := h.said ++ [(a, b)] } := by unfold sayH sayV; rw [if_neg ha]
    rw [hsay]
    obtain ⟨hown, c3, hend⟩ := say_tail k hB _ hA a b hS
    have HE : Hid _ := hend
    clear hend
    obtain ⟨⟨x0, x1⟩, _⟩ := two_cells rx
    go_enter Tryz.func120, Tryz.ntmps120
    go_upto_region 1 with fail
    generalize w.alloc (.cells #[.int .i64 a, .int .i64 b] 43) = W1 at *
    have one1 : OpsAt (W1.alloc (.cells #[.int .i64 a, .int .i64 b] 43)).drew (.slice (some ⟨w.heap.size + 1, 0, none⟩) 1 1) [(a, b)] := by rw [← zA]; exact one_drewL W1 a b _ _
    have hz1 : B ≤ (W1.alloc (.cells #[.int .i64 a, .int .i64 b] 43)).drew.heap.size := by simp; omega
    have hbrW : br < W1.heap.size := by omega
    have hwW : w.heap.size < W1.heap.size := by omega
    clear k rx
    go_wp2_with fail
    go_region_law (refine step_vals _ (by rfl) _ _ (by rfl) B _ _ h.said [(a, b)] (by rfl) (by rfl) hown one1 (by simp; omega) (by first | exact hz1 | (simp; omega)) ?_; intro v' w' hrow hg hbk; obtain ⟨a', c', hv', _⟩ := hrow.slice; rw [List.length_append] at hv'; subst hv'; obtain ⟨⟨z4, f4⟩, hLV⟩ := HE.out _ w' hrow hg hbk)
    all_goals exact bodyPost_end (results_none rfl _ _ _) rfl ⟨rfl, hLV⟩

end Go.Proofs.YthkjgfhheejaoaaGreatDoor

/-
  The program's heap at work: a call is born.
-/
namespace Go.Proofs.YthkjgfhheejaoaaGreatDoor
open Go.RowKit

variable {B : Nat} {w w' : World} {bl br : Nat} {vp vcs vsd : Value} {C D : Nat → Nat} {T : Nat → Value × Value} {h h' : Hp}

theorem Tryz.infoLC : (Tryz.prog.info? 69).map (fun i => (i.zero, i.size, i.bytes)) = some (some (.pointer none), 1, 8) := by kernel_rfl

theorem src_ptr {w : World} {c g : Nat} (hc : w.cell? ⟨g, 0, none⟩ = some (.pointer (some ⟨c, 0, none⟩))) : Src Tryz.prog 1 68 (.slice (some ⟨g, 0, none⟩) 1 1) 1 [.pointer (some ⟨c, 0, none⟩)] w := by
  refine Src.ofSlice w Tryz.underlying68 ⟨g, 0, none⟩ _ 1 _ rfl (fun j u hu => ?_) (fun u hu => ?_)
  · cases j with
    | zero => simp at hu; subst hu; rw [Addr.add_lit]; exact hc
    | succ j => simp at hu
  · simp at hu; subst hu; rfl

theorem run_append_ptrs {ty : TypeId} {B : Nat} {w : World} {v xv : Value} {n : Nat} {xs : List Value} {y : Value} (hown : CRow B 1 w v n xs) (hM : Src Tryz.prog 1 68 xv 1 [y] w) (hL : n + 1 ≤ 1000000) (hB : B ≤ w.heap.size) :
    ∃ v' w', (Builtin.append_ #[68, 68] ty #[v, xv]).run Tryz.prog w = .ok v' w' ∧ CRow B 1 w' v' (n + 1) (xs ++ [y]) ∧ w.grownBy w' v.ownBlock ∧ (v'.ownBlock = v.ownBlock ∨ v'.ownBlock = some w.heap.size) := by
  obtain ⟨i0, hi, hz0, hz1, hz2⟩ := info_parts Tryz.infoLC
  have h1 : CRow B i0.size w v n xs := by rw [hz1]; exact hown
  have h2 : Src Tryz.prog i0.size 68 xv 1 [y] w := by rw [hz1]; exact hM
  obtain ⟨v', w', hr, hc, hg, hb⟩ := run_append_rows (P := Tryz.prog) (ty := ty) Tryz.underlying68 hi hz0 (by rw [hz1]; rfl) (by rw [hz2]; omega) h1 xv 1 [y] h2 hL hB
  rw [hz1] at hc
  exact ⟨v', w', hr, hc, hg, hb⟩

theorem step_ptrs {ops : Array Oper} {o : Oper} {act : Act} {K : Act → World → Prop} {Q : Exit → Act → World → Prop} {E : Prop} (w : World) (hgd : o.guard = none) (s x : Operand)
    (ho : o.op = .call { callee := .builtin .append, args := #[s, x], argTypes := #[68, 68] }) (B : Nat) (v xv : Value) (n : Nat) (xs : List Value) (y : Value) (hs : act.eval s = v) (hx : act.eval x = xv) (hown : CRow B 1 w v n xs) (hM : Src Tryz.prog 1 68 xv 1 [y] w)
    (hL : n + 1 ≤ 1000000) (hB : B ≤ w.heap.size)
    (h : ∀ v' w', CRow B 1 w' v' (n + 1) (xs ++ [y]) → w.grownBy w' v.ownBlock → (v'.ownBlock = v.ownBlock ∨ v'.ownBlock = some w.heap.size) → K (act.put o.dst v') w') :
    if Region.wanted o (yielded ops act.tmps) = true then Oper.wp Tryz.prog o act w K Q else E := by
  obtain ⟨v', w', hr, h2, h3, h4⟩ := run_append_ptrs (ty := o.type) hown hM hL hB
  rw [if_pos (by simp [Region.wanted, hgd])]
  unfold Oper.wp execOp
  simp only [ho, resolve, invoke, builtin, Sem.run_bind, Sem.run_pure, Result.andThen_ok, List.map_toArray, List.map_cons, List.map_nil, hs, hx, hr]
  exact h v' w' h2 h3 h4

theorem CRow.form1 {B n : Nat} {w : World} {v : Value} {xs : List Value} (h : CRow B 1 w v n xs) : ∃ a cap, v = .slice a n cap := by
  obtain ⟨_, h | ⟨g, off, cap, hv, _⟩⟩ := h
  · exact ⟨none, 0, by rw [h.1, h.2]⟩
  · exact ⟨_, cap, hv⟩

/-- the row of pointers and the heap's box are written: a call is born -/
theorem enter_go {w0 : World} (_k : LV B w0 bl br vp vcs vsd C D T h) {c d : Nat} {vcs' : Value} (hbl : ∀ g, g < w0.heap.size → g ≠ bl → vcs.ownBlock ≠ some g → w'.heap[g]? = w0.heap[g]?) (hb : Below B w0 w') (hc : w0.heap.size ≤ c) (hd : w0.heap.size ≤ d) {vt : Value}
    (nv : ∀ q, vcs'.ownBlock = some q → vcs.ownBlock = some q ∨ (w0.heap.size ≤ q ∧ q ≠ c ∧ q ≠ d)) (nt : ∀ q, vt.ownBlock = some q → w0.heap.size ≤ q) :
    LGo B (LOwn bl br vcs vsd C D T h.calls.length) (LOwn bl br vcs' vsd (updN C h.calls.length c) (updN D h.calls.length d) (putV T h.calls.length (vt, .slice none 0 0)) (h.calls.length + 1)) w0 w' := by
  refine ⟨hb, fun g hg hn => hbl g hg (fun e => hn ⟨.heap, trivial, by rw [e]; rfl⟩) (fun e => hn ⟨.row, trivial, e⟩), fun g ⟨x, hx, e⟩ => ?_⟩
  cases x with
  | heap => exact .inl ⟨.heap, trivial, e⟩
  | run => exact .inl ⟨.run, trivial, e⟩
  | said => exact .inl ⟨.said, trivial, e⟩
  | row =>
    rcases nv g e with q | q
    · exact .inl ⟨.row, trivial, q⟩
    · exact .inr q.1
  | call i =>
    simp only [Blk.at] at e
    by_cases q : i = h.calls.length
    · subst q; rw [updN_same] at e; injection e with e; exact .inr (by omega)
    · rw [updN_other _ q] at e; exact .inl ⟨.call i, by have : i < h.calls.length + 1 := hx; show i < h.calls.length; omega, e⟩
  | body i =>
    simp only [Blk.at] at e
    by_cases q : i = h.calls.length
    · subst q; rw [updN_same] at e; injection e with e; exact .inr (by omega)
    · rw [updN_other _ q] at e; exact .inl ⟨.body i, by have : i < h.calls.length + 1 := hx; show i < h.calls.length; omega, e⟩
  | temps i =>
    simp only [Blk.at] at e
    by_cases q : i = h.calls.length
    · subst q; rw [putV_same] at e; exact .inr (nt g e)
    · rw [putV_other _ _ q] at e; exact .inl ⟨.temps i, by have : i < h.calls.length + 1 := hx; show i < h.calls.length; omega, e⟩
  | stack i =>
    simp only [Blk.at] at e
    by_cases q : i = h.calls.length
    · subst q; rw [putV_same] at e; simp [Value.ownBlock] at e
    · rw [putV_other _ _ q] at e; exact .inl ⟨.stack i, by have : i < h.calls.length + 1 := hx; show i < h.calls.length; omega, e⟩

set_option maxRecDepth 100000 in
set_option maxHeartbeats 4000000 in
theorem enter_any {w0 : World} (k : LV B w0 bl br vp vcs vsd C D T h) (hb0 : Below w0.heap.size w0 w) (hB : B ≤ w0.heap.size) {d : Nat} (hd : w0.heap.size ≤ d) {vt : Value} {cl : Cl} (hst : cl.stack = []) (hsn : cl.sender = h.now) (hnow : h.now < (h.calls.length : Int)) (hsd : ∀ i, (hi : i < h.calls.length) → h.calls[i].sender < (h.calls.length : Int))
    (rd : w.rowIs d 111 5 (five (.int .i64 cl.m) (.int .i64 cl.pc) vt (.slice none 0 0) (.bool cl.dead))) (ht : PairRow B w vt cl.temps) (nt : ∀ q, vt.ownBlock = some q → w0.heap.size ≤ q ∧ q ≠ d) (hl : h.calls.length ≤ 1000) :
    Calls Tryz.prog 138 #[.pointer (some ⟨bl, 0, none⟩), .pointer (some ⟨d, 0, none⟩)] w fun e w' => e = .returned (.tuple #[]) ∧ ∃ vcs' C' D' T', LV B w' bl br vp vcs' vsd C' D' T' { h with calls := h.calls ++ [cl], now := (h.calls.length : Int) } ∧ LGo B (LOwn bl br vcs vsd C D T h.calls.length) (LOwn bl br vcs' vsd C' D' T' (h.calls.length + 1)) w0 w' := by
  have kw := k.below hb0
  obtain ⟨av, cv, hvc⟩ := k.row.form1
  subst hvc
  obtain ⟨q, hq⟩ : ∃ q, ptrN C h.now = .pointer q := by
    unfold ptrN
    split
    · exact ⟨_, rfl⟩
    · exact ⟨_, rfl⟩
  have hbl := k.lo .heap trivial bl rfl
  have hz0 := hb0.size
  have hdl := rd.lt
  have hblw : bl < w.heap.size := by omega
  have hrl : ∀ g, (Value.slice av h.calls.length cv).ownBlock = some g → g < w0.heap.size ∧ g ≠ bl := fun g e => ⟨(k.lo .row trivial g e).2, fun e2 => by have := k.ap .row .heap trivial trivial g e (by rw [e2]; rfl); cases this⟩
  -- the world behind the first statement
  have zs : (w.setCell ⟨bl, 1, none⟩ (.pointer (some ⟨w.heap.size, 0, none⟩))).heap.size = w.heap.size := by simp [World.setCell]
  have NS : Below (w.setCell ⟨bl, 1, none⟩ (.pointer (some ⟨w.heap.size, 0, none⟩))).heap.size (w.setCell ⟨bl, 1, none⟩ (.pointer (some ⟨w.heap.size, 0, none⟩))) (((w.setCell ⟨bl, 1, none⟩ (.pointer (some ⟨w.heap.size, 0, none⟩))).alloc (.cells #[.pointer (some ⟨d, 0, none⟩), .int .i64 h.calls.length, .pointer q] 93)).drew) := ((Below.refl _ _).alloc (Nat.le_refl _) _).drew
  have rc1 : (((w.setCell ⟨bl, 1, none⟩ (.pointer (some ⟨w.heap.size, 0, none⟩))).alloc (.cells #[.pointer (some ⟨d, 0, none⟩), .int .i64 h.calls.length, .pointer q] 93)).drew).rowIs w.heap.size 93 3 (trio (.pointer (some ⟨d, 0, none⟩)) (.int .i64 h.calls.length) (.pointer q)) := by
    have r := trio_new (w.setCell ⟨bl, 1, none⟩ (.pointer (some ⟨w.heap.size, 0, none⟩))) 93 (.pointer (some ⟨d, 0, none⟩)) (.int .i64 h.calls.length) (.pointer q)
    rw [zs] at r
    exact r
  have hp1 : (((w.setCell ⟨bl, 1, none⟩ (.pointer (some ⟨w.heap.size, 0, none⟩))).alloc (.cells #[.pointer (some ⟨d, 0, none⟩), .int .i64 h.calls.length, .pointer q] 93)).drew).rowIs bl 71 2 (two (.slice av h.calls.length cv) (.pointer (some ⟨w.heap.size, 0, none⟩))) := row_below NS ((kw.hp.set 1 (.pointer (some ⟨w.heap.size, 0, none⟩))).congr fun i hi => by match i, hi with | 0, _ => rfl | 1, _ => rfl)
  have hz1 : (((w.setCell ⟨bl, 1, none⟩ (.pointer (some ⟨w.heap.size, 0, none⟩))).alloc (.cells #[.pointer (some ⟨d, 0, none⟩), .int .i64 h.calls.length, .pointer q] 93)).drew).heap.size = w.heap.size + 1 := by simp [World.setCell]
  have hblk : ∀ g, g < w.heap.size → g ≠ bl → (((w.setCell ⟨bl, 1, none⟩ (.pointer (some ⟨w.heap.size, 0, none⟩))).alloc (.cells #[.pointer (some ⟨d, 0, none⟩), .int .i64 h.calls.length, .pointer q] 93)).drew).heap[g]? = w.heap[g]? := fun g h1 h2 => (NS.block g (by rw [zs]; exact h1)).trans (Below.heap_setCell _ _ _ _ (fun e => h2 e))
  have row1 : CRow B 1 (((w.setCell ⟨bl, 1, none⟩ (.pointer (some ⟨w.heap.size, 0, none⟩))).alloc (.cells #[.pointer (some ⟨d, 0, none⟩), .int .i64 h.calls.length, .pointer q] 93)).drew) (.slice av h.calls.length cv) h.calls.length (ptrs C h.calls.length) := kw.row.kept (by rw [hz1]; omega) fun g e => hblk g (by have := (hrl g e).1; omega) (hrl g e).2
  have hbW : Below B w (((w.setCell ⟨bl, 1, none⟩ (.pointer (some ⟨w.heap.size, 0, none⟩))).alloc (.cells #[.pointer (some ⟨d, 0, none⟩), .int .i64 h.calls.length, .pointer q] 93)).drew) := (((Below.refl B w).setCell (p := ⟨bl, 1, none⟩) hbl.1 _).alloc (by rw [zs]; omega) _).drew
  obtain ⟨⟨x0, x1⟩, xf0, xf1⟩ := two_cells kw.hp
  obtain ⟨⟨p0, p1⟩, pf0, pf1⟩ := two_cells hp1
  rw [hq] at x1
  have HFIN : Hid (∀ (W1 : World), W1 = ((w.setCell ⟨bl, 1, none⟩ (.pointer (some ⟨w.heap.size, 0, none⟩))).alloc (.cells #[.pointer (some ⟨d, 0, none⟩), .int .i64 h.calls.length, .pointer q] 93)).drew → ∀ v' w', CRow B 1 w' v' (h.calls.length + 1) (ptrs C h.calls.length ++ [.pointer (some ⟨w.heap.size, 0, none⟩)]) → (W1.alloc (.cells #[.pointer (some ⟨w.heap.size, 0, none⟩)] 69)).drew.grownBy w' (Value.slice av h.calls.length cv).ownBlock → (v'.ownBlock = (Value.slice av h.calls.length cv).ownBlock ∨ v'.ownBlock = some (W1.alloc (.cells #[.pointer (some ⟨w.heap.size, 0, none⟩)] 69)).drew.heap.size) → (w'.cell? ⟨bl, 0, none⟩ = some (.slice av h.calls.length cv) ∧ w'.frozen? ⟨bl, 0, none⟩ = false) ∧ ∃ vcs' C' D' T', LV B (w'.setCell ⟨bl, 0, none⟩ v') bl br vp vcs' vsd C' D' T' { h with calls := h.calls ++ [cl], now := (h.calls.length : Int) } ∧ LGo B (LOwn bl br (.slice av h.calls.length cv) vsd C D T h.calls.length) (LOwn bl br vcs' vsd C' D' T' (h.calls.length + 1)) w0 (w'.setCell ⟨bl, 0, none⟩ v')) := by
    intro W1 hW1 v' w' hr hg hv
    rw [← hW1] at rc1 hp1 hz1 hblk hbW
    have NA : Below W1.heap.size W1 (W1.alloc (.cells #[.pointer (some ⟨w.heap.size, 0, none⟩)] 69)).drew := ((Below.refl _ _).alloc (Nat.le_refl _) _).drew
    have zN : (W1.alloc (.cells #[.pointer (some ⟨w.heap.size, 0, none⟩)] 69)).drew.heap.size = w.heap.size + 2 := by simp; omega
    have hzg := hg.size
    have hbw : ∀ g, g < W1.heap.size → (Value.slice av h.calls.length cv).ownBlock ≠ some g → w'.heap[g]? = W1.heap[g]? := fun g h1 h2 => (hg.block g (by omega) (fun e => h2 e.symm)).trans (NA.block g h1)
    have hnr : ∀ g, w0.heap.size ≤ g → (Value.slice av h.calls.length cv).ownBlock ≠ some g := fun g h1 e => by have := (hrl g e).1; omega
    have hbr : (Value.slice av h.calls.length cv).ownBlock ≠ some bl := fun e => (hrl bl e).2 rfl
    have hpw := hp1.of_block (hbw bl (by omega) hbr)
    obtain ⟨⟨c0, _⟩, cf0, _⟩ := two_cells hpw
    have hvb : v'.ownBlock ≠ some bl := fun e => by
      rcases hv with x | x
      · exact hbr (by rw [← x]; exact e)
      · rw [x] at e; injection e with e; omega
    have nv : ∀ g, v'.ownBlock = some g → (Value.slice av h.calls.length cv).ownBlock = some g ∨ (w0.heap.size ≤ g ∧ g ≠ w.heap.size ∧ g ≠ d) := fun g e => by
      rcases hv with x | x
      · exact .inl (by rw [← x]; exact e)
      · rw [x] at e; injection e with e; exact .inr ⟨by omega, by omega, by omega⟩
    have ntt : ∀ g, vt.ownBlock = some g → w0.heap.size ≤ g ∧ g ≠ w.heap.size ∧ g ≠ d ∧ v'.ownBlock ≠ some g := fun g e => by
      have h1 := nt g e
      have h2 := (ht.lt g e).2
      refine ⟨h1.1, by omega, h1.2, fun e2 => ?_⟩
      rcases hv with x | x
      · exact hnr g h1.1 (by rw [← x]; exact e2)
      · rw [x] at e2; injection e2 with e2; omega
    have hF : ∀ g, g < w.heap.size → g ≠ bl → (Value.slice av h.calls.length cv).ownBlock ≠ some g → (w'.setCell ⟨bl, 0, none⟩ v').heap[g]? = w.heap[g]? := fun g h1 h2 h3 => ((Below.heap_setCell _ _ _ _ (fun e => h2 e)).trans (hbw g (by omega) h3)).trans (hblk g h1 h2)
    have hF0 : ∀ g, g < w0.heap.size → g ≠ bl → (Value.slice av h.calls.length cv).ownBlock ≠ some g → (w'.setCell ⟨bl, 0, none⟩ v').heap[g]? = w0.heap[g]? := fun g h1 h2 h3 => (hF g (by omega) h2 h3).trans (hb0.block g h1)
    have hsz : w0.heap.size ≤ (w'.setCell ⟨bl, 0, none⟩ v').heap.size := by simp [World.setCell]; omega
    have hhp : (w'.setCell ⟨bl, 0, none⟩ v').rowIs bl 71 2 (two v' (.pointer (some ⟨w.heap.size, 0, none⟩))) := two_set0 hpw v'
    have hrw : CRow B 1 (w'.setCell ⟨bl, 0, none⟩ v') v' (h.calls.length + 1) (ptrs C h.calls.length ++ [.pointer (some ⟨w.heap.size, 0, none⟩)]) := hr.kept (by simp [World.setCell]) fun g e => Below.heap_setCell _ _ _ _ (fun e2 => hvb (by have e3 : g = bl := e2; rw [← e3]; exact e))
    have hcl : (w'.setCell ⟨bl, 0, none⟩ v').rowIs w.heap.size 93 3 (trio (.pointer (some ⟨d, 0, none⟩)) (.int .i64 h.calls.length) (ptrN C h.now)) := by
      rw [hq]
      exact rc1.of_block ((Below.heap_setCell _ _ _ _ (by show w.heap.size ≠ bl; omega)).trans (hbw _ (by omega) (hnr _ (by omega))))
    have hbd := rd.of_block (hF d hdl (by omega) (hnr d hd))
    have htF : PairRow B (w'.setCell ⟨bl, 0, none⟩ v') vt cl.temps := ht.kept (by simp [World.setCell]; omega) fun g e => hF g (ht.lt g e).2 (by have := (nt g e).1; omega) (hnr g (nt g e).1)
    have hbF : Below B w0 (w'.setCell ⟨bl, 0, none⟩ v') := ((((hb0.mono hB).trans hbW).trans (NA.mono (by omega))).grown hg (by omega) (fun g e => (k.lo .row trivial g e).1)).setCell (p := ⟨bl, 0, none⟩) hbl.1 v'
    exact ⟨⟨c0, cf0⟩, v', _, _, _, k.enter hst hsn hnow hsd hB (by omega) hd (by omega) hsz hF0 hhp hrw hcl hbd htF nv ntt, enter_go k hF0 hbF (by omega) hd nv (fun g e => (nt g e).1)⟩
  have hBz : B ≤ w.heap.size := by omega
  clear kw k rc1 hp1 NS rd ht hblk hbW hb0 hsd
  go_enter Tryz.func138, Tryz.ntmps138
  go_wp2_with fail
  go_region
  all_goals
    have HF := HFIN.out _ rfl
    have HFH : Hid _ := HF
    clear HF HFIN
    generalize ((w.setCell ⟨bl, 1, none⟩ (.pointer (some ⟨w.heap.size, 0, none⟩))).alloc (.cells #[.pointer (some ⟨d, 0, none⟩), .int .i64 h.calls.length, .pointer q] 93)).drew = W1 at *
    have s1 : Src Tryz.prog 1 68 (.slice (some ⟨w.heap.size + 1, 0, none⟩) 1 1) 1 [.pointer (some ⟨w.heap.size, 0, none⟩)] (W1.alloc (.cells #[.pointer (some ⟨w.heap.size, 0, none⟩)] 69)).drew := src_ptr (by rw [← hz1]; simp [go_sem])
    have row2 : CRow B 1 (W1.alloc (.cells #[.pointer (some ⟨w.heap.size, 0, none⟩)] 69)).drew (.slice av h.calls.length cv) h.calls.length (ptrs C h.calls.length) := row1.below (((Below.refl _ _).alloc (Nat.le_refl _) _).drew)
    have hBA : B ≤ (W1.alloc (.cells #[.pointer (some ⟨w.heap.size, 0, none⟩)] 69)).drew.heap.size := by simp; omega
    have hblW : bl < W1.heap.size := by omega
    clear row1 x0 x1 xf0 xf1
    go_wp2_with fail
    go_region_law (refine step_ptrs _ (by rfl) _ _ (by rfl) B _ _ h.calls.length (ptrs C h.calls.length) (.pointer (some ⟨w.heap.size, 0, none⟩)) (by rfl) (by rfl) row2 s1 (by omega) (by first | exact hBA | (simp; omega)) ?_; intro v' w' hrow hg hbk; obtain ⟨a', c', hv'⟩ := hrow.form1; subst hv'; obtain ⟨⟨z4, f4⟩, hLV⟩ := HFH.out _ w' hrow hg hbk)
    all_goals exact bodyPost_end (results_none rfl _ _ _) rfl ⟨rfl, hLV⟩

end Go.Proofs.YthkjgfhheejaoaaGreatDoor
