/-
  What draws: DrawHeapRun draws a program, a heap, and how many operations.
-/
import Derived.Test.YtfpodljalccpnaaGreatDoorDrawHeap
import Derived.Deep.RegionLaw
import Derived.Deep.RegionHeld3
import Derived.Deep.DrawnRows

namespace Go.Proofs.YtfpodljalccpnaaGreatDoor
open Go.RowKit
attribute [local go_sem ↓] Go.wp_at_zero Go.wp_at_succ
def numsRun : List Int := [0, 1, 5, 30, 100, 400, 401, -1]
theorem numsRun_in (i : Nat) : -1 ≤ numsRun.getD i 0 ∧ numsRun.getD i 0 ≤ 401 := by
  by_cases h : i < 8
  · have : i = 0 ∨ i = 1 ∨ i = 2 ∨ i = 3 ∨ i = 4 ∨ i = 5 ∨ i = 6 ∨ i = 7 := by omega
    rcases this with rfl | rfl | rfl | rfl | rfl | rfl | rfl | rfl <;> decide
  · have : numsRun.getD i 0 = 0 := by rw [List.getD_eq_getElem?_getD, List.getElem?_eq_none (by simp [numsRun]; omega)]; rfl
    rw [this]; decide
theorem numsRun_at (i : Nat) (h : i < 8) : ∃ y : Int, ([.int .i64 0, .int .i64 1, .int .i64 5, .int .i64 30, .int .i64 100, .int .i64 400, .int .i64 401, .int .i64 (-1)] : List Value)[i]? = some (.int .i64 y) ∧ numsRun.getD i 0 = y ∧ -1 ≤ y ∧ y ≤ 401 := by
  have : i = 0 ∨ i = 1 ∨ i = 2 ∨ i = 3 ∨ i = 4 ∨ i = 5 ∨ i = 6 ∨ i = 7 := by omega
  rcases this with rfl | rfl | rfl | rfl | rfl | rfl | rfl | rfl <;> exact ⟨_, rfl, rfl, by decide, by decide⟩
theorem numsRun_row (w : World) : (w.alloc (.cells #[.int .i64 0, .int .i64 1, .int .i64 5, .int .i64 30, .int .i64 100, .int .i64 400, .int .i64 401, .int .i64 (-1)] 3)).rowIs w.heap.size 3 8 (fun i => .int .i64 (numsRun.getD i 0)) :=
  ⟨_, Go.Deep.blk_alloc_new _ _, rfl, fun i hi => by
    have : i = 0 ∨ i = 1 ∨ i = 2 ∨ i = 3 ∨ i = 4 ∨ i = 5 ∨ i = 6 ∨ i = 7 := by omega
    rcases this with rfl | rfl | rfl | rfl | rfl | rfl | rfl | rfl <;> rfl⟩
def RunS (b : Nat) (v0 v1 v2 v3 v4 v5 : Value) (x : World) : Prop := x.cell? ⟨b, 0, none⟩ = some v0 ∧ x.cell? ⟨b + 1, 0, none⟩ = some v1 ∧ x.cell? ⟨b + 1, 1, none⟩ = some v2 ∧ x.cell? ⟨b + 1, 2, none⟩ = some v3 ∧ x.cell? ⟨b + 1, 3, none⟩ = some v4 ∧ x.cell? ⟨b + 1, 4, none⟩ = some v5
theorem RunS.far {b : Nat} {v0 v1 v2 v3 v4 v5 : Value} {x : World} (k : RunS b v0 v1 v2 v3 v4 v5 x) {p : Addr} (v : Value) (h0 : p.block ≠ b) (h1 : p.block ≠ b + 1) : RunS b v0 v1 v2 v3 v4 v5 (x.setCell p v) := by
  obtain ⟨k0, k1, k2, k3, k4, k5⟩ := k
  exact ⟨(World.cell?_setCell_far _ _ _ _ h0).trans k0, (World.cell?_setCell_far _ _ _ _ h1).trans k1, (World.cell?_setCell_far _ _ _ _ h1).trans k2, (World.cell?_setCell_far _ _ _ _ h1).trans k3, (World.cell?_setCell_far _ _ _ _ h1).trans k4, (World.cell?_setCell_far _ _ _ _ h1).trans k5⟩
theorem RunS.far5 {b : Nat} {v0 v1 v2 v3 v4 v5 : Value} {x : World} (k : RunS b v0 v1 v2 v3 v4 v5 x) {d : Nat} (h0 : d ≠ b) (h1 : d ≠ b + 1) (u0 u1 u2 u3 u4 : Value) : RunS b v0 v1 v2 v3 v4 v5 (((((x.setCell ⟨d, 0, none⟩ u0).setCell ⟨d, 1, none⟩ u1).setCell ⟨d, 2, none⟩ u2).setCell ⟨d, 3, none⟩ u3).setCell ⟨d, 4, none⟩ u4) :=
  ((((k.far u0 h0 h1).far u1 h0 h1).far u2 h0 h1).far u3 h0 h1).far u4 h0 h1
theorem RunS.alloc {b : Nat} {v0 v1 v2 v3 v4 v5 : Value} {x : World} (k : RunS b v0 v1 v2 v3 v4 v5 x) (o : Obj) : RunS b v0 v1 v2 v3 v4 v5 (x.alloc o) := by
  obtain ⟨k0, k1, k2, k3, k4, k5⟩ := k
  exact ⟨(World.cell?_alloc_some _ _ _ (by rw [k0]; rfl)).trans k0, (World.cell?_alloc_some _ _ _ (by rw [k1]; rfl)).trans k1, (World.cell?_alloc_some _ _ _ (by rw [k2]; rfl)).trans k2, (World.cell?_alloc_some _ _ _ (by rw [k3]; rfl)).trans k3, (World.cell?_alloc_some _ _ _ (by rw [k4]; rfl)).trans k4, (World.cell?_alloc_some _ _ _ (by rw [k5]; rfl)).trans k5⟩
set_option maxRecDepth 100000 in
set_option maxHeartbeats 4000000 in
theorem drawHeapRun_any (w : World) (a : Option Addr) (len cap : Nat) (h : BytesAt w a len cap) :
    Calls Tryz.prog 28 #[.slice a len cap] w fun e w' => ∃ (v vc vs : Value) (ms : List (Int × Int × List (Int × Int))) (H : Hp) (n : Int), e = .returned (.tuple #[.agg #[v], .agg (hpCells vc vs H), .int .i64 n]) ∧ DrawnHeap w.heap.size w' v vc vs ms H ∧ (-1 ≤ n ∧ n ≤ 401) ∧ Below w.heap.size w w' := by
  have hA : Below w.heap.size w ((w.alloc (.cells #[.slice none 0 0] 25)).alloc (.cells #[.slice none 0 0, .int .i64 0, .int .i64 0, .slice none 0 0, .int .i64 0] 29)) := ((Below.refl _ _).alloc (Nat.le_refl _) _).alloc (by simp) _
  have rA := (pbox_new w (.slice none 0 0)).alloc (.cells #[.slice none 0 0, .int .i64 0, .int .i64 0, .slice none 0 0, .int .i64 0] 29)
  have sA := five_new (w.alloc (.cells #[.slice none 0 0] 25)) 29 (.slice none 0 0) (.int .i64 0) (.int .i64 0) (.slice none 0 0) (.int .i64 0)
  have zA : ((w.alloc (.cells #[.slice none 0 0] 25)).alloc (.cells #[.slice none 0 0, .int .i64 0, .int .i64 0, .slice none 0 0, .int .i64 0] 29)).heap.size = w.heap.size + 2 := by simp
  simp only [World.size_alloc] at sA
  go_enter Tryz.func28, Tryz.ntmps28
  go_wp2_with fail
  generalize (w.alloc (.cells #[.slice none 0 0] 25)).alloc (.cells #[.slice none 0 0, .int .i64 0, .int .i64 0, .slice none 0 0, .int .i64 0] 29) = W1 at *
  refine (l6Open_any _ a len cap (h.below hA)).mono ?_
  rintro e w2 ⟨n, rfl, hr2, z2, hb2⟩
  have r2 := row_kept rA (below_grown hb2 none) (by simp)
  have s2 := row_kept sA (below_grown hb2 none) (by simp)
  have B2 : Below w.heap.size w w2 := hA.trans (hb2.mono (by omega))
  clear hA rA sA hb2
  rw [zA] at hr2 ⊢
  go_wp2_with fail
  refine (l71Heap_any _ _ _ _ _ _ hr2 (by omega)).mono ?_
  rintro e w3 ⟨v, vc, vs, ms, H, p3, rfl, st3, ok3, fi3, hq3, hq3', hr3, hg3⟩
  have r3 := row_kept r2 hg3 (by intro e; injection e with e; omega)
  have s3 := row_kept s2 hg3 (by intro e; injection e with e; omega)
  have B3 : Below w.heap.size w w3 := B2.grown hg3 (by omega) (fun k e => by cases e; omega)
  have z3 := hg3.size
  obtain ⟨hM, hH⟩ := st3.here
  obtain ⟨aV, cV, hvV, _⟩ := id hM
  obtain ⟨ac, kc, hvc⟩ := hH.c.shape
  obtain ⟨aD, kD, hvs⟩ := hH.s.shape
  subst hvV hvc hvs
  clear hM hH hr2 r2 s2 B2 hg3
  have HFI : Hid (HpFine H) := fi3
  have HST : Hid (Stays w2.heap.size w3 (fun x => MethsAt x (.slice aV (plainOf ms).length cV) (plainOf ms) ∧ HeapAt x (.slice ac H.calls.length kc) (.slice aD H.said.length kD) H)) := st3
  unfold hpCells
  have HOK : Hid (progOk (plainOf ms) = true) := ok3
  clear fi3 st3 ok3
  have z2' : w2.heap.size = w.heap.size + 3 := by omega
  generalize plainOf ms = MS at *
  go_upto_region 3 with fail
  have N4 : Below w3.heap.size w3 ((w3.alloc (.cells #[.slice aV MS.length cV] 25)).alloc (.cells #[.slice ac H.calls.length kc, .int .i64 H.now, .int .i64 H.born, .slice aD H.said.length kD, .int .i64 H.code] 29)) := ((Below.refl _ _).alloc (Nat.le_refl _) _).alloc (by simp) _
  have rb4 := (pbox_new w3 (.slice aV MS.length cV)).alloc (.cells #[.slice ac H.calls.length kc, .int .i64 H.now, .int .i64 H.born, .slice aD H.said.length kD, .int .i64 H.code] 29)
  have rh4 := five_new (w3.alloc (.cells #[.slice aV MS.length cV] 25)) 29 (.slice ac H.calls.length kc) (.int .i64 H.now) (.int .i64 H.born) (.slice aD H.said.length kD) (.int .i64 H.code)
  have hr4 := (hr3.alloc (.cells #[.slice aV MS.length cV] 25)).alloc (.cells #[.slice ac H.calls.length kc, .int .i64 H.now, .int .i64 H.born, .slice aD H.said.length kD, .int .i64 H.code] 29)
  simp only [World.size_alloc] at rh4
  generalize (w3.alloc (.cells #[.slice aV MS.length cV] 25)).alloc (.cells #[.slice ac H.calls.length kc, .int .i64 H.now, .int .i64 H.born, .slice aD H.said.length kD, .int .i64 H.code] 29) = W4 at *
  have st4 := HST.out.below N4
  have r4 := row_below N4 r3
  have s4 := row_below N4 s3
  have B4 := B3.trans (N4.mono (by omega))
  have z4 := N4.size
  clear HST r3 s3 B3 N4 hr3
  obtain ⟨⟨d0, d1, d2, d3, d4⟩, _⟩ := five_cells rh4
  have cb := rb4.cell (i := 0) (by decide)
  have cp0 := r4.cell (i := 0) (by decide)
  have cpf := r4.frozen 0
  obtain ⟨⟨c0, c1, c2, c3, c4⟩, cf0, cf1, cf2, cf3, cf4⟩ := five_cells s4
  have hr4d : Rd W4.drew (w.heap.size + 2) a n cap p3 := Rd.heap hr4 rfl
  have hr4a : Rd (W4.alloc (.cells #[.int .i64 0, .int .i64 1, .int .i64 5, .int .i64 30, .int .i64 100, .int .i64 400, .int .i64 401, .int .i64 (-1)] 3)).drew (w.heap.size + 2) a n cap p3 := Rd.heap (hr4.alloc (.cells #[.int .i64 0, .int .i64 1, .int .i64 5, .int .i64 30, .int .i64 100, .int .i64 400, .int .i64 401, .int .i64 (-1)] 3)) rfl
  have zbx := rh4.lt
  have zr4 := r4.lt
  have zs4 := s4.lt
  have HST4 : Hid (Stays w2.heap.size W4 (fun x => MethsAt x (.slice aV MS.length cV) MS ∧ HeapAt x (.slice ac H.calls.length kc) (.slice aD H.said.length kD) H)) := st4
  clear st4
  have zb0 := rb4.lt
  have hne1 : ¬ w3.heap.size = w.heap.size := by omega
  have hne2 : ¬ w3.heap.size + 1 = w.heap.size := by omega
  have hne3 : ¬ w3.heap.size = w.heap.size + 1 := by omega
  have hne4 : ¬ W4.heap.size = w.heap.size := by omega
  have hne5 : ¬ W4.heap.size = w.heap.size + 1 := by omega
  have HF1 : Hid (∀ w5 : World, W4.drew.grownBy w5 (some (w.heap.size + 2)) → ∃ WF : World, WF = ((((((w5.setCell ⟨w.heap.size, 0, none⟩ (.slice aV MS.length cV)).setCell ⟨w.heap.size + 1, 0, none⟩ (.slice ac H.calls.length kc)).setCell ⟨w.heap.size + 1, 1, none⟩ (.int .i64 H.now)).setCell ⟨w.heap.size + 1, 2, none⟩ (.int .i64 H.born)).setCell ⟨w.heap.size + 1, 3, none⟩ (.slice aD H.said.length kD)).setCell ⟨w.heap.size + 1, 4, none⟩ (.int .i64 H.code)).alloc (.cells #[.int .i64 0, .int .i64 1, .int .i64 5, .int .i64 30, .int .i64 100, .int .i64 400, .int .i64 401, .int .i64 (-1)] 3) ∧ (WF.cell? ⟨w.heap.size, 0, none⟩ = some (.slice aV MS.length cV) ∧ (WF.cell? ⟨w.heap.size + 1, 0, none⟩ = some (.slice ac H.calls.length kc) ∧ WF.cell? ⟨w.heap.size + 1, 1, none⟩ = some (.int .i64 H.now) ∧ WF.cell? ⟨w.heap.size + 1, 2, none⟩ = some (.int .i64 H.born) ∧ WF.cell? ⟨w.heap.size + 1, 3, none⟩ = some (.slice aD H.said.length kD) ∧ WF.cell? ⟨w.heap.size + 1, 4, none⟩ = some (.int .i64 H.code)) ∧ DrawnHeap w.heap.size WF (.slice aV MS.length cV) (.slice ac H.calls.length kc) (.slice aD H.said.length kD) MS H ∧ Below w.heap.size w WF)) := fun w5 hg5 => by
    have hg5' : W4.grownBy w5 (some (w.heap.size + 2)) := ⟨hg5.os, hg5.tape, hg5.output, hg5.size, hg5.block⟩
    have z5 := hg5'.size
    have r5 := row_kept r4 hg5' (by intro e; injection e with e; omega)
    have s5 := row_kept s4 hg5' (by intro e; injection e with e; omega)
    have B5 : Below w.heap.size w w5 := B4.grown hg5' (by omega) (fun k e => by cases e; omega)
    obtain ⟨WF, hWF, f1, f2, f3, f4⟩ := boxes_fin r5 s5 (HST4.out.grown hg5' (by omega)) (by omega) B5 (.slice aV MS.length cV) (.slice ac H.calls.length kc) (.slice aD H.said.length kD) H.now H.born H.code
    have N := (Below.refl WF.heap.size WF).alloc (Nat.le_refl _) (.cells #[.int .i64 0, .int .i64 1, .int .i64 5, .int .i64 30, .int .i64 100, .int .i64 400, .int .i64 401, .int .i64 (-1)] 3)
    have zW := f4.size
    exact ⟨_, by rw [hWF], cell_below N f1, (five_cells (row_below N f2)).1, ⟨f3.below N, HOK.out, HFI.out⟩, f4.trans (N.mono zW)⟩
  have HF2 : Hid (∀ w5 : World, (W4.alloc (.cells #[.int .i64 0, .int .i64 1, .int .i64 5, .int .i64 30, .int .i64 100, .int .i64 400, .int .i64 401, .int .i64 (-1)] 3)).drew.grownBy w5 (some (w.heap.size + 2)) → ∃ WF : World, WF = ((((((w5.setCell ⟨w.heap.size, 0, none⟩ (.slice aV MS.length cV)).setCell ⟨w.heap.size + 1, 0, none⟩ (.slice ac H.calls.length kc)).setCell ⟨w.heap.size + 1, 1, none⟩ (.int .i64 H.now)).setCell ⟨w.heap.size + 1, 2, none⟩ (.int .i64 H.born)).setCell ⟨w.heap.size + 1, 3, none⟩ (.slice aD H.said.length kD)).setCell ⟨w.heap.size + 1, 4, none⟩ (.int .i64 H.code)) ∧ (WF.cell? ⟨w.heap.size, 0, none⟩ = some (.slice aV MS.length cV) ∧ (WF.cell? ⟨w.heap.size + 1, 0, none⟩ = some (.slice ac H.calls.length kc) ∧ WF.cell? ⟨w.heap.size + 1, 1, none⟩ = some (.int .i64 H.now) ∧ WF.cell? ⟨w.heap.size + 1, 2, none⟩ = some (.int .i64 H.born) ∧ WF.cell? ⟨w.heap.size + 1, 3, none⟩ = some (.slice aD H.said.length kD) ∧ WF.cell? ⟨w.heap.size + 1, 4, none⟩ = some (.int .i64 H.code)) ∧ DrawnHeap w.heap.size WF (.slice aV MS.length cV) (.slice ac H.calls.length kc) (.slice aD H.said.length kD) MS H ∧ Below w.heap.size w WF)) := fun w5 hg5 => by
    have hg5' : (W4.alloc (.cells #[.int .i64 0, .int .i64 1, .int .i64 5, .int .i64 30, .int .i64 100, .int .i64 400, .int .i64 401, .int .i64 (-1)] 3)).grownBy w5 (some (w.heap.size + 2)) := ⟨hg5.os, hg5.tape, hg5.output, hg5.size, hg5.block⟩
    have z5 := hg5'.size
    have N := (Below.refl W4.heap.size W4).alloc (Nat.le_refl _) (.cells #[.int .i64 0, .int .i64 1, .int .i64 5, .int .i64 30, .int .i64 100, .int .i64 400, .int .i64 401, .int .i64 (-1)] 3)
    have zN := N.size
    have r5 := row_kept (r4.alloc (.cells #[.int .i64 0, .int .i64 1, .int .i64 5, .int .i64 30, .int .i64 100, .int .i64 400, .int .i64 401, .int .i64 (-1)] 3)) hg5' (by intro e; injection e with e; omega)
    have s5 := row_kept (s4.alloc (.cells #[.int .i64 0, .int .i64 1, .int .i64 5, .int .i64 30, .int .i64 100, .int .i64 400, .int .i64 401, .int .i64 (-1)] 3)) hg5' (by intro e; injection e with e; omega)
    have B5 : Below w.heap.size w w5 := (B4.trans (N.mono (by omega))).grown hg5' (by omega) (fun k e => by cases e; omega)
    obtain ⟨WF, hWF, f1, f2, f3, f4⟩ := boxes_fin r5 s5 ((HST4.out.below N).grown hg5' (by omega)) (by omega) B5 (.slice aV MS.length cV) (.slice ac H.calls.length kc) (.slice aD H.said.length kD) H.now H.born H.code
    exact ⟨_, hWF, f1, (five_cells f2).1, ⟨f3, HOK.out, HFI.out⟩, f4⟩
  go_wp2_with fail
  have E0 : w.heap.size ≠ w3.heap.size := by omega
  have E1 : w.heap.size ≠ w3.heap.size + 1 := by omega
  have F0 : w.heap.size + 1 ≠ w3.heap.size := by omega
  have F1 : w.heap.size + 1 ≠ w3.heap.size + 1 := by omega
  have S0 : RunS w3.heap.size (.slice aV MS.length cV) (.slice ac H.calls.length kc) (.int .i64 H.now) (.int .i64 H.born) (.slice aD H.said.length kD) (.int .i64 H.code) W4.drew := ⟨cb, d0, d1, d2, d3, d4⟩
  refine wp_region_noPanic ?_
  refine wp_region_held_drew (S := RunS w3.heap.size (.slice aV MS.length cV) (.slice ac H.calls.length kc) (.int .i64 H.now) (.int .i64 H.born) (.slice aD H.said.length kD) (.int .i64 H.code)) (by kernel_rfl) S0 (fun _ => ?_)
  refine wpAnyH_take (i := 0) (v := .agg #[.slice aV MS.length cV]) rfl (by kernel_rfl) (by kernel_rfl) (by kernel_rfl) (fun _ _ _ h => h) (Or.inl ⟨by rfl, ?hy1⟩) S0 ?_
  case hy1 =>
    rintro x ⟨k0, k1, k2, k3, k4, k5⟩
    go_simp
  try simp only [Act.put, List.setIfInBounds_toArray]
  refine wpAnyH_take (i := 1) (v := .agg #[.slice ac H.calls.length kc, .int .i64 H.now, .int .i64 H.born, .slice aD H.said.length kD, .int .i64 H.code]) rfl (by kernel_rfl) (by kernel_rfl) (by kernel_rfl) (fun _ _ _ h => h) (Or.inl ⟨by rfl, ?hy2⟩) S0 ?_
  case hy2 =>
    rintro x ⟨k0, k1, k2, k3, k4, k5⟩
    go_simp
  try simp only [Act.put]
  refine wpAnyH_take (i := 3) (v := .pointer (some ⟨w.heap.size + 2, 0, none⟩)) rfl (by kernel_rfl) (by kernel_rfl) (by kernel_rfl) (fun _ _ _ h => h) (Or.inl ⟨by rfl, ?hy3⟩) S0 ?_
  case hy3 =>
    intro x _
    go_simp
  try simp only [Act.put]
  refine wpAnyH_ready (rs := [2, 4]) (by kernel_rfl) (by simp) ?_
  refine AllReadyH.cons rfl (fun K hK => ?_) ?_
  · go_simp
    refine hK.out _ _ (RunS.alloc (x := W4) S0 _) (fun _ => ?_)
    clear hK K
    try simp only [Act.put, List.setIfInBounds_toArray, List.set_cons_zero, List.set_cons_succ]
    refine wpAnyH_ready (rs := [4]) (by kernel_rfl) (by simp) ?_
    refine AllReadyH.cons rfl (fun K hK => ?_) ?_
    · go_simp
      go_at_call 39
      refine (pick_any _ _ _ _ _ _ 8 hr4a (by omega) (by omega) (by omega)).mono ?_
      rintro e w5 ⟨x, rfl, hx0, hx1, hr5, hg5⟩
      obtain ⟨i, rfl⟩ := Int.eq_ofNat_of_zero_le hx0
      obtain ⟨y, h8, hy, hy0, hy1⟩ := numsRun_at i (by omega)
      have c8 := (row_kept (w := (W4.alloc (.cells #[.int .i64 0, .int .i64 1, .int .i64 5, .int .i64 30, .int .i64 100, .int .i64 400, .int .i64 401, .int .i64 (-1)] 3)).drew) (numsRun_row W4) hg5 (by intro e; injection e with e; omega)).cell (i := i) (by omega)
      simp only [hy] at c8
      clear hy
      have r5 := row_kept (w := (W4.alloc (.cells #[.int .i64 0, .int .i64 1, .int .i64 5, .int .i64 30, .int .i64 100, .int .i64 400, .int .i64 401, .int .i64 (-1)] 3)).drew) (r4.alloc (.cells #[.int .i64 0, .int .i64 1, .int .i64 5, .int .i64 30, .int .i64 100, .int .i64 400, .int .i64 401, .int .i64 (-1)] 3)) hg5 (by intro e; injection e with e; omega)
      have s5 := row_kept (w := (W4.alloc (.cells #[.int .i64 0, .int .i64 1, .int .i64 5, .int .i64 30, .int .i64 100, .int .i64 400, .int .i64 401, .int .i64 (-1)] 3)).drew) (s4.alloc (.cells #[.int .i64 0, .int .i64 1, .int .i64 5, .int .i64 30, .int .i64 100, .int .i64 400, .int .i64 401, .int .i64 (-1)] 3)) hg5 (by intro e; injection e with e; omega)
      have rb5 := row_kept (w := (W4.alloc (.cells #[.int .i64 0, .int .i64 1, .int .i64 5, .int .i64 30, .int .i64 100, .int .i64 400, .int .i64 401, .int .i64 (-1)] 3)).drew) (rb4.alloc (.cells #[.int .i64 0, .int .i64 1, .int .i64 5, .int .i64 30, .int .i64 100, .int .i64 400, .int .i64 401, .int .i64 (-1)] 3)) hg5 (by intro e; injection e with e; omega)
      have rh5 := row_kept (w := (W4.alloc (.cells #[.int .i64 0, .int .i64 1, .int .i64 5, .int .i64 30, .int .i64 100, .int .i64 400, .int .i64 401, .int .i64 (-1)] 3)).drew) (rh4.alloc (.cells #[.int .i64 0, .int .i64 1, .int .i64 5, .int .i64 30, .int .i64 100, .int .i64 400, .int .i64 401, .int .i64 (-1)] 3)) hg5 (by intro e; injection e with e; omega)
      have cb5 := rb5.cell (i := 0) (by decide)
      obtain ⟨⟨d50, d51, d52, d53, d54⟩, _⟩ := five_cells rh5
      have cp0 := r5.cell (i := 0) (by decide)
      have cpf := r5.frozen 0
      obtain ⟨⟨c0, c1, c2, c3, c4⟩, cf0, cf1, cf2, cf3, cf4⟩ := five_cells s5
      have zq0 : w.heap.size < w5.heap.size := r5.lt
      have zq1 : w.heap.size + 1 < w5.heap.size := s5.lt
      have zq2 := rb5.lt
      have zq3 := rh5.lt
      have z5 := hg5.size
      have HFx := HF2.out w5 hg5
      have S5 : RunS w3.heap.size (.slice aV MS.length cV) (.slice ac H.calls.length kc) (.int .i64 H.now) (.int .i64 H.born) (.slice aD H.said.length kD) (.int .i64 H.code) w5 := ⟨cb5, d50, d51, d52, d53, d54⟩
      go_wp2_with fail
      refine hK.out _ _ S5 (fun _ => ?_)
      clear hK K
      try simp only [Act.put, List.setIfInBounds_toArray, List.set_cons_zero, List.set_cons_succ]
      refine wpAnyH_take (i := 5) (v := .pointer (some ⟨W4.heap.size, i, none⟩)) rfl (by kernel_rfl) (by kernel_rfl) (by kernel_rfl) (fun _ _ _ h => h) (Or.inl ⟨by rfl, ?hy4⟩) S5 ?_
      case hy4 =>
        intro x _
        go_simp
      try simp only [Act.put, List.setIfInBounds_toArray]
      refine wpAnyH_ready (rs := [6, 7]) (by kernel_rfl) (by simp) ?_
      refine AllReadyH.cons rfl (fun K hK => ?_) ?_
      · go_simp
        refine hK.out _ _ S5 (fun _ => ?_)
        clear hK K
        try simp only [Act.put, List.setIfInBounds_toArray, List.set_cons_zero, List.set_cons_succ]
        refine wpAnyH_ready (rs := [7]) (by kernel_rfl) (by simp) ?_
        refine AllReadyH.cons rfl (fun K hK => ?_) ?_
        · go_simp
          refine hK.out _ _ (RunS.far (p := ⟨w.heap.size, 0, none⟩) S5 _ E0 E1) (fun _ => ?_)
          clear hK K
          try simp only [Act.put, List.setIfInBounds_toArray, List.set_cons_zero, List.set_cons_succ]
          refine wpAnyH_ready (rs := [8]) (by kernel_rfl) (by simp) ?_
          refine AllReadyH.cons rfl (fun K hK => ?_) ?_
          · go_simp
            refine hK.out _ _ (RunS.far5 (RunS.far (p := ⟨w.heap.size, 0, none⟩) S5 _ E0 E1) (d := w.heap.size + 1) F0 F1 _ _ _ _ _) (fun _ => ?_)
            clear hK K
            try simp only [Act.put, List.setIfInBounds_toArray, List.set_cons_zero, List.set_cons_succ]
            refine wpAnyH_ready (rs := [9]) (by kernel_rfl) (by simp) ?_
            refine AllReadyH.cons rfl (fun K hK => ?_) ?_
            · go_simp
              refine hK.out _ _ (RunS.far5 (RunS.far (p := ⟨w.heap.size, 0, none⟩) S5 _ E0 E1) (d := w.heap.size + 1) F0 F1 _ _ _ _ _) (fun _ => ?_)
              clear hK K
              try simp only [Act.put, List.setIfInBounds_toArray, List.set_cons_zero, List.set_cons_succ]
              refine wpAnyH_done (by kernel_rfl) ?_ _
              refine NoPanic.normal ?_
              obtain ⟨WF, hWF, f1, ⟨q0, q1, q2, q3, q4⟩, hD, hB⟩ := HFx
              rw [← hWF]
              clear hWF HF1 HF2 hr5 hg5 c8 h8 r5 s5 rb5 rh5 cb5 d50 d51 d52 d53 d54 d0 d1 d2 d3 d4 cb cp0 cpf c0 c1 c2 c3 c4 cf0 cf1 cf2 cf3 cf4 hr4d hr4a HST4 HFI HOK rb4 rh4 hr4 r4 s4 B4
              go_wp2
              exact bodyPost_ret (v := .tuple #[.agg #[.slice aV MS.length cV], .agg #[.slice ac H.calls.length kc, .int .i64 H.now, .int .i64 H.born, .slice aD H.said.length kD, .int .i64 H.code], .int .i64 y]) (by simp [results, Tryz.results28, go_sem, f1, q0, q1, q2, q3, q4]) rfl ⟨_, _, _, MS, H, y, rfl, hD, ⟨hy0, hy1⟩, hB⟩
            exact AllReadyH.nil
          exact AllReadyH.nil
        exact AllReadyH.nil
      refine AllReadyH.cons rfl (fun K hK => ?_) ?_
      · go_simp
        refine hK.out _ _ (RunS.far (p := ⟨w.heap.size, 0, none⟩) S5 _ E0 E1) (fun _ => ?_)
        clear hK K
        try simp only [Act.put, List.setIfInBounds_toArray, List.set_cons_zero, List.set_cons_succ]
        refine wpAnyH_ready (rs := [6, 8]) (by kernel_rfl) (by simp) ?_
        refine AllReadyH.cons rfl (fun K hK => ?_) ?_
        · go_simp
          refine hK.out _ _ (RunS.far (p := ⟨w.heap.size, 0, none⟩) S5 _ E0 E1) (fun _ => ?_)
          clear hK K
          try simp only [Act.put, List.setIfInBounds_toArray, List.set_cons_zero, List.set_cons_succ]
          refine wpAnyH_ready (rs := [8]) (by kernel_rfl) (by simp) ?_
          refine AllReadyH.cons rfl (fun K hK => ?_) ?_
          · go_simp
            refine hK.out _ _ (RunS.far5 (RunS.far (p := ⟨w.heap.size, 0, none⟩) S5 _ E0 E1) (d := w.heap.size + 1) F0 F1 _ _ _ _ _) (fun _ => ?_)
            clear hK K
            try simp only [Act.put, List.setIfInBounds_toArray, List.set_cons_zero, List.set_cons_succ]
            refine wpAnyH_ready (rs := [9]) (by kernel_rfl) (by simp) ?_
            refine AllReadyH.cons rfl (fun K hK => ?_) ?_
            · go_simp
              refine hK.out _ _ (RunS.far5 (RunS.far (p := ⟨w.heap.size, 0, none⟩) S5 _ E0 E1) (d := w.heap.size + 1) F0 F1 _ _ _ _ _) (fun _ => ?_)
              clear hK K
              try simp only [Act.put, List.setIfInBounds_toArray, List.set_cons_zero, List.set_cons_succ]
              refine wpAnyH_done (by kernel_rfl) ?_ _
              refine NoPanic.normal ?_
              obtain ⟨WF, hWF, f1, ⟨q0, q1, q2, q3, q4⟩, hD, hB⟩ := HFx
              rw [← hWF]
              clear hWF HF1 HF2 hr5 hg5 c8 h8 r5 s5 rb5 rh5 cb5 d50 d51 d52 d53 d54 d0 d1 d2 d3 d4 cb cp0 cpf c0 c1 c2 c3 c4 cf0 cf1 cf2 cf3 cf4 hr4d hr4a HST4 HFI HOK rb4 rh4 hr4 r4 s4 B4
              go_wp2
              exact bodyPost_ret (v := .tuple #[.agg #[.slice aV MS.length cV], .agg #[.slice ac H.calls.length kc, .int .i64 H.now, .int .i64 H.born, .slice aD H.said.length kD, .int .i64 H.code], .int .i64 y]) (by simp [results, Tryz.results28, go_sem, f1, q0, q1, q2, q3, q4]) rfl ⟨_, _, _, MS, H, y, rfl, hD, ⟨hy0, hy1⟩, hB⟩
            exact AllReadyH.nil
          exact AllReadyH.nil
        refine AllReadyH.cons rfl (fun K hK => ?_) ?_
        · go_simp
          refine hK.out _ _ (RunS.far5 (RunS.far (p := ⟨w.heap.size, 0, none⟩) S5 _ E0 E1) (d := w.heap.size + 1) F0 F1 _ _ _ _ _) (fun _ => ?_)
          clear hK K
          try simp only [Act.put, List.setIfInBounds_toArray, List.set_cons_zero, List.set_cons_succ]
          refine wpAnyH_ready (rs := [6]) (by kernel_rfl) (by simp) ?_
          refine AllReadyH.cons rfl (fun K hK => ?_) ?_
          · go_simp
            refine hK.out _ _ (RunS.far5 (RunS.far (p := ⟨w.heap.size, 0, none⟩) S5 _ E0 E1) (d := w.heap.size + 1) F0 F1 _ _ _ _ _) (fun _ => ?_)
            clear hK K
            try simp only [Act.put, List.setIfInBounds_toArray, List.set_cons_zero, List.set_cons_succ]
            refine wpAnyH_ready (rs := [9]) (by kernel_rfl) (by simp) ?_
            refine AllReadyH.cons rfl (fun K hK => ?_) ?_
            · go_simp
              refine hK.out _ _ (RunS.far5 (RunS.far (p := ⟨w.heap.size, 0, none⟩) S5 _ E0 E1) (d := w.heap.size + 1) F0 F1 _ _ _ _ _) (fun _ => ?_)
              clear hK K
              try simp only [Act.put, List.setIfInBounds_toArray, List.set_cons_zero, List.set_cons_succ]
              refine wpAnyH_done (by kernel_rfl) ?_ _
              refine NoPanic.normal ?_
              obtain ⟨WF, hWF, f1, ⟨q0, q1, q2, q3, q4⟩, hD, hB⟩ := HFx
              rw [← hWF]
              clear hWF HF1 HF2 hr5 hg5 c8 h8 r5 s5 rb5 rh5 cb5 d50 d51 d52 d53 d54 d0 d1 d2 d3 d4 cb cp0 cpf c0 c1 c2 c3 c4 cf0 cf1 cf2 cf3 cf4 hr4d hr4a HST4 HFI HOK rb4 rh4 hr4 r4 s4 B4
              go_wp2
              exact bodyPost_ret (v := .tuple #[.agg #[.slice aV MS.length cV], .agg #[.slice ac H.calls.length kc, .int .i64 H.now, .int .i64 H.born, .slice aD H.said.length kD, .int .i64 H.code], .int .i64 y]) (by simp [results, Tryz.results28, go_sem, f1, q0, q1, q2, q3, q4]) rfl ⟨_, _, _, MS, H, y, rfl, hD, ⟨hy0, hy1⟩, hB⟩
            exact AllReadyH.nil
          exact AllReadyH.nil
        exact AllReadyH.nil
      exact AllReadyH.nil
    exact AllReadyH.nil
  refine AllReadyH.cons rfl (fun K hK => ?_) ?_
  · go_simp
    go_at_call 39
    refine (pick_any _ _ _ _ _ _ 8 hr4d (by omega) (by omega) (by omega)).mono ?_
    rintro e w5 ⟨x, rfl, hx0, hx1, hr5, hg5⟩
    obtain ⟨i, rfl⟩ := Int.eq_ofNat_of_zero_le hx0
    obtain ⟨y, h8, hy, hy0, hy1⟩ := numsRun_at i (by omega)
    have c8 := (numsRun_row w5).cell (i := i) (by omega)
    simp only [hy] at c8
    clear hy
    have r5 := row_kept (w := W4.drew) (r4) hg5 (by intro e; injection e with e; omega)
    have s5 := row_kept (w := W4.drew) (s4) hg5 (by intro e; injection e with e; omega)
    have rb5 := row_kept (w := W4.drew) (rb4) hg5 (by intro e; injection e with e; omega)
    have rh5 := row_kept (w := W4.drew) (rh4) hg5 (by intro e; injection e with e; omega)
    have cb5 := rb5.cell (i := 0) (by decide)
    obtain ⟨⟨d50, d51, d52, d53, d54⟩, _⟩ := five_cells rh5
    have cp0 := r5.cell (i := 0) (by decide)
    have cpf := r5.frozen 0
    obtain ⟨⟨c0, c1, c2, c3, c4⟩, cf0, cf1, cf2, cf3, cf4⟩ := five_cells s5
    have zq0 : w.heap.size < w5.heap.size := r5.lt
    have zq1 : w.heap.size + 1 < w5.heap.size := s5.lt
    have zq2 := rb5.lt
    have zq3 := rh5.lt
    have z5 := hg5.size
    have HFx := HF1.out w5 hg5
    have S5 : RunS w3.heap.size (.slice aV MS.length cV) (.slice ac H.calls.length kc) (.int .i64 H.now) (.int .i64 H.born) (.slice aD H.said.length kD) (.int .i64 H.code) w5 := ⟨cb5, d50, d51, d52, d53, d54⟩
    go_wp2_with fail
    refine hK.out _ _ S5 (fun _ => ?_)
    clear hK K
    try simp only [Act.put, List.setIfInBounds_toArray, List.set_cons_zero, List.set_cons_succ]
    refine wpAnyH_ready (rs := [2, 7]) (by kernel_rfl) (by simp) ?_
    refine AllReadyH.cons rfl (fun K hK => ?_) ?_
    · go_simp
      refine hK.out _ _ (RunS.alloc S5 _) (fun _ => ?_)
      clear hK K
      try simp only [Act.put, List.setIfInBounds_toArray, List.set_cons_zero, List.set_cons_succ]
      refine wpAnyH_take (i := 5) (v := .pointer (some ⟨w5.heap.size, i, none⟩)) rfl (by kernel_rfl) (by kernel_rfl) (by kernel_rfl) (fun _ _ _ h => h) (Or.inl ⟨by rfl, ?hy5⟩) (RunS.alloc S5 _) ?_
      case hy5 =>
        intro x _
        go_simp
      try simp only [Act.put, List.setIfInBounds_toArray]
      refine wpAnyH_ready (rs := [6, 7]) (by kernel_rfl) (by simp) ?_
      refine AllReadyH.cons rfl (fun K hK => ?_) ?_
      · go_simp
        refine hK.out _ _ (RunS.alloc S5 _) (fun _ => ?_)
        clear hK K
        try simp only [Act.put, List.setIfInBounds_toArray, List.set_cons_zero, List.set_cons_succ]
        refine wpAnyH_ready (rs := [7]) (by kernel_rfl) (by simp) ?_
        refine AllReadyH.cons rfl (fun K hK => ?_) ?_
        · go_simp
          refine hK.out _ _ (RunS.alloc (RunS.far (p := ⟨w.heap.size, 0, none⟩) S5 _ E0 E1) _) (fun _ => ?_)
          clear hK K
          try simp only [Act.put, List.setIfInBounds_toArray, List.set_cons_zero, List.set_cons_succ]
          refine wpAnyH_ready (rs := [8]) (by kernel_rfl) (by simp) ?_
          refine AllReadyH.cons rfl (fun K hK => ?_) ?_
          · go_simp
            refine hK.out _ _ (RunS.alloc (RunS.far5 (RunS.far (p := ⟨w.heap.size, 0, none⟩) S5 _ E0 E1) (d := w.heap.size + 1) F0 F1 _ _ _ _ _) _) (fun _ => ?_)
            clear hK K
            try simp only [Act.put, List.setIfInBounds_toArray, List.set_cons_zero, List.set_cons_succ]
            refine wpAnyH_ready (rs := [9]) (by kernel_rfl) (by simp) ?_
            refine AllReadyH.cons rfl (fun K hK => ?_) ?_
            · go_simp
              refine hK.out _ _ (RunS.alloc (RunS.far5 (RunS.far (p := ⟨w.heap.size, 0, none⟩) S5 _ E0 E1) (d := w.heap.size + 1) F0 F1 _ _ _ _ _) _) (fun _ => ?_)
              clear hK K
              try simp only [Act.put, List.setIfInBounds_toArray, List.set_cons_zero, List.set_cons_succ]
              refine wpAnyH_done (by kernel_rfl) ?_ _
              refine NoPanic.normal ?_
              obtain ⟨WF, hWF, f1, ⟨q0, q1, q2, q3, q4⟩, hD, hB⟩ := HFx
              rw [← hWF]
              clear hWF HF1 HF2 hr5 hg5 c8 h8 r5 s5 rb5 rh5 cb5 d50 d51 d52 d53 d54 d0 d1 d2 d3 d4 cb cp0 cpf c0 c1 c2 c3 c4 cf0 cf1 cf2 cf3 cf4 hr4d hr4a HST4 HFI HOK rb4 rh4 hr4 r4 s4 B4
              go_wp2
              exact bodyPost_ret (v := .tuple #[.agg #[.slice aV MS.length cV], .agg #[.slice ac H.calls.length kc, .int .i64 H.now, .int .i64 H.born, .slice aD H.said.length kD, .int .i64 H.code], .int .i64 y]) (by simp [results, Tryz.results28, go_sem, f1, q0, q1, q2, q3, q4]) rfl ⟨_, _, _, MS, H, y, rfl, hD, ⟨hy0, hy1⟩, hB⟩
            exact AllReadyH.nil
          exact AllReadyH.nil
        exact AllReadyH.nil
      refine AllReadyH.cons rfl (fun K hK => ?_) ?_
      · go_simp
        refine hK.out _ _ (RunS.alloc (RunS.far (p := ⟨w.heap.size, 0, none⟩) S5 _ E0 E1) _) (fun _ => ?_)
        clear hK K
        try simp only [Act.put, List.setIfInBounds_toArray, List.set_cons_zero, List.set_cons_succ]
        refine wpAnyH_ready (rs := [6, 8]) (by kernel_rfl) (by simp) ?_
        refine AllReadyH.cons rfl (fun K hK => ?_) ?_
        · go_simp
          refine hK.out _ _ (RunS.alloc (RunS.far (p := ⟨w.heap.size, 0, none⟩) S5 _ E0 E1) _) (fun _ => ?_)
          clear hK K
          try simp only [Act.put, List.setIfInBounds_toArray, List.set_cons_zero, List.set_cons_succ]
          refine wpAnyH_ready (rs := [8]) (by kernel_rfl) (by simp) ?_
          refine AllReadyH.cons rfl (fun K hK => ?_) ?_
          · go_simp
            refine hK.out _ _ (RunS.alloc (RunS.far5 (RunS.far (p := ⟨w.heap.size, 0, none⟩) S5 _ E0 E1) (d := w.heap.size + 1) F0 F1 _ _ _ _ _) _) (fun _ => ?_)
            clear hK K
            try simp only [Act.put, List.setIfInBounds_toArray, List.set_cons_zero, List.set_cons_succ]
            refine wpAnyH_ready (rs := [9]) (by kernel_rfl) (by simp) ?_
            refine AllReadyH.cons rfl (fun K hK => ?_) ?_
            · go_simp
              refine hK.out _ _ (RunS.alloc (RunS.far5 (RunS.far (p := ⟨w.heap.size, 0, none⟩) S5 _ E0 E1) (d := w.heap.size + 1) F0 F1 _ _ _ _ _) _) (fun _ => ?_)
              clear hK K
              try simp only [Act.put, List.setIfInBounds_toArray, List.set_cons_zero, List.set_cons_succ]
              refine wpAnyH_done (by kernel_rfl) ?_ _
              refine NoPanic.normal ?_
              obtain ⟨WF, hWF, f1, ⟨q0, q1, q2, q3, q4⟩, hD, hB⟩ := HFx
              rw [← hWF]
              clear hWF HF1 HF2 hr5 hg5 c8 h8 r5 s5 rb5 rh5 cb5 d50 d51 d52 d53 d54 d0 d1 d2 d3 d4 cb cp0 cpf c0 c1 c2 c3 c4 cf0 cf1 cf2 cf3 cf4 hr4d hr4a HST4 HFI HOK rb4 rh4 hr4 r4 s4 B4
              go_wp2
              exact bodyPost_ret (v := .tuple #[.agg #[.slice aV MS.length cV], .agg #[.slice ac H.calls.length kc, .int .i64 H.now, .int .i64 H.born, .slice aD H.said.length kD, .int .i64 H.code], .int .i64 y]) (by simp [results, Tryz.results28, go_sem, f1, q0, q1, q2, q3, q4]) rfl ⟨_, _, _, MS, H, y, rfl, hD, ⟨hy0, hy1⟩, hB⟩
            exact AllReadyH.nil
          exact AllReadyH.nil
        refine AllReadyH.cons rfl (fun K hK => ?_) ?_
        · go_simp
          refine hK.out _ _ (RunS.alloc (RunS.far5 (RunS.far (p := ⟨w.heap.size, 0, none⟩) S5 _ E0 E1) (d := w.heap.size + 1) F0 F1 _ _ _ _ _) _) (fun _ => ?_)
          clear hK K
          try simp only [Act.put, List.setIfInBounds_toArray, List.set_cons_zero, List.set_cons_succ]
          refine wpAnyH_ready (rs := [6]) (by kernel_rfl) (by simp) ?_
          refine AllReadyH.cons rfl (fun K hK => ?_) ?_
          · go_simp
            refine hK.out _ _ (RunS.alloc (RunS.far5 (RunS.far (p := ⟨w.heap.size, 0, none⟩) S5 _ E0 E1) (d := w.heap.size + 1) F0 F1 _ _ _ _ _) _) (fun _ => ?_)
            clear hK K
            try simp only [Act.put, List.setIfInBounds_toArray, List.set_cons_zero, List.set_cons_succ]
            refine wpAnyH_ready (rs := [9]) (by kernel_rfl) (by simp) ?_
            refine AllReadyH.cons rfl (fun K hK => ?_) ?_
            · go_simp
              refine hK.out _ _ (RunS.alloc (RunS.far5 (RunS.far (p := ⟨w.heap.size, 0, none⟩) S5 _ E0 E1) (d := w.heap.size + 1) F0 F1 _ _ _ _ _) _) (fun _ => ?_)
              clear hK K
              try simp only [Act.put, List.setIfInBounds_toArray, List.set_cons_zero, List.set_cons_succ]
              refine wpAnyH_done (by kernel_rfl) ?_ _
              refine NoPanic.normal ?_
              obtain ⟨WF, hWF, f1, ⟨q0, q1, q2, q3, q4⟩, hD, hB⟩ := HFx
              rw [← hWF]
              clear hWF HF1 HF2 hr5 hg5 c8 h8 r5 s5 rb5 rh5 cb5 d50 d51 d52 d53 d54 d0 d1 d2 d3 d4 cb cp0 cpf c0 c1 c2 c3 c4 cf0 cf1 cf2 cf3 cf4 hr4d hr4a HST4 HFI HOK rb4 rh4 hr4 r4 s4 B4
              go_wp2
              exact bodyPost_ret (v := .tuple #[.agg #[.slice aV MS.length cV], .agg #[.slice ac H.calls.length kc, .int .i64 H.now, .int .i64 H.born, .slice aD H.said.length kD, .int .i64 H.code], .int .i64 y]) (by simp [results, Tryz.results28, go_sem, f1, q0, q1, q2, q3, q4]) rfl ⟨_, _, _, MS, H, y, rfl, hD, ⟨hy0, hy1⟩, hB⟩
            exact AllReadyH.nil
          exact AllReadyH.nil
        exact AllReadyH.nil
      exact AllReadyH.nil
    refine AllReadyH.cons rfl (fun K hK => ?_) ?_
    · go_simp
      refine hK.out _ _ (RunS.far (p := ⟨w.heap.size, 0, none⟩) S5 _ E0 E1) (fun _ => ?_)
      clear hK K
      try simp only [Act.put, List.setIfInBounds_toArray, List.set_cons_zero, List.set_cons_succ]
      refine wpAnyH_ready (rs := [2, 8]) (by kernel_rfl) (by simp) ?_
      refine AllReadyH.cons rfl (fun K hK => ?_) ?_
      · go_simp
        refine hK.out _ _ (RunS.alloc (RunS.far (p := ⟨w.heap.size, 0, none⟩) S5 _ E0 E1) _) (fun _ => ?_)
        clear hK K
        try simp only [Act.put, List.setIfInBounds_toArray, List.set_cons_zero, List.set_cons_succ]
        refine wpAnyH_take (i := 5) (v := .pointer (some ⟨w5.heap.size, i, none⟩)) rfl (by kernel_rfl) (by kernel_rfl) (by kernel_rfl) (fun _ _ _ h => h) (Or.inl ⟨by rfl, ?hy6⟩) (RunS.alloc (RunS.far (p := ⟨w.heap.size, 0, none⟩) S5 _ E0 E1) _) ?_
        case hy6 =>
          intro x _
          go_simp
        try simp only [Act.put, List.setIfInBounds_toArray]
        refine wpAnyH_ready (rs := [6, 8]) (by kernel_rfl) (by simp) ?_
        refine AllReadyH.cons rfl (fun K hK => ?_) ?_
        · go_simp
          refine hK.out _ _ (RunS.alloc (RunS.far (p := ⟨w.heap.size, 0, none⟩) S5 _ E0 E1) _) (fun _ => ?_)
          clear hK K
          try simp only [Act.put, List.setIfInBounds_toArray, List.set_cons_zero, List.set_cons_succ]
          refine wpAnyH_ready (rs := [8]) (by kernel_rfl) (by simp) ?_
          refine AllReadyH.cons rfl (fun K hK => ?_) ?_
          · go_simp
            refine hK.out _ _ (RunS.alloc (RunS.far5 (RunS.far (p := ⟨w.heap.size, 0, none⟩) S5 _ E0 E1) (d := w.heap.size + 1) F0 F1 _ _ _ _ _) _) (fun _ => ?_)
            clear hK K
            try simp only [Act.put, List.setIfInBounds_toArray, List.set_cons_zero, List.set_cons_succ]
            refine wpAnyH_ready (rs := [9]) (by kernel_rfl) (by simp) ?_
            refine AllReadyH.cons rfl (fun K hK => ?_) ?_
            · go_simp
              refine hK.out _ _ (RunS.alloc (RunS.far5 (RunS.far (p := ⟨w.heap.size, 0, none⟩) S5 _ E0 E1) (d := w.heap.size + 1) F0 F1 _ _ _ _ _) _) (fun _ => ?_)
              clear hK K
              try simp only [Act.put, List.setIfInBounds_toArray, List.set_cons_zero, List.set_cons_succ]
              refine wpAnyH_done (by kernel_rfl) ?_ _
              refine NoPanic.normal ?_
              obtain ⟨WF, hWF, f1, ⟨q0, q1, q2, q3, q4⟩, hD, hB⟩ := HFx
              rw [← hWF]
              clear hWF HF1 HF2 hr5 hg5 c8 h8 r5 s5 rb5 rh5 cb5 d50 d51 d52 d53 d54 d0 d1 d2 d3 d4 cb cp0 cpf c0 c1 c2 c3 c4 cf0 cf1 cf2 cf3 cf4 hr4d hr4a HST4 HFI HOK rb4 rh4 hr4 r4 s4 B4
              go_wp2
              exact bodyPost_ret (v := .tuple #[.agg #[.slice aV MS.length cV], .agg #[.slice ac H.calls.length kc, .int .i64 H.now, .int .i64 H.born, .slice aD H.said.length kD, .int .i64 H.code], .int .i64 y]) (by simp [results, Tryz.results28, go_sem, f1, q0, q1, q2, q3, q4]) rfl ⟨_, _, _, MS, H, y, rfl, hD, ⟨hy0, hy1⟩, hB⟩
            exact AllReadyH.nil
          exact AllReadyH.nil
        refine AllReadyH.cons rfl (fun K hK => ?_) ?_
        · go_simp
          refine hK.out _ _ (RunS.alloc (RunS.far5 (RunS.far (p := ⟨w.heap.size, 0, none⟩) S5 _ E0 E1) (d := w.heap.size + 1) F0 F1 _ _ _ _ _) _) (fun _ => ?_)
          clear hK K
          try simp only [Act.put, List.setIfInBounds_toArray, List.set_cons_zero, List.set_cons_succ]
          refine wpAnyH_ready (rs := [6]) (by kernel_rfl) (by simp) ?_
          refine AllReadyH.cons rfl (fun K hK => ?_) ?_
          · go_simp
            refine hK.out _ _ (RunS.alloc (RunS.far5 (RunS.far (p := ⟨w.heap.size, 0, none⟩) S5 _ E0 E1) (d := w.heap.size + 1) F0 F1 _ _ _ _ _) _) (fun _ => ?_)
            clear hK K
            try simp only [Act.put, List.setIfInBounds_toArray, List.set_cons_zero, List.set_cons_succ]
            refine wpAnyH_ready (rs := [9]) (by kernel_rfl) (by simp) ?_
            refine AllReadyH.cons rfl (fun K hK => ?_) ?_
            · go_simp
              refine hK.out _ _ (RunS.alloc (RunS.far5 (RunS.far (p := ⟨w.heap.size, 0, none⟩) S5 _ E0 E1) (d := w.heap.size + 1) F0 F1 _ _ _ _ _) _) (fun _ => ?_)
              clear hK K
              try simp only [Act.put, List.setIfInBounds_toArray, List.set_cons_zero, List.set_cons_succ]
              refine wpAnyH_done (by kernel_rfl) ?_ _
              refine NoPanic.normal ?_
              obtain ⟨WF, hWF, f1, ⟨q0, q1, q2, q3, q4⟩, hD, hB⟩ := HFx
              rw [← hWF]
              clear hWF HF1 HF2 hr5 hg5 c8 h8 r5 s5 rb5 rh5 cb5 d50 d51 d52 d53 d54 d0 d1 d2 d3 d4 cb cp0 cpf c0 c1 c2 c3 c4 cf0 cf1 cf2 cf3 cf4 hr4d hr4a HST4 HFI HOK rb4 rh4 hr4 r4 s4 B4
              go_wp2
              exact bodyPost_ret (v := .tuple #[.agg #[.slice aV MS.length cV], .agg #[.slice ac H.calls.length kc, .int .i64 H.now, .int .i64 H.born, .slice aD H.said.length kD, .int .i64 H.code], .int .i64 y]) (by simp [results, Tryz.results28, go_sem, f1, q0, q1, q2, q3, q4]) rfl ⟨_, _, _, MS, H, y, rfl, hD, ⟨hy0, hy1⟩, hB⟩
            exact AllReadyH.nil
          exact AllReadyH.nil
        exact AllReadyH.nil
      refine AllReadyH.cons rfl (fun K hK => ?_) ?_
      · go_simp
        refine hK.out _ _ (RunS.far5 (RunS.far (p := ⟨w.heap.size, 0, none⟩) S5 _ E0 E1) (d := w.heap.size + 1) F0 F1 _ _ _ _ _) (fun _ => ?_)
        clear hK K
        try simp only [Act.put, List.setIfInBounds_toArray, List.set_cons_zero, List.set_cons_succ]
        refine wpAnyH_ready (rs := [2]) (by kernel_rfl) (by simp) ?_
        refine AllReadyH.cons rfl (fun K hK => ?_) ?_
        · go_simp
          refine hK.out _ _ (RunS.alloc (RunS.far5 (RunS.far (p := ⟨w.heap.size, 0, none⟩) S5 _ E0 E1) (d := w.heap.size + 1) F0 F1 _ _ _ _ _) _) (fun _ => ?_)
          clear hK K
          try simp only [Act.put, List.setIfInBounds_toArray, List.set_cons_zero, List.set_cons_succ]
          refine wpAnyH_take (i := 5) (v := .pointer (some ⟨w5.heap.size, i, none⟩)) rfl (by kernel_rfl) (by kernel_rfl) (by kernel_rfl) (fun _ _ _ h => h) (Or.inl ⟨by rfl, ?hy7⟩) (RunS.alloc (RunS.far5 (RunS.far (p := ⟨w.heap.size, 0, none⟩) S5 _ E0 E1) (d := w.heap.size + 1) F0 F1 _ _ _ _ _) _) ?_
          case hy7 =>
            intro x _
            go_simp
          try simp only [Act.put, List.setIfInBounds_toArray]
          refine wpAnyH_ready (rs := [6]) (by kernel_rfl) (by simp) ?_
          refine AllReadyH.cons rfl (fun K hK => ?_) ?_
          · go_simp
            refine hK.out _ _ (RunS.alloc (RunS.far5 (RunS.far (p := ⟨w.heap.size, 0, none⟩) S5 _ E0 E1) (d := w.heap.size + 1) F0 F1 _ _ _ _ _) _) (fun _ => ?_)
            clear hK K
            try simp only [Act.put, List.setIfInBounds_toArray, List.set_cons_zero, List.set_cons_succ]
            refine wpAnyH_ready (rs := [9]) (by kernel_rfl) (by simp) ?_
            refine AllReadyH.cons rfl (fun K hK => ?_) ?_
            · go_simp
              refine hK.out _ _ (RunS.alloc (RunS.far5 (RunS.far (p := ⟨w.heap.size, 0, none⟩) S5 _ E0 E1) (d := w.heap.size + 1) F0 F1 _ _ _ _ _) _) (fun _ => ?_)
              clear hK K
              try simp only [Act.put, List.setIfInBounds_toArray, List.set_cons_zero, List.set_cons_succ]
              refine wpAnyH_done (by kernel_rfl) ?_ _
              refine NoPanic.normal ?_
              obtain ⟨WF, hWF, f1, ⟨q0, q1, q2, q3, q4⟩, hD, hB⟩ := HFx
              rw [← hWF]
              clear hWF HF1 HF2 hr5 hg5 c8 h8 r5 s5 rb5 rh5 cb5 d50 d51 d52 d53 d54 d0 d1 d2 d3 d4 cb cp0 cpf c0 c1 c2 c3 c4 cf0 cf1 cf2 cf3 cf4 hr4d hr4a HST4 HFI HOK rb4 rh4 hr4 r4 s4 B4
              go_wp2
              exact bodyPost_ret (v := .tuple #[.agg #[.slice aV MS.length cV], .agg #[.slice ac H.calls.length kc, .int .i64 H.now, .int .i64 H.born, .slice aD H.said.length kD, .int .i64 H.code], .int .i64 y]) (by simp [results, Tryz.results28, go_sem, f1, q0, q1, q2, q3, q4]) rfl ⟨_, _, _, MS, H, y, rfl, hD, ⟨hy0, hy1⟩, hB⟩
            exact AllReadyH.nil
          exact AllReadyH.nil
        exact AllReadyH.nil
      exact AllReadyH.nil
    exact AllReadyH.nil
  exact AllReadyH.nil
end Go.Proofs.YtfpodljalccpnaaGreatDoor
