/-
  The copies that the exact laws make of values and calls: toVal, toValS, toCall answer the same in new memory, and write to nothing that was there.
-/
import Derived.Test.YtmifhlkcceafkaaGreatCopy2
import Derived.Test.YtmifhlkcceafkaaGreatHSame
import Derived.Deep.DeepCutAuto

namespace Go.Proofs.YtmifhlkcceafkaaGreat
open Go.RowKit
theorem Tryz.infoVal : (Tryz.prog.info? 82).map (fun i => (i.zero, i.size, i.bytes)) = some (some (.agg #[.int .i64 0, .int .i64 0]), 2, 16) := by kernel_rfl
theorem toVal_any (k a : Int) (w : World) :
    Calls Tryz.prog 62 #[.agg #[.int .i64 k, .int .i64 a]] w fun e w' => e = .returned (.agg #[.int .i64 k, .int .i64 a]) ∧ Below w.heap.size w w' ∧ NF w.heap.size w' := by
  go_enter Tryz.func62, Tryz.ntmps62
  go_wp2
  refine bodyPost_ret (v := .agg #[.int .i64 k, .int .i64 a]) (by simp [results, Tryz.results62, go_sem]) rfl ⟨rfl, ?_, ?_⟩
  · exact (((Below.refl _ _).alloc (Nat.le_refl _) _).alloc (by simp) _).alloc (by simp; omega) _
  · exact (((NF.start w).alloc _ _).alloc _ _).alloc _ _
set_option maxHeartbeats 400000 in
theorem toValS_any (v : Value) (ops : List (Int × Int)) (w : World) (h : OpsAt w v ops) (hn : ops.length ≤ 1048576) :
    Calls Tryz.prog 26 #[v] w fun e w' => ∃ v', e = .returned v' ∧ OpsAt w' v' ops ∧ v' = .slice (some ⟨w.heap.size, 0, none⟩) ops.length ops.length ∧ Below w.heap.size w w' ∧ NF w.heap.size w' ∧ w.heap.size < w'.heap.size := by
  obtain ⟨a, cap, rfl, hl, hc⟩ := h
  have hl' := hl
  unfold maxLen at hl
  obtain ⟨i0, hi, hz0, hz1, hz2⟩ := info_parts Tryz.infoVal
  have hmk : ∀ w : World, (Instr.makeSlice 34 (.int .i64 (ops.length : Int)) (.int .i64 (ops.length : Int))).run Tryz.prog w = .ok (.slice (some ⟨w.heap.size, 0, none⟩) ops.length ops.length) (w.alloc (.cells (madeCells #[.int .i64 0, .int .i64 0] (ops.length * 2)) 82)) := by
    intro w
    have := run_make (P := Tryz.prog) w 34 82 i0 _ Tryz.underlying34 hi hz0 .i64 .i64 ops.length ops.length (by omega) (Int.le_refl _) (by rw [hz2]; omega) (by omega)
    simpa [hz1, Value.cells] using this
  go_enter Tryz.func26, Tryz.ntmps26
  go_wp2
  clear hmk hi hz0 hz1 hz2
  go_loopg [4] ops.length (fun g i wr => ∃ k : Nat, k ≤ ops.length ∧ g = ops.length - k ∧ i = .int .i64 k ∧ NF w.heap.size wr ∧ Below w.heap.size w wr ∧ wr.rowIs w.heap.size 82 (ops.length * 2) (fun j => if j < k * 2 then opCell ops j else .int .i64 0))
  case atStart => exact ⟨0, Nat.zero_le _, rfl, rfl, (NF.start w).alloc _ _, (Below.refl _ _).alloc (Nat.le_refl _) _, ops_row_start _ _ _ _⟩
  case round =>
    obtain ⟨k, hk, rfl, rfl, hnf, hb, hrow⟩ := hrel
    have HNF : Hid (NF w.heap.size wr) := hnf
    clear hnf
    by_cases hlt : k < ops.length
    · obtain ⟨b, o, rfl, c0, c1⟩ := hc k hlt
      have d0 := cell_below hb c0
      have d1 := cell_below hb c1
      clear c0 c1 hc
      have hkz : (k : Int) < (ops.length : Int) := by omega
      go_wp2_with fail
      refine (toVal_any _ _ _).mono ?_
      rintro e w1 ⟨rfl, hb1, hnf1⟩
      have hsz := hb.size
      have HNF1 : Hid (NF w.heap.size w1) := HNF.out.go hnf1 hb1
      clear HNF hnf1
      have hrow1 := row_below hb1 hrow
      have hb2 : Below w.heap.size w w1 := hb.trans (hb1.mono (Nat.le_of_lt hrow.lt))
      have f0 := hrow1.frozen (k * 2)
      have f1 := hrow1.frozen (k * 2 + 1)
      have g0 := hrow1.cell (i := k * 2) (by omega)
      have g1 := hrow1.cell (i := k * 2 + 1) (by omega)
      have R := ops_row_step hlt hrow1
      clear hrow hrow1 hb hb1 d0 d1
      go_wp2
      go_roundg (ops.length - (k + 1))
      case measure => omega
      case rel => exact ⟨k + 1, by omega, rfl, by go_num, (HNF1.out.set _ _).set _ _, (hb2.setCell (Nat.le_refl _) _).setCell (Nat.le_refl _) _, R⟩
    · obtain rfl : k = ops.length := by omega
      have hlt' := hrow.lt
      go_wp2
      go_ret
      exact ⟨_, rfl, ops_row_end hl' hrow _, rfl, hb, HNF.out, hlt'⟩
def six (x0 x1 x2 x3 x4 x5 : Value) : Nat → Value := fun i => if i = 0 then x0 else if i = 1 then x1 else if i = 2 then x2 else if i = 3 then x3 else if i = 4 then x4 else x5
theorem six_new (w : World) (t : TypeId) (x0 x1 x2 x3 x4 x5 : Value) : (w.alloc (.cells #[x0, x1, x2, x3, x4, x5] t)).rowIs w.heap.size t 6 (six x0 x1 x2 x3 x4 x5) :=
  ⟨_, Go.Deep.blk_alloc_new _ _, rfl, fun i hi => by match i, hi with | 0, _ => rfl | 1, _ => rfl | 2, _ => rfl | 3, _ => rfl | 4, _ => rfl | 5, _ => rfl⟩
theorem six_cells {w : World} {g : Nat} {t : TypeId} {x0 x1 x2 x3 x4 x5 : Value} (h : w.rowIs g t 6 (six x0 x1 x2 x3 x4 x5)) :
    (w.cell? ⟨g, 0, none⟩ = some x0 ∧ w.cell? ⟨g, 1, none⟩ = some x1 ∧ w.cell? ⟨g, 2, none⟩ = some x2 ∧ w.cell? ⟨g, 3, none⟩ = some x3 ∧ w.cell? ⟨g, 4, none⟩ = some x4 ∧ w.cell? ⟨g, 5, none⟩ = some x5) ∧
    (w.frozen? ⟨g, 0, none⟩ = false ∧ w.frozen? ⟨g, 1, none⟩ = false ∧ w.frozen? ⟨g, 2, none⟩ = false ∧ w.frozen? ⟨g, 3, none⟩ = false ∧ w.frozen? ⟨g, 4, none⟩ = false ∧ w.frozen? ⟨g, 5, none⟩ = false) :=
  ⟨⟨h.cell (i := 0) (by decide), h.cell (i := 1) (by decide), h.cell (i := 2) (by decide), h.cell (i := 3) (by decide), h.cell (i := 4) (by decide), h.cell (i := 5) (by decide)⟩, h.frozen 0, h.frozen 1, h.frozen 2, h.frozen 3, h.frozen 4, h.frozen 5⟩
theorem six_set2 {w : World} {g : Nat} {t : TypeId} {x0 x1 x2 x3 x4 x5 : Value} (h : w.rowIs g t 6 (six x0 x1 x2 x3 x4 x5)) (v : Value) : (w.setCell ⟨g, 2, none⟩ v).rowIs g t 6 (six x0 x1 v x3 x4 x5) :=
  (h.set 2 v).congr fun i hi => by match i, hi with | 0, _ => rfl | 1, _ => rfl | 2, _ => rfl | 3, _ => rfl | 4, _ => rfl | 5, _ => rfl
theorem six_set0 {w : World} {g : Nat} {t : TypeId} {x0 x1 x2 x3 x4 x5 : Value} (h : w.rowIs g t 6 (six x0 x1 x2 x3 x4 x5)) (v : Value) : (w.setCell ⟨g, 0, none⟩ v).rowIs g t 6 (six v x1 x2 x3 x4 x5) :=
  (h.set 0 v).congr fun i hi => by match i, hi with | 0, _ => rfl | 1, _ => rfl | 2, _ => rfl | 3, _ => rfl | 4, _ => rfl | 5, _ => rfl
theorem six_set1 {w : World} {g : Nat} {t : TypeId} {x0 x1 x2 x3 x4 x5 : Value} (h : w.rowIs g t 6 (six x0 x1 x2 x3 x4 x5)) (v : Value) : (w.setCell ⟨g, 1, none⟩ v).rowIs g t 6 (six x0 v x2 x3 x4 x5) :=
  (h.set 1 v).congr fun i hi => by match i, hi with | 0, _ => rfl | 1, _ => rfl | 2, _ => rfl | 3, _ => rfl | 4, _ => rfl | 5, _ => rfl
theorem six_set3 {w : World} {g : Nat} {t : TypeId} {x0 x1 x2 x3 x4 x5 : Value} (h : w.rowIs g t 6 (six x0 x1 x2 x3 x4 x5)) (v : Value) : (w.setCell ⟨g, 3, none⟩ v).rowIs g t 6 (six x0 x1 x2 v x4 x5) :=
  (h.set 3 v).congr fun i hi => by match i, hi with | 0, _ => rfl | 1, _ => rfl | 2, _ => rfl | 3, _ => rfl | 4, _ => rfl | 5, _ => rfl
theorem six_set4 {w : World} {g : Nat} {t : TypeId} {x0 x1 x2 x3 x4 x5 : Value} (h : w.rowIs g t 6 (six x0 x1 x2 x3 x4 x5)) (v : Value) : (w.setCell ⟨g, 4, none⟩ v).rowIs g t 6 (six x0 x1 x2 x3 v x5) :=
  (h.set 4 v).congr fun i hi => by match i, hi with | 0, _ => rfl | 1, _ => rfl | 2, _ => rfl | 3, _ => rfl | 4, _ => rfl | 5, _ => rfl
theorem six_set5 {w : World} {g : Nat} {t : TypeId} {x0 x1 x2 x3 x4 x5 : Value} (h : w.rowIs g t 6 (six x0 x1 x2 x3 x4 x5)) (v : Value) : (w.setCell ⟨g, 5, none⟩ v).rowIs g t 6 (six x0 x1 x2 x3 x4 v) :=
  (h.set 5 v).congr fun i hi => by match i, hi with | 0, _ => rfl | 1, _ => rfl | 2, _ => rfl | 3, _ => rfl | 4, _ => rfl | 5, _ => rfl
theorem row_set {w : World} {g k o : Nat} {t : TypeId} {n : Nat} {f : Nat → Value} (h : w.rowIs g t n f) (hk : g ≠ k) (v : Value) : (w.setCell ⟨k, o, none⟩ v).rowIs g t n f :=
  h.of_block (Below.heap_setCell _ _ _ _ hk)
set_option maxHeartbeats 2000000 in
theorem toCall_any (c : Cl) (vt vs : Value) (w : World) (ht : OpsAt w vt c.temps) (hs : OpsAt w vs c.stack) (hsm : c.small) :
    Calls Tryz.prog 61 #[.agg (clCells vt vs c)] w fun e w' => ∃ gt gs, e = .returned (.agg (clCells (.slice (some ⟨gt, 0, none⟩) c.temps.length c.temps.length) (.slice (some ⟨gs, 0, none⟩) c.stack.length c.stack.length) c)) ∧
      w.heap.size ≤ gt ∧ gt < gs ∧ gs < w'.heap.size ∧ OpsAt w' (.slice (some ⟨gt, 0, none⟩) c.temps.length c.temps.length) c.temps ∧ OpsAt w' (.slice (some ⟨gs, 0, none⟩) c.stack.length c.stack.length) c.stack ∧ Below w.heap.size w w' ∧ NF w.heap.size w' := by
  unfold clCells
  obtain ⟨a1, k1, h1⟩ := ht.shape
  obtain ⟨a2, k2, h2⟩ := hs.shape
  subst h1 h2
  have hA : Below w.heap.size w (((w.alloc (.cells #[.int .i64 c.m, .int .i64 c.pc, .slice a1 c.temps.length k1, .slice a2 c.stack.length k2, .int .i64 c.sender, .bool c.dead] 101)).alloc (.cells #[.int .i64 0, .int .i64 0, .slice none 0 0, .slice none 0 0, .int .i64 0, .bool false] 63)).alloc (.cells #[.int .i64 c.m, .int .i64 c.pc, .slice none 0 0, .slice none 0 0, .int .i64 0, .bool false] 63)) := (((Below.refl _ _).alloc (Nat.le_refl _) _).alloc (by simp) _).alloc (by simp; omega) _
  have nA : NF w.heap.size (((w.alloc (.cells #[.int .i64 c.m, .int .i64 c.pc, .slice a1 c.temps.length k1, .slice a2 c.stack.length k2, .int .i64 c.sender, .bool c.dead] 101)).alloc (.cells #[.int .i64 0, .int .i64 0, .slice none 0 0, .slice none 0 0, .int .i64 0, .bool false] 63)).alloc (.cells #[.int .i64 c.m, .int .i64 c.pc, .slice none 0 0, .slice none 0 0, .int .i64 0, .bool false] 63)) := (((NF.start w).alloc _ _).alloc _ _).alloc _ _
  have pA := ((six_new w 101 (.int .i64 c.m) (.int .i64 c.pc) (.slice a1 c.temps.length k1) (.slice a2 c.stack.length k2) (.int .i64 c.sender) (.bool c.dead)).alloc (.cells #[.int .i64 0, .int .i64 0, .slice none 0 0, .slice none 0 0, .int .i64 0, .bool false] 63)).alloc (.cells #[.int .i64 c.m, .int .i64 c.pc, .slice none 0 0, .slice none 0 0, .int .i64 0, .bool false] 63)
  have rB := (six_new (w.alloc (.cells #[.int .i64 c.m, .int .i64 c.pc, .slice a1 c.temps.length k1, .slice a2 c.stack.length k2, .int .i64 c.sender, .bool c.dead] 101)) 63 (.int .i64 0) (.int .i64 0) (.slice none 0 0) (.slice none 0 0) (.int .i64 0) (.bool false)).alloc (.cells #[.int .i64 c.m, .int .i64 c.pc, .slice none 0 0, .slice none 0 0, .int .i64 0, .bool false] 63)
  have oC := six_new ((w.alloc (.cells #[.int .i64 c.m, .int .i64 c.pc, .slice a1 c.temps.length k1, .slice a2 c.stack.length k2, .int .i64 c.sender, .bool c.dead] 101)).alloc (.cells #[.int .i64 0, .int .i64 0, .slice none 0 0, .slice none 0 0, .int .i64 0, .bool false] 63)) 63 (.int .i64 c.m) (.int .i64 c.pc) (.slice none 0 0) (.slice none 0 0) (.int .i64 0) (.bool false)
  have zA : (((w.alloc (.cells #[.int .i64 c.m, .int .i64 c.pc, .slice a1 c.temps.length k1, .slice a2 c.stack.length k2, .int .i64 c.sender, .bool c.dead] 101)).alloc (.cells #[.int .i64 0, .int .i64 0, .slice none 0 0, .slice none 0 0, .int .i64 0, .bool false] 63)).alloc (.cells #[.int .i64 c.m, .int .i64 c.pc, .slice none 0 0, .slice none 0 0, .int .i64 0, .bool false] 63)).heap.size ≥ w.heap.size + 1 + 1 + 1 := by simp
  simp only [World.size_alloc] at rB oC
  go_enter Tryz.func61, Tryz.ntmps61
  go_upto_region 4 with fail
  generalize ((w.alloc (.cells #[.int .i64 c.m, .int .i64 c.pc, .slice a1 c.temps.length k1, .slice a2 c.stack.length k2, .int .i64 c.sender, .bool c.dead] 101)).alloc (.cells #[.int .i64 0, .int .i64 0, .slice none 0 0, .slice none 0 0, .int .i64 0, .bool false] 63)).alloc (.cells #[.int .i64 c.m, .int .i64 c.pc, .slice none 0 0, .slice none 0 0, .int .i64 0, .bool false] 63) = W0 at *
  have NA : Hid (NF w.heap.size W0) := nA
  clear nA
  obtain ⟨⟨_, _, u2, _, _, _⟩, _⟩ := six_cells pA
  go_wp2_with fail
  refine (toValS_any _ c.temps _ (ht.below hA) hsm.1).mono ?_
  rintro e w1 ⟨v1, rfl, o1, hv1, hb1, n1, s1⟩
  subst hv1
  have N1 : Hid (NF w.heap.size w1) := NA.out.go n1 hb1
  have B1 : Below w.heap.size w w1 := hA.trans (hb1.mono (by omega))
  have p1 := row_below hb1 pA
  have r1 := row_below hb1 rB
  have q1 := row_below hb1 oC
  clear n1 NA hA hb1 pA rB oC u2
  have own1 : Own W0.heap.size (.slice (some ⟨W0.heap.size, 0, none⟩) c.temps.length c.temps.length) := ⟨_, _, _, rfl, Nat.le_refl _⟩
  have o2 := o1.set own1 (p := ⟨w.heap.size + 1 + 1, 2, none⟩) (by show w.heap.size + 1 + 1 < _; omega) (.slice (some ⟨W0.heap.size, 0, none⟩) c.temps.length c.temps.length)
  have q2 := six_set2 q1 (.slice (some ⟨W0.heap.size, 0, none⟩) c.temps.length c.temps.length)
  have p2 := row_set (k := w.heap.size + 1 + 1) (o := 2) p1 (by omega) (.slice (some ⟨W0.heap.size, 0, none⟩) c.temps.length c.temps.length)
  have r2 := row_set (k := w.heap.size + 1 + 1) (o := 2) r1 (by omega) (.slice (some ⟨W0.heap.size, 0, none⟩) c.temps.length c.temps.length)
  have B2 := B1.setCell (p := ⟨w.heap.size + 1 + 1, 2, none⟩) (show w.heap.size ≤ w.heap.size + 1 + 1 by omega) (.slice (some ⟨W0.heap.size, 0, none⟩) c.temps.length c.temps.length)
  have N2 : Hid (NF w.heap.size (w1.setCell ⟨w.heap.size + 1 + 1, 2, none⟩ (.slice (some ⟨W0.heap.size, 0, none⟩) c.temps.length c.temps.length))) := N1.out.set _ _
  have s2 : W0.heap.size < (w1.setCell ⟨w.heap.size + 1 + 1, 2, none⟩ (.slice (some ⟨W0.heap.size, 0, none⟩) c.temps.length c.temps.length)).heap.size := by simp [World.setCell]; exact s1
  obtain ⟨⟨_, _, t2, _, _, _⟩, _, _, f2, _, _, _⟩ := six_cells q1
  clear N1 B1 p1 r1 q1 o1
  go_upto_region 5 with fail
  generalize w1.setCell ⟨w.heap.size + 1 + 1, 2, none⟩ (.slice (some ⟨W0.heap.size, 0, none⟩) c.temps.length c.temps.length) = w2 at *
  clear t2 f2
  obtain ⟨⟨_, _, _, u3, _, _⟩, _⟩ := six_cells p2
  go_wp2_with fail
  refine (toValS_any _ c.stack _ (hs.below B2) hsm.2).mono ?_
  rintro e w3 ⟨v3, rfl, o3, hv3, hb3, n3, s3⟩
  subst hv3
  have N3 : Hid (NF w.heap.size w3) := N2.out.go n3 hb3
  have B3 : Below w.heap.size w w3 := B2.trans (hb3.mono B2.size)
  have p3 := row_below hb3 p2
  have r3 := row_below hb3 r2
  have q3 := row_below hb3 q2
  have o3' := o2.below hb3
  clear n3 N2 B2 hb3 p2 r2 q2 o2 u3
  have own3 : Own W0.heap.size (.slice (some ⟨w2.heap.size, 0, none⟩) c.stack.length c.stack.length) := ⟨_, _, _, rfl, by omega⟩
  obtain ⟨⟨_, _, _, _, u4, u5⟩, _⟩ := six_cells p3
  obtain ⟨⟨t0, t1, t2, t3, t4, t5⟩, f0, f1, f2, f3, f4, f5⟩ := six_cells q3
  obtain ⟨⟨i0, i1, i2, i3, i4, i5⟩, j0, j1, j2, j3, j4, j5⟩ := six_cells r3
  have ho : w.heap.size + 1 + 1 < W0.heap.size := by omega
  have hr : w.heap.size + 1 < W0.heap.size := by omega
  obtain ⟨W9, hW9⟩ : ∃ W9, W9 = (((((((((w3.setCell ⟨w.heap.size + 1 + 1, 3, none⟩ (.slice (some ⟨w2.heap.size, 0, none⟩) c.stack.length c.stack.length)).setCell ⟨w.heap.size + 1 + 1, 4, none⟩ (.int .i64 c.sender)).setCell ⟨w.heap.size + 1 + 1, 5, none⟩ (.bool c.dead)).setCell ⟨w.heap.size + 1, 0, none⟩ (.int .i64 c.m)).setCell ⟨w.heap.size + 1, 1, none⟩ (.int .i64 c.pc)).setCell ⟨w.heap.size + 1, 2, none⟩ (.slice (some ⟨W0.heap.size, 0, none⟩) c.temps.length c.temps.length)).setCell ⟨w.heap.size + 1, 3, none⟩ (.slice (some ⟨w2.heap.size, 0, none⟩) c.stack.length c.stack.length)).setCell ⟨w.heap.size + 1, 4, none⟩ (.int .i64 c.sender)).setCell ⟨w.heap.size + 1, 5, none⟩ (.bool c.dead)) := ⟨_, rfl⟩
  have B9 : Below w.heap.size w W9 := by
    rw [hW9]
    exact ((((((((B3.setCell (show w.heap.size ≤ w.heap.size + 1 + 1 by omega) _).setCell (show w.heap.size ≤ w.heap.size + 1 + 1 by omega) _).setCell (show w.heap.size ≤ w.heap.size + 1 + 1 by omega) _).setCell (Nat.le_succ _) _).setCell (Nat.le_succ _) _).setCell (Nat.le_succ _) _).setCell (Nat.le_succ _) _).setCell (Nat.le_succ _) _).setCell (Nat.le_succ _) _
  have N9 : NF w.heap.size W9 := by
    rw [hW9]
    exact ((((((((N3.out.set _ _).set _ _).set _ _).set _ _).set _ _).set _ _).set _ _).set _ _).set _ _
  have O9 : OpsAt W9 (.slice (some ⟨W0.heap.size, 0, none⟩) c.temps.length c.temps.length) c.temps := by
    rw [hW9]
    exact ((((((((o3'.set own1 ho _).set own1 ho _).set own1 ho _).set own1 hr _).set own1 hr _).set own1 hr _).set own1 hr _).set own1 hr _).set own1 hr _
  have Q9 : OpsAt W9 (.slice (some ⟨w2.heap.size, 0, none⟩) c.stack.length c.stack.length) c.stack := by
    rw [hW9]
    exact ((((((((o3.set own3 ho _).set own3 ho _).set own3 ho _).set own3 hr _).set own3 hr _).set own3 hr _).set own3 hr _).set own3 hr _).set own3 hr _
  have R9 : W9.rowIs (w.heap.size + 1) 63 6 (six (.int .i64 c.m) (.int .i64 c.pc) (.slice (some ⟨W0.heap.size, 0, none⟩) c.temps.length c.temps.length) (.slice (some ⟨w2.heap.size, 0, none⟩) c.stack.length c.stack.length) (.int .i64 c.sender) (.bool c.dead)) := by
    rw [hW9]
    exact six_set5 (six_set4 (six_set3 (six_set2 (six_set1 (six_set0 (row_set (row_set (row_set r3 (by omega) _) (by omega) _) (by omega) _) _) _) _) _) _) _
  have s9 : w2.heap.size < W9.heap.size := by rw [hW9]; simp [World.setCell]; exact s3
  have HW : Hid (W9 = _) := hW9
  clear hW9 o3 o3' N3 B3 p3 r3 q3
  go_wp2
  rw [← HW.out]
  obtain ⟨⟨d0, d1, d2, d3, d4, d5⟩, _⟩ := six_cells R9
  exact bodyPost_ret (v := .agg #[.int .i64 c.m, .int .i64 c.pc, .slice (some ⟨W0.heap.size, 0, none⟩) c.temps.length c.temps.length, .slice (some ⟨w2.heap.size, 0, none⟩) c.stack.length c.stack.length, .int .i64 c.sender, .bool c.dead]) (by simp [results, Tryz.results61, go_sem, d0, d1, d2, d3, d4, d5]) rfl ⟨_, _, rfl, by omega, s2, s9, O9, Q9, B9, N9⟩
end Go.Proofs.YtmifhlkcceafkaaGreat
