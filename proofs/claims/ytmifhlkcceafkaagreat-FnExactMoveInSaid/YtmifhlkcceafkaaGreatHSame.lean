/-
  The comparisons that the exact laws make of values, calls and heaps: eqVal, eqValS, eqCall, eqCallS, eqHeap answer true where both hold the same; they write to nothing that was there.
-/
import Derived.Test.YtmifhlkcceafkaaGreatProg
import Derived.Test.YtmifhlkcceafkaaGreatHPlain
import Derived.Deep.RegionWith

namespace Go.Proofs.YtmifhlkcceafkaaGreat
open Go.RowKit
set_option maxHeartbeats 400000 in
theorem eqVal_same (k a : Int) (w : World) :
    Calls Tryz.prog 79 #[.agg #[.int .i64 k, .int .i64 a], .agg #[.int .i64 k, .int .i64 a]] w fun e w' => e = .returned (.bool true) ∧ Below w.heap.size w w' := by
  go_enter Tryz.func79, Tryz.ntmps79
  go_wp2
  go_ret
  exact ⟨rfl, ((Below.refl _ _).alloc (Nat.le_refl _) _).alloc (by simp) _⟩
set_option maxHeartbeats 400000 in
theorem eqValS_same (v v' : Value) (ops : List (Int × Int)) (w : World) (h : OpsAt w v ops) (h' : OpsAt w v' ops) :
    Calls Tryz.prog 38 #[v, v'] w fun e w' => e = .returned (.bool true) ∧ Below w.heap.size w w' := by
  obtain ⟨a, cap, rfl, hl, hc⟩ := h
  obtain ⟨a', cap', rfl, _, hc'⟩ := h'
  unfold maxLen at hl
  go_enter Tryz.func38, Tryz.ntmps38
  go_wp2
  go_loopg [5] ops.length (fun g i wr => ∃ k : Nat, k ≤ ops.length ∧ g = ops.length - k ∧ i = .int .i64 k ∧ Below w.heap.size w wr)
  case atStart => exact ⟨0, Nat.zero_le _, rfl, rfl, Below.refl _ _⟩
  case round =>
    obtain ⟨k, hk, rfl, rfl, hb⟩ := hrel
    by_cases hlt : k < ops.length
    · obtain ⟨b, o, rfl, c0, c1⟩ := hc k hlt
      obtain ⟨b', o', rfl, c0', c1'⟩ := hc' k hlt
      have d0 := cell_below hb c0
      have d1 := cell_below hb c1
      have d0' := cell_below hb c0'
      have d1' := cell_below hb c1'
      clear c0 c1 c0' c1' hc hc'
      have hkz : (k : Int) < (ops.length : Int) := by omega
      have hsz := hb.size
      go_wp2_with fail
      go_region_with (go_at_call 79; refine (eqVal_same _ _ _).mono ?_; rintro e w1 ⟨rfl, hb1⟩)
      all_goals
        have hb2 : Below w.heap.size w w1 := hb.drew.trans (hb1.mono hsz)
        clear hb hb1 d0 d1 d0' d1'
        go_wp2
        go_roundg (ops.length - (k + 1))
        case measure => omega
        case rel => exact ⟨k + 1, by omega, rfl, by go_num, hb2⟩
    · go_wp2
      go_ret
      exact ⟨rfl, hb⟩
def clCells (vt vs : Value) (c : Cl) : Array Value := #[.int .i64 c.m, .int .i64 c.pc, vt, vs, .int .i64 c.sender, .bool c.dead]
set_option maxHeartbeats 1000000 in
theorem eqCall_same (c : Cl) (vt vs vt' vs' : Value) (w : World) (ht : OpsAt w vt c.temps) (hs : OpsAt w vs c.stack) (ht' : OpsAt w vt' c.temps) (hs' : OpsAt w vs' c.stack) :
    Calls Tryz.prog 81 #[.agg (clCells vt vs c), .agg (clCells vt' vs' c)] w fun e w' => e = .returned (.bool true) ∧ Below w.heap.size w w' := by
  unfold clCells
  obtain ⟨a1, k1, h1⟩ := ht.shape
  obtain ⟨a2, k2, h2⟩ := hs.shape
  obtain ⟨a3, k3, h3⟩ := ht'.shape
  obtain ⟨a4, k4, h4⟩ := hs'.shape
  subst h1 h2 h3 h4
  have hA : Below w.heap.size w ((w.alloc (.cells #[.int .i64 c.m, .int .i64 c.pc, .slice a1 c.temps.length k1, .slice a2 c.stack.length k2, .int .i64 c.sender, .bool c.dead] 63)).alloc (.cells #[.int .i64 c.m, .int .i64 c.pc, .slice a3 c.temps.length k3, .slice a4 c.stack.length k4, .int .i64 c.sender, .bool c.dead] 63)) := ((Below.refl _ _).alloc (Nat.le_refl _) _).alloc (by simp) _
  have x3 : ((w.alloc (.cells #[.int .i64 c.m, .int .i64 c.pc, .slice a1 c.temps.length k1, .slice a2 c.stack.length k2, .int .i64 c.sender, .bool c.dead] 63)).alloc (.cells #[.int .i64 c.m, .int .i64 c.pc, .slice a3 c.temps.length k3, .slice a4 c.stack.length k4, .int .i64 c.sender, .bool c.dead] 63)).cell? ⟨w.heap.size, 3, none⟩ = some (.slice a2 c.stack.length k2) := by simp [go_sem]
  have x4 : ((w.alloc (.cells #[.int .i64 c.m, .int .i64 c.pc, .slice a1 c.temps.length k1, .slice a2 c.stack.length k2, .int .i64 c.sender, .bool c.dead] 63)).alloc (.cells #[.int .i64 c.m, .int .i64 c.pc, .slice a3 c.temps.length k3, .slice a4 c.stack.length k4, .int .i64 c.sender, .bool c.dead] 63)).cell? ⟨w.heap.size, 4, none⟩ = some (.int .i64 c.sender) := by simp [go_sem]
  have x5 : ((w.alloc (.cells #[.int .i64 c.m, .int .i64 c.pc, .slice a1 c.temps.length k1, .slice a2 c.stack.length k2, .int .i64 c.sender, .bool c.dead] 63)).alloc (.cells #[.int .i64 c.m, .int .i64 c.pc, .slice a3 c.temps.length k3, .slice a4 c.stack.length k4, .int .i64 c.sender, .bool c.dead] 63)).cell? ⟨w.heap.size, 5, none⟩ = some (.bool c.dead) := by simp [go_sem]
  have y3 : ((w.alloc (.cells #[.int .i64 c.m, .int .i64 c.pc, .slice a1 c.temps.length k1, .slice a2 c.stack.length k2, .int .i64 c.sender, .bool c.dead] 63)).alloc (.cells #[.int .i64 c.m, .int .i64 c.pc, .slice a3 c.temps.length k3, .slice a4 c.stack.length k4, .int .i64 c.sender, .bool c.dead] 63)).cell? ⟨w.heap.size + 1, 3, none⟩ = some (.slice a4 c.stack.length k4) := by simp [go_sem]
  have y4 : ((w.alloc (.cells #[.int .i64 c.m, .int .i64 c.pc, .slice a1 c.temps.length k1, .slice a2 c.stack.length k2, .int .i64 c.sender, .bool c.dead] 63)).alloc (.cells #[.int .i64 c.m, .int .i64 c.pc, .slice a3 c.temps.length k3, .slice a4 c.stack.length k4, .int .i64 c.sender, .bool c.dead] 63)).cell? ⟨w.heap.size + 1, 4, none⟩ = some (.int .i64 c.sender) := by simp [go_sem]
  have y5 : ((w.alloc (.cells #[.int .i64 c.m, .int .i64 c.pc, .slice a1 c.temps.length k1, .slice a2 c.stack.length k2, .int .i64 c.sender, .bool c.dead] 63)).alloc (.cells #[.int .i64 c.m, .int .i64 c.pc, .slice a3 c.temps.length k3, .slice a4 c.stack.length k4, .int .i64 c.sender, .bool c.dead] 63)).cell? ⟨w.heap.size + 1, 5, none⟩ = some (.bool c.dead) := by simp [go_sem]
  go_enter Tryz.func81, Tryz.ntmps81
  go_wp2_with fail
  generalize (w.alloc (.cells #[.int .i64 c.m, .int .i64 c.pc, .slice a1 c.temps.length k1, .slice a2 c.stack.length k2, .int .i64 c.sender, .bool c.dead] 63)).alloc (.cells #[.int .i64 c.m, .int .i64 c.pc, .slice a3 c.temps.length k3, .slice a4 c.stack.length k4, .int .i64 c.sender, .bool c.dead] 63) = W0 at *
  refine (eqValS_same _ _ c.temps _ (ht.below hA) (ht'.below hA)).mono ?_
  rintro e w1 ⟨rfl, hb1⟩
  have hB1 : Below w.heap.size w w1 := hA.trans (hb1.mono hA.size)
  have X3 := cell_below hb1 x3
  have X4 := cell_below hb1 x4
  have X5 := cell_below hb1 x5
  have Y3 := cell_below hb1 y3
  have Y4 := cell_below hb1 y4
  have Y5 := cell_below hb1 y5
  clear hb1 hA x3 x4 x5 y3 y4 y5
  have z1 := hB1.size
  go_wp2_with fail
  refine (eqValS_same _ _ c.stack _ (hs.below hB1) (hs'.below hB1)).mono ?_
  rintro e w2 ⟨rfl, hb2⟩
  have hB2 : Below w.heap.size w w2 := hB1.trans (hb2.mono z1)
  have p4 := cell_below hb2 X4
  have p5 := cell_below hb2 X5
  have q4 := cell_below hb2 Y4
  have q5 := cell_below hb2 Y5
  clear hb2 X3 X4 X5 Y3 Y4 Y5
  go_wp2
  go_ret
  exact ⟨rfl, hB2⟩
set_option maxHeartbeats 2000000 in
theorem eqCallS_same (v v' : Value) (cs : List Cl) (w : World) (h : CallsAt w v cs) (h' : CallsAt w v' cs) :
    Calls Tryz.prog 40 #[v, v'] w fun e w' => e = .returned (.bool true) ∧ Below w.heap.size w w' := by
  obtain ⟨a, cap, rfl, hl, hc⟩ := h
  obtain ⟨a', cap', rfl, _, hc'⟩ := h'
  unfold maxLen at hl
  go_enter Tryz.func40, Tryz.ntmps40
  go_wp2
  go_loopg [5] cs.length (fun g i wr => ∃ k : Nat, k ≤ cs.length ∧ g = cs.length - k ∧ i = .int .i64 k ∧ Below w.heap.size w wr)
  case atStart => exact ⟨0, Nat.zero_le _, rfl, rfl, Below.refl _ _⟩
  case round =>
    obtain ⟨k, hk, rfl, rfl, hb⟩ := hrel
    by_cases hlt : k < cs.length
    · obtain ⟨b, o, vt, vs, rfl, hcl⟩ := hc k hlt
      obtain ⟨b', o', vt', vs', rfl, hcl'⟩ := hc' k hlt
      obtain ⟨d0, d1, d2, d3, d4, d5, dt, ds⟩ := hcl.below hb
      obtain ⟨d0', d1', d2', d3', d4', d5', dt', ds'⟩ := hcl'.below hb
      obtain ⟨a1, k1, h1⟩ := dt.shape
      obtain ⟨a2, k2, h2⟩ := ds.shape
      obtain ⟨a3, k3, h3⟩ := dt'.shape
      obtain ⟨a4, k4, h4⟩ := ds'.shape
      rw [h1] at d2 dt
      rw [h2] at d3 ds
      rw [h3] at d2' dt'
      rw [h4] at d3' ds'
      clear h1 h2 h3 h4 hcl hcl' hc hc'
      have hkz : (k : Int) < (cs.length : Int) := by omega
      have hsz := hb.size
      have DT : OpsAt wr.drew _ _ := dt.below (Below.refl _ _).drew
      have DS : OpsAt wr.drew _ _ := ds.below (Below.refl _ _).drew
      have DT' : OpsAt wr.drew _ _ := dt'.below (Below.refl _ _).drew
      have DS' : OpsAt wr.drew _ _ := ds'.below (Below.refl _ _).drew
      clear dt ds dt' ds'
      go_wp2_with fail
      go_region_with (go_at_call 81; refine (eqCall_same cs[k] _ _ _ _ _ DT DS DT' DS').mono ?_; rintro e w1 ⟨rfl, hb1⟩)
      all_goals
        have hb2 : Below w.heap.size w w1 := hb.drew.trans (hb1.mono hsz)
        clear hb hb1 d0 d1 d0' d1' d2 d2' d3 d3' d4 d4' d5 d5' DT DS DT' DS'
        go_wp2
        go_roundg (cs.length - (k + 1))
        case measure => omega
        case rel => exact ⟨k + 1, by omega, rfl, by go_num, hb2⟩
    · go_wp2
      go_ret
      exact ⟨rfl, hb⟩
set_option maxHeartbeats 1000000 in
theorem eqHeap_same (h : Hp) (vc vs vc' vs' : Value) (w : World) (hh : HeapAt w vc vs h) (hh' : HeapAt w vc' vs' h) :
    Calls Tryz.prog 12 #[.agg (hpCells vc vs h), .agg (hpCells vc' vs' h)] w fun e w' => e = .returned (.bool true) ∧ Below w.heap.size w w' := by
  unfold hpCells
  obtain ⟨a1, k1, h1⟩ := hh.c.shape
  obtain ⟨a2, k2, h2⟩ := hh.s.shape
  obtain ⟨a3, k3, h3⟩ := hh'.c.shape
  obtain ⟨a4, k4, h4⟩ := hh'.s.shape
  subst h1 h2 h3 h4
  have hA : Below w.heap.size w ((w.alloc (.cells #[.slice a1 h.calls.length k1, .int .i64 h.now, .int .i64 h.born, .slice a2 h.said.length k2, .int .i64 h.code] 45)).alloc (.cells #[.slice a3 h.calls.length k3, .int .i64 h.now, .int .i64 h.born, .slice a4 h.said.length k4, .int .i64 h.code] 45)) := ((Below.refl _ _).alloc (Nat.le_refl _) _).alloc (by simp) _
  have x1 : ((w.alloc (.cells #[.slice a1 h.calls.length k1, .int .i64 h.now, .int .i64 h.born, .slice a2 h.said.length k2, .int .i64 h.code] 45)).alloc (.cells #[.slice a3 h.calls.length k3, .int .i64 h.now, .int .i64 h.born, .slice a4 h.said.length k4, .int .i64 h.code] 45)).cell? ⟨w.heap.size, 1, none⟩ = some (.int .i64 h.now) := by simp [go_sem]
  have x2 : ((w.alloc (.cells #[.slice a1 h.calls.length k1, .int .i64 h.now, .int .i64 h.born, .slice a2 h.said.length k2, .int .i64 h.code] 45)).alloc (.cells #[.slice a3 h.calls.length k3, .int .i64 h.now, .int .i64 h.born, .slice a4 h.said.length k4, .int .i64 h.code] 45)).cell? ⟨w.heap.size, 2, none⟩ = some (.int .i64 h.born) := by simp [go_sem]
  have x3 : ((w.alloc (.cells #[.slice a1 h.calls.length k1, .int .i64 h.now, .int .i64 h.born, .slice a2 h.said.length k2, .int .i64 h.code] 45)).alloc (.cells #[.slice a3 h.calls.length k3, .int .i64 h.now, .int .i64 h.born, .slice a4 h.said.length k4, .int .i64 h.code] 45)).cell? ⟨w.heap.size, 3, none⟩ = some (.slice a2 h.said.length k2) := by simp [go_sem]
  have x4 : ((w.alloc (.cells #[.slice a1 h.calls.length k1, .int .i64 h.now, .int .i64 h.born, .slice a2 h.said.length k2, .int .i64 h.code] 45)).alloc (.cells #[.slice a3 h.calls.length k3, .int .i64 h.now, .int .i64 h.born, .slice a4 h.said.length k4, .int .i64 h.code] 45)).cell? ⟨w.heap.size, 4, none⟩ = some (.int .i64 h.code) := by simp [go_sem]
  have y1 : ((w.alloc (.cells #[.slice a1 h.calls.length k1, .int .i64 h.now, .int .i64 h.born, .slice a2 h.said.length k2, .int .i64 h.code] 45)).alloc (.cells #[.slice a3 h.calls.length k3, .int .i64 h.now, .int .i64 h.born, .slice a4 h.said.length k4, .int .i64 h.code] 45)).cell? ⟨w.heap.size + 1, 1, none⟩ = some (.int .i64 h.now) := by simp [go_sem]
  have y2 : ((w.alloc (.cells #[.slice a1 h.calls.length k1, .int .i64 h.now, .int .i64 h.born, .slice a2 h.said.length k2, .int .i64 h.code] 45)).alloc (.cells #[.slice a3 h.calls.length k3, .int .i64 h.now, .int .i64 h.born, .slice a4 h.said.length k4, .int .i64 h.code] 45)).cell? ⟨w.heap.size + 1, 2, none⟩ = some (.int .i64 h.born) := by simp [go_sem]
  have y3 : ((w.alloc (.cells #[.slice a1 h.calls.length k1, .int .i64 h.now, .int .i64 h.born, .slice a2 h.said.length k2, .int .i64 h.code] 45)).alloc (.cells #[.slice a3 h.calls.length k3, .int .i64 h.now, .int .i64 h.born, .slice a4 h.said.length k4, .int .i64 h.code] 45)).cell? ⟨w.heap.size + 1, 3, none⟩ = some (.slice a4 h.said.length k4) := by simp [go_sem]
  have y4 : ((w.alloc (.cells #[.slice a1 h.calls.length k1, .int .i64 h.now, .int .i64 h.born, .slice a2 h.said.length k2, .int .i64 h.code] 45)).alloc (.cells #[.slice a3 h.calls.length k3, .int .i64 h.now, .int .i64 h.born, .slice a4 h.said.length k4, .int .i64 h.code] 45)).cell? ⟨w.heap.size + 1, 4, none⟩ = some (.int .i64 h.code) := by simp [go_sem]
  go_enter Tryz.func12, Tryz.ntmps12
  go_wp2_with fail
  generalize (w.alloc (.cells #[.slice a1 h.calls.length k1, .int .i64 h.now, .int .i64 h.born, .slice a2 h.said.length k2, .int .i64 h.code] 45)).alloc (.cells #[.slice a3 h.calls.length k3, .int .i64 h.now, .int .i64 h.born, .slice a4 h.said.length k4, .int .i64 h.code] 45) = W0 at *
  refine (eqCallS_same _ _ h.calls _ (hh.below hA).c (hh'.below hA).c).mono ?_
  rintro e w1 ⟨rfl, hb1⟩
  have hB1 : Below w.heap.size w w1 := hA.trans (hb1.mono hA.size)
  have X1 := cell_below hb1 x1
  have X2 := cell_below hb1 x2
  have X3 := cell_below hb1 x3
  have X4 := cell_below hb1 x4
  have Y1 := cell_below hb1 y1
  have Y2 := cell_below hb1 y2
  have Y3 := cell_below hb1 y3
  have Y4 := cell_below hb1 y4
  clear hb1 hA x1 x2 x3 x4 y1 y2 y3 y4
  have z1 := hB1.size
  go_wp2_with fail
  refine (eqValS_same _ _ h.said _ (hh.below hB1).s (hh'.below hB1).s).mono ?_
  rintro e w2 ⟨rfl, hb2⟩
  have hB2 : Below w.heap.size w w2 := hB1.trans (hb2.mono z1)
  have p4 := cell_below hb2 X4
  have q4 := cell_below hb2 Y4
  clear hb2 X1 X2 X3 X4 Y1 Y2 Y3 Y4
  go_wp2
  go_ret
  exact ⟨rfl, hB2⟩
end Go.Proofs.YtmifhlkcceafkaaGreat

/-
  The comparisons that the exact laws make: eqOp, eqOpS, eqMethod, eqMethodS, eqProg answer true where both hold the same operations, methods, program; they write to nothing that was there.
-/
namespace Go.Proofs.YtmifhlkcceafkaaGreat
open Go.RowKit
set_option maxHeartbeats 400000 in
theorem eqOp_same (k a : Int) (w : World) :
    Calls Tryz.prog 104 #[.agg #[.int .i64 k, .int .i64 a], .agg #[.int .i64 k, .int .i64 a]] w fun e w' => e = .returned (.bool true) ∧ Below w.heap.size w w' := by
  go_enter Tryz.func104, Tryz.ntmps104
  go_wp2
  go_ret
  exact ⟨rfl, ((Below.refl _ _).alloc (Nat.le_refl _) _).alloc (by simp) _⟩
set_option maxHeartbeats 400000 in
theorem eqOpS_same (v v' : Value) (ops : List (Int × Int)) (w : World) (h : OpsAt w v ops) (h' : OpsAt w v' ops) :
    Calls Tryz.prog 96 #[v, v'] w fun e w' => e = .returned (.bool true) ∧ Below w.heap.size w w' := by
  obtain ⟨a, cap, rfl, hl, hc⟩ := h
  obtain ⟨a', cap', rfl, _, hc'⟩ := h'
  unfold maxLen at hl
  go_enter Tryz.func96, Tryz.ntmps96
  go_wp2
  go_loopg [5] ops.length (fun g i wr => ∃ k : Nat, k ≤ ops.length ∧ g = ops.length - k ∧ i = .int .i64 k ∧ Below w.heap.size w wr)
  case atStart => exact ⟨0, Nat.zero_le _, rfl, rfl, Below.refl _ _⟩
  case round =>
    obtain ⟨k, hk, rfl, rfl, hb⟩ := hrel
    by_cases hlt : k < ops.length
    · obtain ⟨b, o, rfl, c0, c1⟩ := hc k hlt
      obtain ⟨b', o', rfl, c0', c1'⟩ := hc' k hlt
      have d0 := cell_below hb c0
      have d1 := cell_below hb c1
      have d0' := cell_below hb c0'
      have d1' := cell_below hb c1'
      clear c0 c1 c0' c1' hc hc'
      have hkz : (k : Int) < (ops.length : Int) := by omega
      have hsz := hb.size
      go_wp2_with fail
      go_region_with (go_at_call 104; refine (eqOp_same _ _ _).mono ?_; rintro e w1 ⟨rfl, hb1⟩)
      all_goals
        have hb2 : Below w.heap.size w w1 := hb.drew.trans (hb1.mono hsz)
        clear hb hb1 d0 d1 d0' d1'
        go_wp2
        go_roundg (ops.length - (k + 1))
        case measure => omega
        case rel => exact ⟨k + 1, by omega, rfl, by go_num, hb2⟩
    · go_wp2
      go_ret
      exact ⟨rfl, hb⟩
set_option maxHeartbeats 400000 in
theorem eqMethod_same (x t : Int) (v v' : Value) (ops : List (Int × Int)) (w : World) (h : OpsAt w v ops) (h' : OpsAt w v' ops) :
    Calls Tryz.prog 80 #[.agg #[.int .i64 x, .int .i64 t, v], .agg #[.int .i64 x, .int .i64 t, v']] w fun e w' => e = .returned (.bool true) ∧ Below w.heap.size w w' := by
  obtain ⟨a, cap, hv, _⟩ := id h
  obtain ⟨a', cap', hv', _⟩ := id h'
  subst hv hv'
  go_enter Tryz.func80, Tryz.ntmps80
  go_wp2_with fail
  have hB : ∀ o1 o2, Below w.heap.size w ((w.alloc o1).alloc o2) := fun o1 o2 => ((Below.refl _ _).alloc (Nat.le_refl _) _).alloc (by simp) _
  refine (eqOpS_same _ _ ops _ (h.below (hB _ _)) (h'.below (hB _ _))).mono ?_
  rintro e w1 ⟨rfl, hb1⟩
  have hb2 : Below w.heap.size w w1 := (hB _ _).trans (hb1.mono (by simp; omega))
  clear hB hb1 h h'
  go_wp2
  go_ret
  exact ⟨rfl, hb2⟩
set_option maxHeartbeats 400000 in
theorem eqMethodS_same (v v' : Value) (ms : List (Int × Int × List (Int × Int))) (w : World) (h : MethsAt w v ms) (h' : MethsAt w v' ms) :
    Calls Tryz.prog 39 #[v, v'] w fun e w' => e = .returned (.bool true) ∧ Below w.heap.size w w' := by
  obtain ⟨a, cap, rfl, hl, hc⟩ := h
  obtain ⟨a', cap', rfl, _, hc'⟩ := h'
  unfold maxLen at hl
  go_enter Tryz.func39, Tryz.ntmps39
  go_wp2
  go_loopg [5] ms.length (fun g i wr => ∃ k : Nat, k ≤ ms.length ∧ g = ms.length - k ∧ i = .int .i64 k ∧ Below w.heap.size w wr)
  case atStart => exact ⟨0, Nat.zero_le _, rfl, rfl, Below.refl _ _⟩
  case round =>
    obtain ⟨k, hk, rfl, rfl, hb⟩ := hrel
    by_cases hlt : k < ms.length
    · obtain ⟨b, o, vo, rfl, c0, c1, c2, c3⟩ := hc k hlt
      obtain ⟨b', o', vo', rfl, c0', c1', c2', c3'⟩ := hc' k hlt
      have d0 := cell_below hb c0
      have d1 := cell_below hb c1
      have d2 := cell_below hb c2
      have d3 := c3.below hb
      have d0' := cell_below hb c0'
      have d1' := cell_below hb c1'
      have d2' := cell_below hb c2'
      have d3' := c3'.below hb
      clear c0 c1 c2 c3 c0' c1' c2' c3' hc hc'
      obtain ⟨ad, cap3, hvo, _⟩ := id d3
      obtain ⟨ad', cap3', hvo', _⟩ := id d3'
      rw [hvo] at d2 d3
      rw [hvo'] at d2' d3'
      have hkz : (k : Int) < (ms.length : Int) := by omega
      have hsz := hb.size
      clear hvo hvo'
      have D3 : OpsAt wr.drew _ _ := d3.below (Below.refl _ _).drew
      have D3' : OpsAt wr.drew _ _ := d3'.below (Below.refl _ _).drew
      clear d3 d3'
      go_wp2_with fail
      go_region_with (go_at_call 80; refine (eqMethod_same _ _ _ _ _ _ D3 D3').mono ?_; rintro e w1 ⟨rfl, hb1⟩)
      all_goals
        have hb2 : Below w.heap.size w w1 := hb.drew.trans (hb1.mono hsz)
        clear hb hb1 d0 d1 d0' d1' d2 d2' D3 D3'
        go_wp2
        go_roundg (ms.length - (k + 1))
        case measure => omega
        case rel => exact ⟨k + 1, by omega, rfl, by go_num, hb2⟩
    · go_wp2
      go_ret
      exact ⟨rfl, hb⟩
set_option maxHeartbeats 400000 in
theorem eqProg_same (v v' : Value) (ms : List (Int × Int × List (Int × Int))) (w : World) (h : MethsAt w v ms) (h' : MethsAt w v' ms) :
    Calls Tryz.prog 11 #[.agg #[v], .agg #[v']] w fun e w' => e = .returned (.bool true) ∧ Below w.heap.size w w' := by
  obtain ⟨a, cap, hv, _⟩ := id h
  obtain ⟨a', cap', hv', _⟩ := id h'
  subst hv hv'
  go_enter Tryz.func11, Tryz.ntmps11
  go_wp2_with fail
  have hB : ∀ o1 o2, Below w.heap.size w ((w.alloc o1).alloc o2) := fun o1 o2 => ((Below.refl _ _).alloc (Nat.le_refl _) _).alloc (by simp) _
  refine (eqMethodS_same _ _ ms _ (h.below (hB _ _)) (h'.below (hB _ _))).mono ?_
  rintro e w1 ⟨rfl, hb1⟩
  have hb2 : Below w.heap.size w w1 := (hB _ _).trans (hb1.mono (by simp; omega))
  clear hB hb1 h h'
  go_wp2
  go_ret
  exact ⟨rfl, hb2⟩
end Go.Proofs.YtmifhlkcceafkaaGreat
