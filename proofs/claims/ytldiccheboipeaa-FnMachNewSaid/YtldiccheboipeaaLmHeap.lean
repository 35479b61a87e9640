/-
  The comparisons that the exact laws make of values, calls and heaps: eqVal, eqValS, eqCall, eqCallS, eqHeap answer true where both hold the same; they write to nothing that was there.
-/
import Derived.Test.YtldiccheboipeaaProg
import Derived.Test.YtldiccheboipeaaBase
import Derived.Deep.RegionWith

namespace Go.Proofs.Ytldiccheboipeaa
open Go.RowKit
def clCells (vt vs : Value) (c : Cl) : Array Value := #[.int .i64 c.m, .int .i64 c.pc, vt, vs, .int .i64 c.sender, .bool c.dead]
end Go.Proofs.Ytldiccheboipeaa

/-
  The comparisons that the drawn laws make of values, calls and heaps: lmVals, lmCall, lmCalls, lmHeap answer true where both hold the same; they write to nothing that was there.
-/
namespace Go.Proofs.Ytldiccheboipeaa
open Go.RowKit
set_option maxHeartbeats 400000 in
theorem lmVals_same (v v' : Value) (ops : List (Int × Int)) (w : World) (h : OpsAt w v ops) (h' : OpsAt w v' ops) :
    Calls Try.prog 39 #[v, v'] w fun e w' => e = .returned (.bool true) ∧ Below w.heap.size w w' := by
  obtain ⟨a, cap, rfl, hl, hc⟩ := h
  obtain ⟨a', cap', rfl, _, hc'⟩ := h'
  unfold maxLen at hl
  go_enter Try.func39, Try.ntmps39
  go_wp2
  go_loopg [5] ops.length (fun g i wr => ∃ k : Nat, k ≤ ops.length ∧ g = ops.length - k ∧ i = .int .i64 k ∧ Below w.heap.size w wr)
  case atStart => exact ⟨0, Nat.zero_le _, rfl, rfl, Below.refl _ _⟩
  case round =>
    obtain ⟨k, hk, rfl, rfl, hb⟩ := hrel
    by_cases hlt : k < ops.length
    · obtain ⟨b, o, rfl, c0, c1⟩ := hc k hlt
      obtain ⟨b', o', rfl, c0', c1'⟩ := hc' k hlt
      have d0 := cell_below hb c0
      have d1 := cell_below hb c1
      have d0' := cell_below hb c0'
      have d1' := cell_below hb c1'
      clear c0 c1 c0' c1' hc hc'
      have hkz : (k : Int) < (ops.length : Int) := by omega
      go_wp2_with fail
      go_region_with (fail)
      all_goals
        have hb2 : Below w.heap.size w wr.drew := hb.drew
        clear hb d0 d1 d0' d1'
        go_wp2
        go_roundg (ops.length - (k + 1))
        case measure => omega
        case rel => exact ⟨k + 1, by omega, rfl, by go_num, hb2⟩
    · go_wp2
      go_ret
      exact ⟨rfl, hb⟩
set_option maxHeartbeats 1000000 in
theorem lmCall_same (c : Cl) (vt vs vt' vs' : Value) (w : World) (ht : OpsAt w vt c.temps) (hs : OpsAt w vs c.stack) (ht' : OpsAt w vt' c.temps) (hs' : OpsAt w vs' c.stack) :
    Calls Try.prog 41 #[.agg (clCells vt vs c), .agg (clCells vt' vs' c)] w fun e w' => e = .returned (.bool true) ∧ Below w.heap.size w w' := by
  unfold clCells
  obtain ⟨a1, k1, h1⟩ := ht.shape
  obtain ⟨a2, k2, h2⟩ := hs.shape
  obtain ⟨a3, k3, h3⟩ := ht'.shape
  obtain ⟨a4, k4, h4⟩ := hs'.shape
  subst h1 h2 h3 h4
  have hA : Below w.heap.size w ((w.alloc (.cells #[.int .i64 c.m, .int .i64 c.pc, .slice a1 c.temps.length k1, .slice a2 c.stack.length k2, .int .i64 c.sender, .bool c.dead] 88)).alloc (.cells #[.int .i64 c.m, .int .i64 c.pc, .slice a3 c.temps.length k3, .slice a4 c.stack.length k4, .int .i64 c.sender, .bool c.dead] 88)) := ((Below.refl _ _).alloc (Nat.le_refl _) _).alloc (by simp) _
  have x3 : ((w.alloc (.cells #[.int .i64 c.m, .int .i64 c.pc, .slice a1 c.temps.length k1, .slice a2 c.stack.length k2, .int .i64 c.sender, .bool c.dead] 88)).alloc (.cells #[.int .i64 c.m, .int .i64 c.pc, .slice a3 c.temps.length k3, .slice a4 c.stack.length k4, .int .i64 c.sender, .bool c.dead] 88)).cell? ⟨w.heap.size, 3, none⟩ = some (.slice a2 c.stack.length k2) := by simp [go_sem]
  have x4 : ((w.alloc (.cells #[.int .i64 c.m, .int .i64 c.pc, .slice a1 c.temps.length k1, .slice a2 c.stack.length k2, .int .i64 c.sender, .bool c.dead] 88)).alloc (.cells #[.int .i64 c.m, .int .i64 c.pc, .slice a3 c.temps.length k3, .slice a4 c.stack.length k4, .int .i64 c.sender, .bool c.dead] 88)).cell? ⟨w.heap.size, 4, none⟩ = some (.int .i64 c.sender) := by simp [go_sem]
  have x5 : ((w.alloc (.cells #[.int .i64 c.m, .int .i64 c.pc, .slice a1 c.temps.length k1, .slice a2 c.stack.length k2, .int .i64 c.sender, .bool c.dead] 88)).alloc (.cells #[.int .i64 c.m, .int .i64 c.pc, .slice a3 c.temps.length k3, .slice a4 c.stack.length k4, .int .i64 c.sender, .bool c.dead] 88)).cell? ⟨w.heap.size, 5, none⟩ = some (.bool c.dead) := by simp [go_sem]
  have y3 : ((w.alloc (.cells #[.int .i64 c.m, .int .i64 c.pc, .slice a1 c.temps.length k1, .slice a2 c.stack.length k2, .int .i64 c.sender, .bool c.dead] 88)).alloc (.cells #[.int .i64 c.m, .int .i64 c.pc, .slice a3 c.temps.length k3, .slice a4 c.stack.length k4, .int .i64 c.sender, .bool c.dead] 88)).cell? ⟨w.heap.size + 1, 3, none⟩ = some (.slice a4 c.stack.length k4) := by simp [go_sem]
  have y4 : ((w.alloc (.cells #[.int .i64 c.m, .int .i64 c.pc, .slice a1 c.temps.length k1, .slice a2 c.stack.length k2, .int .i64 c.sender, .bool c.dead] 88)).alloc (.cells #[.int .i64 c.m, .int .i64 c.pc, .slice a3 c.temps.length k3, .slice a4 c.stack.length k4, .int .i64 c.sender, .bool c.dead] 88)).cell? ⟨w.heap.size + 1, 4, none⟩ = some (.int .i64 c.sender) := by simp [go_sem]
  have y5 : ((w.alloc (.cells #[.int .i64 c.m, .int .i64 c.pc, .slice a1 c.temps.length k1, .slice a2 c.stack.length k2, .int .i64 c.sender, .bool c.dead] 88)).alloc (.cells #[.int .i64 c.m, .int .i64 c.pc, .slice a3 c.temps.length k3, .slice a4 c.stack.length k4, .int .i64 c.sender, .bool c.dead] 88)).cell? ⟨w.heap.size + 1, 5, none⟩ = some (.bool c.dead) := by simp [go_sem]
  go_enter Try.func41, Try.ntmps41
  go_wp2_with fail
  generalize (w.alloc (.cells #[.int .i64 c.m, .int .i64 c.pc, .slice a1 c.temps.length k1, .slice a2 c.stack.length k2, .int .i64 c.sender, .bool c.dead] 88)).alloc (.cells #[.int .i64 c.m, .int .i64 c.pc, .slice a3 c.temps.length k3, .slice a4 c.stack.length k4, .int .i64 c.sender, .bool c.dead] 88) = W0 at *
  refine (lmVals_same _ _ c.temps _ (ht.below hA) (ht'.below hA)).mono ?_
  rintro e w1 ⟨rfl, hb1⟩
  have hB1 : Below w.heap.size w w1 := hA.trans (hb1.mono hA.size)
  have X3 := cell_below hb1 x3
  have X4 := cell_below hb1 x4
  have X5 := cell_below hb1 x5
  have Y3 := cell_below hb1 y3
  have Y4 := cell_below hb1 y4
  have Y5 := cell_below hb1 y5
  clear hb1 hA x3 x4 x5 y3 y4 y5
  have z1 := hB1.size
  go_wp2_with fail
  refine (lmVals_same _ _ c.stack _ (hs.below hB1) (hs'.below hB1)).mono ?_
  rintro e w2 ⟨rfl, hb2⟩
  have hB2 : Below w.heap.size w w2 := hB1.trans (hb2.mono z1)
  have p4 := cell_below hb2 X4
  have p5 := cell_below hb2 X5
  have q4 := cell_below hb2 Y4
  have q5 := cell_below hb2 Y5
  clear hb2 X3 X4 X5 Y3 Y4 Y5
  go_wp2
  go_ret
  exact ⟨rfl, hB2⟩
set_option maxHeartbeats 2000000 in
theorem lmCalls_same (v v' : Value) (cs : List Cl) (w : World) (h : CallsAt w v cs) (h' : CallsAt w v' cs) :
    Calls Try.prog 13 #[v, v'] w fun e w' => e = .returned (.bool true) ∧ Below w.heap.size w w' := by
  obtain ⟨a, cap, rfl, hl, hc⟩ := h
  obtain ⟨a', cap', rfl, _, hc'⟩ := h'
  unfold maxLen at hl
  go_enter Try.func13, Try.ntmps13
  go_wp2
  go_loopg [5] cs.length (fun g i wr => ∃ k : Nat, k ≤ cs.length ∧ g = cs.length - k ∧ i = .int .i64 k ∧ Below w.heap.size w wr)
  case atStart => exact ⟨0, Nat.zero_le _, rfl, rfl, Below.refl _ _⟩
  case round =>
    obtain ⟨k, hk, rfl, rfl, hb⟩ := hrel
    by_cases hlt : k < cs.length
    · obtain ⟨b, o, vt, vs, rfl, hcl⟩ := hc k hlt
      obtain ⟨b', o', vt', vs', rfl, hcl'⟩ := hc' k hlt
      obtain ⟨d0, d1, d2, d3, d4, d5, dt, ds⟩ := hcl.below hb
      obtain ⟨d0', d1', d2', d3', d4', d5', dt', ds'⟩ := hcl'.below hb
      obtain ⟨a1, k1, h1⟩ := dt.shape
      obtain ⟨a2, k2, h2⟩ := ds.shape
      obtain ⟨a3, k3, h3⟩ := dt'.shape
      obtain ⟨a4, k4, h4⟩ := ds'.shape
      rw [h1] at d2 dt
      rw [h2] at d3 ds
      rw [h3] at d2' dt'
      rw [h4] at d3' ds'
      clear h1 h2 h3 h4 hcl hcl' hc hc'
      have hkz : (k : Int) < (cs.length : Int) := by omega
      have hsz := hb.size
      have DT : OpsAt wr.drew _ _ := dt.below (Below.refl _ _).drew
      have DS : OpsAt wr.drew _ _ := ds.below (Below.refl _ _).drew
      have DT' : OpsAt wr.drew _ _ := dt'.below (Below.refl _ _).drew
      have DS' : OpsAt wr.drew _ _ := ds'.below (Below.refl _ _).drew
      clear dt ds dt' ds'
      go_wp2_with fail
      go_region_with (go_at_call 41; refine (lmCall_same cs[k] _ _ _ _ _ DT DS DT' DS').mono ?_; rintro e w1 ⟨rfl, hb1⟩)
      all_goals
        have hb2 : Below w.heap.size w w1 := hb.drew.trans (hb1.mono hsz)
        clear hb hb1 d0 d1 d0' d1' d2 d2' d3 d3' d4 d4' d5 d5' DT DS DT' DS'
        go_wp2
        go_roundg (cs.length - (k + 1))
        case measure => omega
        case rel => exact ⟨k + 1, by omega, rfl, by go_num, hb2⟩
    · go_wp2
      go_ret
      exact ⟨rfl, hb⟩
end Go.Proofs.Ytldiccheboipeaa
