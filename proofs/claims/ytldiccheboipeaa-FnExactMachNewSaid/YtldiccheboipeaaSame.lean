/-
  The comparisons that the exact laws make: eqOp, eqOpS, eqMethod, eqMethodS, eqProg answer true where both hold the same operations, methods, program; they write to nothing that was there.
-/
import Derived.Test.YtldiccheboipeaaProg
import Derived.Test.YtldiccheboipeaaBase
import Derived.Deep.RegionWith
namespace Go.Proofs.Ytldiccheboipeaa
open Go.RowKit

set_option maxHeartbeats 400000 in
theorem eqOp_same (k a : Int) (w : World) :
    Calls Try.prog 156 #[.agg #[.int .i64 k, .int .i64 a], .agg #[.int .i64 k, .int .i64 a]] w fun e w' => e = .returned (.bool true) ∧ Below w.heap.size w w' := by
  go_enter Try.func156, Try.ntmps156
  go_wp2
  go_ret
  exact ⟨rfl, ((Below.refl _ _).alloc (Nat.le_refl _) _).alloc (by simp) _⟩

set_option maxHeartbeats 400000 in
theorem eqOpS_same (v v' : Value) (ops : List (Int × Int)) (w : World) (h : OpsAt w v ops) (h' : OpsAt w v' ops) :
    Calls Try.prog 142 #[v, v'] w fun e w' => e = .returned (.bool true) ∧ Below w.heap.size w w' := by
  obtain ⟨a, cap, rfl, hl, hc⟩ := h
  obtain ⟨a', cap', rfl, _, hc'⟩ := h'
  unfold maxLen at hl
  go_enter Try.func142, Try.ntmps142
  go_wp2
  go_loopg [5] ops.length (fun g i wr => ∃ k : Nat, k ≤ ops.length ∧ g = ops.length - k ∧ i = .int .i64 k ∧ Below w.heap.size w wr)
  case atStart => exact ⟨0, Nat.zero_le _, rfl, rfl, Below.refl _ _⟩
  case round =>
    obtain ⟨k, hk, rfl, rfl, hb⟩ := hrel
    by_cases hlt : k < ops.length
    · obtain ⟨b, o, rfl, c0, c1⟩ := hc k hlt
      obtain ⟨b', o', rfl, c0', c1'⟩ := hc' k hlt
      have d0 := cell_below hb c0
      have d1 := cell_below hb c1
      have d0' := cell_below hb c0'
      have d1' := cell_below hb c1'
      clear c0 c1 c0' c1' hc hc'
      have hkz : (k : Int) < (ops.length : Int) := by omega
      have hsz := hb.size
      go_wp2_with fail
      go_region_with (go_at_call 156; refine (eqOp_same _ _ _).mono ?_; rintro e w1 ⟨rfl, hb1⟩)
      all_goals
        have hb2 : Below w.heap.size w w1 := hb.drew.trans (hb1.mono hsz)
        clear hb hb1 d0 d1 d0' d1'
        go_wp2
        go_roundg (ops.length - (k + 1))
        case measure => omega
        case rel => exact ⟨k + 1, by omega, rfl, by go_num, hb2⟩
    · go_wp2
      go_ret
      exact ⟨rfl, hb⟩

set_option maxHeartbeats 400000 in
theorem eqMethod_same (x t : Int) (v v' : Value) (ops : List (Int × Int)) (w : World) (h : OpsAt w v ops) (h' : OpsAt w v' ops) :
    Calls Try.prog 113 #[.agg #[.int .i64 x, .int .i64 t, v], .agg #[.int .i64 x, .int .i64 t, v']] w fun e w' => e = .returned (.bool true) ∧ Below w.heap.size w w' := by
  obtain ⟨a, cap, hv, _⟩ := id h
  obtain ⟨a', cap', hv', _⟩ := id h'
  subst hv hv'
  go_enter Try.func113, Try.ntmps113
  go_wp2_with fail
  have hB : ∀ o1 o2, Below w.heap.size w ((w.alloc o1).alloc o2) := fun o1 o2 => ((Below.refl _ _).alloc (Nat.le_refl _) _).alloc (by simp) _
  refine (eqOpS_same _ _ ops _ (h.below (hB _ _)) (h'.below (hB _ _))).mono ?_
  rintro e w1 ⟨rfl, hb1⟩
  have hb2 : Below w.heap.size w w1 := (hB _ _).trans (hb1.mono (by simp; omega))
  clear hB hb1 h h'
  go_wp2
  go_ret
  exact ⟨rfl, hb2⟩

set_option maxHeartbeats 400000 in
theorem eqMethodS_same (v v' : Value) (ms : List (Int × Int × List (Int × Int))) (w : World) (h : MethsAt w v ms) (h' : MethsAt w v' ms) :
    Calls Try.prog 64 #[v, v'] w fun e w' => e = .returned (.bool true) ∧ Below w.heap.size w w' := by
  obtain ⟨a, cap, rfl, hl, hc⟩ := h
  obtain ⟨a', cap', rfl, _, hc'⟩ := h'
  unfold maxLen at hl
  go_enter Try.func64, Try.ntmps64
  go_wp2
  go_loopg [5] ms.length (fun g i wr => ∃ k : Nat, k ≤ ms.length ∧ g = ms.length - k ∧ i = .int .i64 k ∧ Below w.heap.size w wr)
  case atStart => exact ⟨0, Nat.zero_le _, rfl, rfl, Below.refl _ _⟩
  case round =>
    obtain ⟨k, hk, rfl, rfl, hb⟩ := hrel
    by_cases hlt : k < ms.length
    · obtain ⟨b, o, vo, rfl, c0, c1, c2, c3⟩ := hc k hlt
      obtain ⟨b', o', vo', rfl, c0', c1', c2', c3'⟩ := hc' k hlt
      have d0 := cell_below hb c0
      have d1 := cell_below hb c1
      have d2 := cell_below hb c2
      have d3 := c3.below hb
      have d0' := cell_below hb c0'
      have d1' := cell_below hb c1'
      have d2' := cell_below hb c2'
      have d3' := c3'.below hb
      clear c0 c1 c2 c3 c0' c1' c2' c3' hc hc'
      obtain ⟨ad, cap3, hvo, _⟩ := id d3
      obtain ⟨ad', cap3', hvo', _⟩ := id d3'
      rw [hvo] at d2 d3
      rw [hvo'] at d2' d3'
      have hkz : (k : Int) < (ms.length : Int) := by omega
      have hsz := hb.size
      clear hvo hvo'
      have D3 : OpsAt wr.drew _ _ := d3.below (Below.refl _ _).drew
      have D3' : OpsAt wr.drew _ _ := d3'.below (Below.refl _ _).drew
      clear d3 d3'
      go_wp2_with fail
      go_region_with (go_at_call 113; refine (eqMethod_same _ _ _ _ _ _ D3 D3').mono ?_; rintro e w1 ⟨rfl, hb1⟩)
      all_goals
        have hb2 : Below w.heap.size w w1 := hb.drew.trans (hb1.mono hsz)
        clear hb hb1 d0 d1 d0' d1' d2 d2' D3 D3'
        go_wp2
        go_roundg (ms.length - (k + 1))
        case measure => omega
        case rel => exact ⟨k + 1, by omega, rfl, by go_num, hb2⟩
    · go_wp2
      go_ret
      exact ⟨rfl, hb⟩

set_option maxHeartbeats 400000 in
theorem eqProg_same (v v' : Value) (ms : List (Int × Int × List (Int × Int))) (w : World) (h : MethsAt w v ms) (h' : MethsAt w v' ms) :
    Calls Try.prog 23 #[.agg #[v], .agg #[v']] w fun e w' => e = .returned (.bool true) ∧ Below w.heap.size w w' := by
  obtain ⟨a, cap, hv, _⟩ := id h
  obtain ⟨a', cap', hv', _⟩ := id h'
  subst hv hv'
  go_enter Try.func23, Try.ntmps23
  go_wp2_with fail
  have hB : ∀ o1 o2, Below w.heap.size w ((w.alloc o1).alloc o2) := fun o1 o2 => ((Below.refl _ _).alloc (Nat.le_refl _) _).alloc (by simp) _
  refine (eqMethodS_same _ _ ms _ (h.below (hB _ _)) (h'.below (hB _ _))).mono ?_
  rintro e w1 ⟨rfl, hb1⟩
  have hb2 : Below w.heap.size w w1 := (hB _ _).trans (hb1.mono (by simp; omega))
  clear hB hb1 h h'
  go_wp2
  go_ret
  exact ⟨rfl, hb2⟩

end Go.Proofs.Ytldiccheboipeaa
