import Derived.Test.YthkjgfhheejaoaaGreatDoorProg
import Derived.Test.YthkjgfhheejaoaaGreatDoorVals
import Derived.Deep.RegionWith
import Derived.Test.YthkjgfhheejaoaaGreatDoorPiece

/-
  The comparisons that the drawn laws make of values, calls and heaps: lmVals, lmCall, lmCalls, lmHeap answer true where both hold the same; they write to nothing that was there.
-/
namespace Go.Proofs.YthkjgfhheejaoaaGreatDoor
open Go.RowKit

set_option maxHeartbeats 400000 in
theorem lmVals_same (v v' : Value) (ops : List (Int × Int)) (w : World) (h : OpsAt w v ops) (h' : OpsAt w v' ops) :
    Calls Tryz.prog 30 #[v, v'] w fun e w' => e = .returned (.bool true) ∧ Below w.heap.size w w' := by
  obtain ⟨a, cap, rfl, hl, hc⟩ := h
  obtain ⟨a', cap', rfl, _, hc'⟩ := h'
  unfold maxLen at hl
  go_enter Tryz.func30, Tryz.ntmps30
  go_wp2
  go_loopg [5] ops.length (fun g i wr => ∃ k : Nat, k ≤ ops.length ∧ g = ops.length - k ∧ i = .int .i64 k ∧ Below w.heap.size w wr)
  case atStart => exact ⟨0, Nat.zero_le _, rfl, rfl, Below.refl _ _⟩
  case round =>
    obtain ⟨k, hk, rfl, rfl, hb⟩ := hrel
    by_cases hlt : k < ops.length
    · obtain ⟨b, o, rfl, c0, c1⟩ := hc k hlt
      obtain ⟨b', o', rfl, c0', c1'⟩ := hc' k hlt
      have d0 := cell_below hb c0
      have d1 := cell_below hb c1
      have d0' := cell_below hb c0'
      have d1' := cell_below hb c1'
      clear c0 c1 c0' c1' hc hc'
      have hkz : (k : Int) < (ops.length : Int) := by omega
      go_wp2_with fail
      go_region_with (fail)
      all_goals
        have hb2 : Below w.heap.size w wr.drew := hb.drew
        clear hb d0 d1 d0' d1'
        go_wp2
        go_roundg (ops.length - (k + 1))
        case measure => omega
        case rel => exact ⟨k + 1, by omega, rfl, by go_num, hb2⟩
    · go_wp2
      go_ret
      exact ⟨rfl, hb⟩

set_option maxHeartbeats 1000000 in
theorem lmCall_same (c : Cl) (vt vs vt' vs' : Value) (w : World) (ht : OpsAt w vt c.temps) (hs : OpsAt w vs c.stack) (ht' : OpsAt w vt' c.temps) (hs' : OpsAt w vs' c.stack) :
    Calls Tryz.prog 55 #[.agg (clCells vt vs c), .agg (clCells vt' vs' c)] w fun e w' => e = .returned (.bool true) ∧ Below w.heap.size w w' := by
  unfold clCells
  obtain ⟨a1, k1, h1⟩ := ht.shape
  obtain ⟨a2, k2, h2⟩ := hs.shape
  obtain ⟨a3, k3, h3⟩ := ht'.shape
  obtain ⟨a4, k4, h4⟩ := hs'.shape
  subst h1 h2 h3 h4
  have hA : Below w.heap.size w ((w.alloc (.cells #[.int .i64 c.m, .int .i64 c.pc, .slice a1 c.temps.length k1, .slice a2 c.stack.length k2, .int .i64 c.sender, .bool c.dead] 48)).alloc (.cells #[.int .i64 c.m, .int .i64 c.pc, .slice a3 c.temps.length k3, .slice a4 c.stack.length k4, .int .i64 c.sender, .bool c.dead] 48)) := ((Below.refl _ _).alloc (Nat.le_refl _) _).alloc (by simp) _
  have x3 : ((w.alloc (.cells #[.int .i64 c.m, .int .i64 c.pc, .slice a1 c.temps.length k1, .slice a2 c.stack.length k2, .int .i64 c.sender, .bool c.dead] 48)).alloc (.cells #[.int .i64 c.m, .int .i64 c.pc, .slice a3 c.temps.length k3, .slice a4 c.stack.length k4, .int .i64 c.sender, .bool c.dead] 48)).cell? ⟨w.heap.size, 3, none⟩ = some (.slice a2 c.stack.length k2) := by simp [go_sem]
  have x4 : ((w.alloc (.cells #[.int .i64 c.m, .int .i64 c.pc, .slice a1 c.temps.length k1, .slice a2 c.stack.length k2, .int .i64 c.sender, .bool c.dead] 48)).alloc (.cells #[.int .i64 c.m, .int .i64 c.pc, .slice a3 c.temps.length k3, .slice a4 c.stack.length k4, .int .i64 c.sender, .bool c.dead] 48)).cell? ⟨w.heap.size, 4, none⟩ = some (.int .i64 c.sender) := by simp [go_sem]
  have x5 : ((w.alloc (.cells #[.int .i64 c.m, .int .i64 c.pc, .slice a1 c.temps.length k1, .slice a2 c.stack.length k2, .int .i64 c.sender, .bool c.dead] 48)).alloc (.cells #[.int .i64 c.m, .int .i64 c.pc, .slice a3 c.temps.length k3, .slice a4 c.stack.length k4, .int .i64 c.sender, .bool c.dead] 48)).cell? ⟨w.heap.size, 5, none⟩ = some (.bool c.dead) := by simp [go_sem]
  have y3 : ((w.alloc (.cells #[.int .i64 c.m, .int .i64 c.pc, .slice a1 c.temps.length k1, .slice a2 c.stack.length k2, .int .i64 c.sender, .bool c.dead] 48)).alloc (.cells #[.int .i64 c.m, .int .i64 c.pc, .slice a3 c.temps.length k3, .slice a4 c.stack.length k4, .int .i64 c.sender, .bool c.dead] 48)).cell? ⟨w.heap.size + 1, 3, none⟩ = some (.slice a4 c.stack.length k4) := by simp [go_sem]
  have y4 : ((w.alloc (.cells #[.int .i64 c.m, .int .i64 c.pc, .slice a1 c.temps.length k1, .slice a2 c.stack.length k2, .int .i64 c.sender, .bool c.dead] 48)).alloc (.cells #[.int .i64 c.m, .int .i64 c.pc, .slice a3 c.temps.length k3, .slice a4 c.stack.length k4, .int .i64 c.sender, .bool c.dead] 48)).cell? ⟨w.heap.size + 1, 4, none⟩ = some (.int .i64 c.sender) := by simp [go_sem]
  have y5 : ((w.alloc (.cells #[.int .i64 c.m, .int .i64 c.pc, .slice a1 c.temps.length k1, .slice a2 c.stack.length k2, .int .i64 c.sender, .bool c.dead] 48)).alloc (.cells #[.int .i64 c.m, .int .i64 c.pc, .slice a3 c.temps.length k3, .slice a4 c.stack.length k4, .int .i64 c.sender, .bool c.dead] 48)).cell? ⟨w.heap.size + 1, 5, none⟩ = some (.bool c.dead) := by simp [go_sem]
  go_enter Tryz.func55, Tryz.ntmps55
  go_wp2_with fail
  generalize (w.alloc (.cells #[.int .i64 c.m, .int .i64 c.pc, .slice a1 c.temps.length k1, .slice a2 c.stack.length k2, .int .i64 c.sender, .bool c.dead] 48)).alloc (.cells #[.int .i64 c.m, .int .i64 c.pc, .slice a3 c.temps.length k3, .slice a4 c.stack.length k4, .int .i64 c.sender, .bool c.dead] 48) = W0 at *
  refine (lmVals_same _ _ c.temps _ (ht.below hA) (ht'.below hA)).mono ?_
  rintro e w1 ⟨rfl, hb1⟩
  have hB1 : Below w.heap.size w w1 := hA.trans (hb1.mono hA.size)
  have X3 := cell_below hb1 x3
  have X4 := cell_below hb1 x4
  have X5 := cell_below hb1 x5
  have Y3 := cell_below hb1 y3
  have Y4 := cell_below hb1 y4
  have Y5 := cell_below hb1 y5
  clear hb1 hA x3 x4 x5 y3 y4 y5
  have z1 := hB1.size
  go_wp2_with fail
  refine (lmVals_same _ _ c.stack _ (hs.below hB1) (hs'.below hB1)).mono ?_
  rintro e w2 ⟨rfl, hb2⟩
  have hB2 : Below w.heap.size w w2 := hB1.trans (hb2.mono z1)
  have p4 := cell_below hb2 X4
  have p5 := cell_below hb2 X5
  have q4 := cell_below hb2 Y4
  have q5 := cell_below hb2 Y5
  clear hb2 X3 X4 X5 Y3 Y4 Y5
  go_wp2
  go_ret
  exact ⟨rfl, hB2⟩

set_option maxHeartbeats 2000000 in
theorem lmCalls_same (v v' : Value) (cs : List Cl) (w : World) (h : CallsAt w v cs) (h' : CallsAt w v' cs) :
    Calls Tryz.prog 29 #[v, v'] w fun e w' => e = .returned (.bool true) ∧ Below w.heap.size w w' := by
  obtain ⟨a, cap, rfl, hl, hc⟩ := h
  obtain ⟨a', cap', rfl, _, hc'⟩ := h'
  unfold maxLen at hl
  go_enter Tryz.func29, Tryz.ntmps29
  go_wp2
  go_loopg [5] cs.length (fun g i wr => ∃ k : Nat, k ≤ cs.length ∧ g = cs.length - k ∧ i = .int .i64 k ∧ Below w.heap.size w wr)
  case atStart => exact ⟨0, Nat.zero_le _, rfl, rfl, Below.refl _ _⟩
  case round =>
    obtain ⟨k, hk, rfl, rfl, hb⟩ := hrel
    by_cases hlt : k < cs.length
    · obtain ⟨b, o, vt, vs, rfl, hcl⟩ := hc k hlt
      obtain ⟨b', o', vt', vs', rfl, hcl'⟩ := hc' k hlt
      obtain ⟨d0, d1, d2, d3, d4, d5, dt, ds⟩ := hcl.below hb
      obtain ⟨d0', d1', d2', d3', d4', d5', dt', ds'⟩ := hcl'.below hb
      obtain ⟨a1, k1, h1⟩ := dt.shape
      obtain ⟨a2, k2, h2⟩ := ds.shape
      obtain ⟨a3, k3, h3⟩ := dt'.shape
      obtain ⟨a4, k4, h4⟩ := ds'.shape
      rw [h1] at d2 dt
      rw [h2] at d3 ds
      rw [h3] at d2' dt'
      rw [h4] at d3' ds'
      clear h1 h2 h3 h4 hcl hcl' hc hc'
      have hkz : (k : Int) < (cs.length : Int) := by omega
      have hsz := hb.size
      have DT : OpsAt wr.drew _ _ := dt.below (Below.refl _ _).drew
      have DS : OpsAt wr.drew _ _ := ds.below (Below.refl _ _).drew
      have DT' : OpsAt wr.drew _ _ := dt'.below (Below.refl _ _).drew
      have DS' : OpsAt wr.drew _ _ := ds'.below (Below.refl _ _).drew
      clear dt ds dt' ds'
      go_wp2_with fail
      go_region_with (go_at_call 55; refine (lmCall_same cs[k] _ _ _ _ _ DT DS DT' DS').mono ?_; rintro e w1 ⟨rfl, hb1⟩)
      all_goals
        have hb2 : Below w.heap.size w w1 := hb.drew.trans (hb1.mono hsz)
        clear hb hb1 d0 d1 d0' d1' d2 d2' d3 d3' d4 d4' d5 d5' DT DS DT' DS'
        go_wp2
        go_roundg (cs.length - (k + 1))
        case measure => omega
        case rel => exact ⟨k + 1, by omega, rfl, by go_num, hb2⟩
    · go_wp2
      go_ret
      exact ⟨rfl, hb⟩

set_option maxHeartbeats 1000000 in
theorem lmHeap_same (h : Hp) (vc vs vc' vs' : Value) (w : World) (hh : HeapAt w vc vs h) (hh' : HeapAt w vc' vs' h) :
    Calls Tryz.prog 18 #[.agg (hpCells vc vs h), .agg (hpCells vc' vs' h)] w fun e w' => e = .returned (.bool true) ∧ Below w.heap.size w w' := by
  unfold hpCells
  obtain ⟨a1, k1, h1⟩ := hh.c.shape
  obtain ⟨a2, k2, h2⟩ := hh.s.shape
  obtain ⟨a3, k3, h3⟩ := hh'.c.shape
  obtain ⟨a4, k4, h4⟩ := hh'.s.shape
  subst h1 h2 h3 h4
  have hA : Below w.heap.size w ((w.alloc (.cells #[.slice a1 h.calls.length k1, .int .i64 h.now, .int .i64 h.born, .slice a2 h.said.length k2, .int .i64 h.code] 29)).alloc (.cells #[.slice a3 h.calls.length k3, .int .i64 h.now, .int .i64 h.born, .slice a4 h.said.length k4, .int .i64 h.code] 29)) := ((Below.refl _ _).alloc (Nat.le_refl _) _).alloc (by simp) _
  have x1 : ((w.alloc (.cells #[.slice a1 h.calls.length k1, .int .i64 h.now, .int .i64 h.born, .slice a2 h.said.length k2, .int .i64 h.code] 29)).alloc (.cells #[.slice a3 h.calls.length k3, .int .i64 h.now, .int .i64 h.born, .slice a4 h.said.length k4, .int .i64 h.code] 29)).cell? ⟨w.heap.size, 1, none⟩ = some (.int .i64 h.now) := by simp [go_sem]
  have x2 : ((w.alloc (.cells #[.slice a1 h.calls.length k1, .int .i64 h.now, .int .i64 h.born, .slice a2 h.said.length k2, .int .i64 h.code] 29)).alloc (.cells #[.slice a3 h.calls.length k3, .int .i64 h.now, .int .i64 h.born, .slice a4 h.said.length k4, .int .i64 h.code] 29)).cell? ⟨w.heap.size, 2, none⟩ = some (.int .i64 h.born) := by simp [go_sem]
  have x3 : ((w.alloc (.cells #[.slice a1 h.calls.length k1, .int .i64 h.now, .int .i64 h.born, .slice a2 h.said.length k2, .int .i64 h.code] 29)).alloc (.cells #[.slice a3 h.calls.length k3, .int .i64 h.now, .int .i64 h.born, .slice a4 h.said.length k4, .int .i64 h.code] 29)).cell? ⟨w.heap.size, 3, none⟩ = some (.slice a2 h.said.length k2) := by simp [go_sem]
  have x4 : ((w.alloc (.cells #[.slice a1 h.calls.length k1, .int .i64 h.now, .int .i64 h.born, .slice a2 h.said.length k2, .int .i64 h.code] 29)).alloc (.cells #[.slice a3 h.calls.length k3, .int .i64 h.now, .int .i64 h.born, .slice a4 h.said.length k4, .int .i64 h.code] 29)).cell? ⟨w.heap.size, 4, none⟩ = some (.int .i64 h.code) := by simp [go_sem]
  have y1 : ((w.alloc (.cells #[.slice a1 h.calls.length k1, .int .i64 h.now, .int .i64 h.born, .slice a2 h.said.length k2, .int .i64 h.code] 29)).alloc (.cells #[.slice a3 h.calls.length k3, .int .i64 h.now, .int .i64 h.born, .slice a4 h.said.length k4, .int .i64 h.code] 29)).cell? ⟨w.heap.size + 1, 1, none⟩ = some (.int .i64 h.now) := by simp [go_sem]
  have y2 : ((w.alloc (.cells #[.slice a1 h.calls.length k1, .int .i64 h.now, .int .i64 h.born, .slice a2 h.said.length k2, .int .i64 h.code] 29)).alloc (.cells #[.slice a3 h.calls.length k3, .int .i64 h.now, .int .i64 h.born, .slice a4 h.said.length k4, .int .i64 h.code] 29)).cell? ⟨w.heap.size + 1, 2, none⟩ = some (.int .i64 h.born) := by simp [go_sem]
  have y3 : ((w.alloc (.cells #[.slice a1 h.calls.length k1, .int .i64 h.now, .int .i64 h.born, .slice a2 h.said.length k2, .int .i64 h.code] 29)).alloc (.cells #[.slice a3 h.calls.length k3, .int .i64 h.now, .int .i64 h.born, .slice a4 h.said.length k4, .int .i64 h.code] 29)).cell? ⟨w.heap.size + 1, 3, none⟩ = some (.slice a4 h.said.length k4) := by simp [go_sem]
  have y4 : ((w.alloc (.cells #[.slice a1 h.calls.length k1, .int .i64 h.now, .int .i64 h.born, .slice a2 h.said.length k2, .int .i64 h.code] 29)).alloc (.cells #[.slice a3 h.calls.length k3, .int .i64 h.now, .int .i64 h.born, .slice a4 h.said.length k4, .int .i64 h.code] 29)).cell? ⟨w.heap.size + 1, 4, none⟩ = some (.int .i64 h.code) := by simp [go_sem]
  go_enter Tryz.func18, Tryz.ntmps18
  go_wp2_with fail
  generalize (w.alloc (.cells #[.slice a1 h.calls.length k1, .int .i64 h.now, .int .i64 h.born, .slice a2 h.said.length k2, .int .i64 h.code] 29)).alloc (.cells #[.slice a3 h.calls.length k3, .int .i64 h.now, .int .i64 h.born, .slice a4 h.said.length k4, .int .i64 h.code] 29) = W0 at *
  refine (lmCalls_same _ _ h.calls _ (hh.below hA).c (hh'.below hA).c).mono ?_
  rintro e w1 ⟨rfl, hb1⟩
  have hB1 : Below w.heap.size w w1 := hA.trans (hb1.mono hA.size)
  have X1 := cell_below hb1 x1
  have X2 := cell_below hb1 x2
  have X3 := cell_below hb1 x3
  have X4 := cell_below hb1 x4
  have Y1 := cell_below hb1 y1
  have Y2 := cell_below hb1 y2
  have Y3 := cell_below hb1 y3
  have Y4 := cell_below hb1 y4
  clear hb1 hA x1 x2 x3 x4 y1 y2 y3 y4
  have z1 := hB1.size
  go_wp2_with fail
  refine (lmVals_same _ _ h.said _ (hh.below hB1).s (hh'.below hB1).s).mono ?_
  rintro e w2 ⟨rfl, hb2⟩
  have hB2 : Below w.heap.size w w2 := hB1.trans (hb2.mono z1)
  have p4 := cell_below hb2 X4
  have q4 := cell_below hb2 Y4
  clear hb2 X1 X2 X3 X4 Y1 Y2 Y3 Y4
  go_wp2
  go_ret
  exact ⟨rfl, hB2⟩

end Go.Proofs.YthkjgfhheejaoaaGreatDoor

/-
  Many operations of a heap, in plain words: how many calls there are, what was said stays, how many were born. Nothing of the translation is used here.
-/
namespace Go.Proofs.YthkjgfhheejaoaaGreatDoor

/-- a step's measures, case by case -/
theorem all_ite {P : Hp → Prop} {c : Prop} [Decidable c] {a b : Hp} (h1 : P a) (h2 : ¬ c → P b) : P (if c then a else b) := by
  by_cases e : c
  · rw [if_pos e]; exact h1
  · rw [if_neg e]; exact h2 e

/-- what one operation does to how much there is -/
structure OneOp (h h' : Hp) : Prop where
  few : h'.calls.length ≤ h.calls.length + 1
  more : h.calls.length ≤ h'.calls.length
  born : h'.born - h.born = (h'.calls.length : Int) - (h.calls.length : Int)
  said : ∃ l, h'.said = h.said ++ l

theorem OneOp.refl' {h h' : Hp} (h1 : h'.calls.length = h.calls.length) (h2 : h'.born = h.born) (h3 : h'.said = h.said) : OneOp h h' :=
  ⟨by omega, by omega, by omega, ⟨[], by rw [h3]; simp⟩⟩
theorem OneOp.say {h h' : Hp} (h1 : h'.calls.length = h.calls.length) (h2 : h'.born = h.born) {l : List (Int × Int)} (h3 : h'.said = h.said ++ l) : OneOp h h' :=
  ⟨by omega, by omega, by omega, ⟨l, h3⟩⟩

theorem born_backTo : ∀ (f : Nat) (h : Hp) (b : Nat), (backTo f h b).born = h.born
  | 0, _, _ => rfl
  | f + 1, h, b => by
    unfold backTo
    split
    · rfl
    · rw [born_backTo f]; rfl

theorem one_call (ms : Ms) (h : Hp) (m : Int) (args : List (Int × Int)) : OneOp h (callH ms h m args) :=
  all_ite (OneOp.refl' rfl rfl rfl) fun _ => ⟨by simp, by simp, by simp; omega, [], by simp⟩
theorem one_ret (h : Hp) (v : Int × Int) : OneOp h (retH h v) :=
  all_ite (OneOp.say (l := [sayV (leaveH h) v]) (by show (leaveH h).calls.length = _; exact len_leave h) rfl rfl) fun _ => OneOp.refl' (by rw [len_push, len_leave]) rfl rfl
theorem one_back (h : Hp) (b : Nat) (v : Int × Int) : OneOp h (backH h b v) :=
  all_ite (OneOp.refl' rfl rfl rfl) fun _ => OneOp.refl' (by rw [len_push, len_backTo]) (born_backTo _ h b) (by rw [said_push, said_backTo])
theorem one_push (h : Hp) (v : Int × Int) : OneOp h (pushH h v) := OneOp.refl' (len_push h v) rfl rfl
theorem one_set (h : Hp) (c : Cl) : OneOp h (setH h c) := OneOp.refl' (len_set h c) rfl rfl
theorem one_self (h : Hp) : OneOp h h := OneOp.refl' rfl rfl rfl

theorem one_do (ms : Ms) (h : Hp) (k a : Int) (args : List (Int × Int)) : OneOp h (doH ms h k a args) := by
  have h0 := one_self h
  exact all_ite (one_push _ _) fun _ => all_ite (one_push _ _) fun _ => all_ite (one_push _ _) fun _ => all_ite (one_push _ _) fun _ => all_ite (one_set _ _) fun _ => all_ite (one_set _ _) fun _ => all_ite (all_ite (one_set _ _) fun _ => h0) fun _ => all_ite (one_call ms h a args) fun _ => all_ite (one_ret h _) fun _ => all_ite (one_push _ _) fun _ => all_ite (one_push _ _) fun _ => all_ite (OneOp.refl' (by simp [pokeH]) rfl rfl) fun _ => all_ite (one_back h _ _) fun _ => all_ite (OneOp.say (l := [sayV h (args.getD 0 (0, 0))]) rfl rfl rfl) fun _ => h0

theorem one_step (ms : Ms) (h : Hp) : OneOp h (stepH ms h) :=
  all_ite (OneOp.refl' rfl rfl rfl) fun _ => all_ite (OneOp.refl' rfl rfl rfl) fun _ => all_ite (OneOp.refl' rfl rfl rfl) fun _ => by
    have h1 := one_do ms (setH h { curC h with stack := (curC h).stack.take (((curC h).stack.length : Int) - (takesOf ms (opNext ms (curC h)).1 (opNext ms (curC h)).2).1).toNat, pc := (curC h).pc + 1 }) (opNext ms (curC h)).1 (opNext ms (curC h)).2 ((curC h).stack.drop (((curC h).stack.length : Int) - (takesOf ms (opNext ms (curC h)).1 (opNext ms (curC h)).2).1).toNat)
    have hl := len_set h { curC h with stack := (curC h).stack.take (((curC h).stack.length : Int) - (takesOf ms (opNext ms (curC h)).1 (opNext ms (curC h)).2).1).toNat, pc := (curC h).pc + 1 }
    obtain ⟨a, b, c, d⟩ := h1
    rw [hl] at a b c
    exact ⟨a, b, c, d⟩

/-- what many operations do -/
structure ManyOp (h h' : Hp) (n : Nat) : Prop where
  few : h'.calls.length ≤ h.calls.length + n
  more : h.calls.length ≤ h'.calls.length
  born : h'.born - h.born = (h'.calls.length : Int) - (h.calls.length : Int)
  said : ∃ l, h'.said = h.said ++ l

theorem many_run (ms : Ms) : ∀ (n : Nat) (h : Hp), ManyOp h (runH ms n h) n
  | 0, h => ⟨by simp [runH], by simp [runH], by simp [runH], ⟨[], by simp [runH]⟩⟩
  | n + 1, h => by
    unfold runH
    by_cases e : h.code = 0
    · rw [if_pos e]
      obtain ⟨a, b, c, l, d⟩ := one_step ms h
      obtain ⟨a', b', c', l', d'⟩ := many_run ms n (stepH ms h)
      exact ⟨by omega, by omega, by omega, l ++ l', by rw [d', d, List.append_assoc]⟩
    · rw [if_neg e]
      exact ⟨by omega, by omega, by omega, [], by simp⟩

end Go.Proofs.YthkjgfhheejaoaaGreatDoor

/-
  Many operations of a heap, in plain words: when it is full, what stays of each call, operations cut anywhere. Nothing of the translation is used here.
-/
namespace Go.Proofs.YthkjgfhheejaoaaGreatDoor

/-- full only where as many were born as may be -/
def FullOk (h h' : Hp) : Prop := h'.code = 3 → h.code = 3 ∨ (30 ≤ h.born ∧ h'.born = h.born)

theorem full_same {h h' : Hp} (e : h'.code = h.code) : FullOk h h' := fun q => .inl (by rw [← e]; exact q)
theorem full_not {h h' : Hp} (e : h'.code ≠ 3) : FullOk h h' := fun q => absurd q e
theorem code_backTo : ∀ (f : Nat) (h : Hp) (b : Nat), (backTo f h b).code = h.code
  | 0, _, _ => rfl
  | f + 1, h, b => by
    unfold backTo
    split
    · rfl
    · rw [code_backTo f]; rfl

theorem full_do (ms : Ms) (h : Hp) (k a : Int) (args : List (Int × Int)) : FullOk h (doH ms h k a args) := by
  have h0 : FullOk h h := full_same rfl
  have p0 : ∀ v, FullOk h (pushH h v) := fun v => full_same rfl
  have s0 : ∀ c, FullOk h (setH h c) := fun c => full_same rfl
  have c0 : FullOk h (callH ms h a args) := by
    unfold callH
    by_cases e : 30 ≤ h.born
    · rw [if_pos e]; exact fun _ => .inr ⟨e, rfl⟩
    · rw [if_neg e]; exact full_same rfl
  have r0 : ∀ v, FullOk h (retH h v) := fun v => all_ite (P := FullOk h) (full_not (by show (1 : Int) ≠ 3; decide)) fun _ => full_same rfl
  have b0 : ∀ b v, FullOk h (backH h b v) := fun b v => all_ite (P := FullOk h) (full_not (by show (2 : Int) ≠ 3; decide)) fun _ => full_same (code_backTo _ h b)
  exact all_ite (P := FullOk h) (p0 _) fun _ => all_ite (P := FullOk h) (p0 _) fun _ => all_ite (P := FullOk h) (p0 _) fun _ => all_ite (P := FullOk h) (p0 _) fun _ => all_ite (P := FullOk h) (s0 _) fun _ => all_ite (P := FullOk h) (s0 _) fun _ => all_ite (P := FullOk h) (all_ite (P := FullOk h) (s0 _) fun _ => h0) fun _ => all_ite (P := FullOk h) c0 fun _ => all_ite (P := FullOk h) (r0 _) fun _ => all_ite (P := FullOk h) (p0 _) fun _ => all_ite (P := FullOk h) (p0 _) fun _ => all_ite (P := FullOk h) (full_same rfl) fun _ => all_ite (P := FullOk h) (b0 _ _) fun _ => all_ite (P := FullOk h) (full_same rfl) fun _ => h0

theorem full_step (ms : Ms) (h : Hp) : FullOk h (stepH ms h) :=
  all_ite (P := FullOk h) (full_not (by show (2 : Int) ≠ 3; decide)) fun _ => all_ite (P := FullOk h) (full_not (by show (2 : Int) ≠ 3; decide)) fun _ => all_ite (P := FullOk h) (full_not (by show (2 : Int) ≠ 3; decide)) fun _ => full_do ms (setH h _) _ _ _

theorem full_run (ms : Ms) : ∀ (n : Nat) (h : Hp), (runH ms n h).code = 3 → h.code = 3 ∨ 30 ≤ (runH ms n h).born
  | 0, _, e => .inl e
  | n + 1, h, e => by
    unfold runH at e ⊢
    by_cases c : h.code = 0
    · rw [if_pos c] at e ⊢
      rcases full_run ms n (stepH ms h) e with q | q
      · rcases full_step ms h q with z | ⟨z1, z2⟩
        · exact .inl z
        · have := (many_run ms n (stepH ms h)).born
          have := (many_run ms n (stepH ms h)).more
          exact .inr (by omega)
      · exact .inr q
    · rw [if_neg c] at e ⊢
      exact .inl e

/-- what does not run stays -/
theorem run_not (ms : Ms) : ∀ (n : Nat) (h : Hp), h.code ≠ 0 → runH ms n h = h
  | 0, _, _ => rfl
  | n + 1, h, c => by unfold runH; rw [if_neg c]

/-- cut anywhere -/
theorem run_add (ms : Ms) : ∀ (a b : Nat) (h : Hp), runH ms (a + b) h = runH ms b (runH ms a h)
  | 0, b, h => by rw [Nat.zero_add]; rfl
  | a + 1, b, h => by
    rw [show a + 1 + b = (a + b) + 1 by omega]
    by_cases c : h.code = 0
    · show (if h.code = 0 then runH ms (a + b) (stepH ms h) else h) = runH ms b (if h.code = 0 then runH ms a (stepH ms h) else h)
      rw [if_pos c, if_pos c, run_add ms a b]
    · show (if h.code = 0 then runH ms (a + b) (stepH ms h) else h) = runH ms b (if h.code = 0 then runH ms a (stepH ms h) else h)
      rw [if_neg c, if_neg c, run_not ms b h c]

/-- what stays of each call: its method; Dead ones stay so, and where they are -/
def KeepsC (h h' : Hp) : Prop := ∀ (i : Nat) (c : Cl), h.calls[i]? = some c → ∃ c', h'.calls[i]? = some c' ∧ c'.m = c.m ∧ (c.dead = true → c'.dead = true ∧ c'.pc = c.pc)

theorem KeepsC.refl (h : Hp) : KeepsC h h := fun _ c e => ⟨c, e, rfl, fun q => ⟨q, rfl⟩⟩
theorem KeepsC.same {h h' : Hp} (e : h'.calls = h.calls) : KeepsC h h' := fun _ c q => ⟨c, by rw [e]; exact q, rfl, fun z => ⟨z, rfl⟩⟩
theorem KeepsC.trans {a b c : Hp} (h1 : KeepsC a b) (h2 : KeepsC b c) : KeepsC a c := fun i x e => by
  obtain ⟨y, e1, m1, d1⟩ := h1 i x e
  obtain ⟨z, e2, m2, d2⟩ := h2 i y e1
  exact ⟨z, e2, m2.trans m1, fun q => ⟨(d2 (d1 q).1).1, ((d2 (d1 q).1).2).trans (d1 q).2⟩⟩

theorem keeps_put {h h' : Hp} {j : Nat} {f : Cl} (e : h'.calls = h.calls.set j f) (hf : ∀ c, h.calls[j]? = some c → f.m = c.m ∧ (c.dead = true → f.dead = true ∧ f.pc = c.pc)) : KeepsC h h' := fun i c q => by
  rw [e, List.getElem?_set]
  by_cases z : j = i
  · subst z
    have hl : j < h.calls.length := (List.getElem?_eq_some_iff.1 q).1
    rw [if_pos rfl, if_pos hl]
    exact ⟨f, rfl, hf c q⟩
  · rw [if_neg z]
    exact ⟨c, q, rfl, fun d => ⟨d, rfl⟩⟩

theorem cur_some {h : Hp} {c : Cl} (e : h.calls[h.now.toNat]? = some c) : curC h = c := by
  unfold curC
  rw [List.getD_eq_getElem?_getD, e]
  rfl

theorem keeps_push (h : Hp) (v : Int × Int) : KeepsC h (pushH h v) := keeps_put (j := h.now.toNat) rfl fun c e => by rw [cur_some e]; exact ⟨rfl, fun d => ⟨d, rfl⟩⟩
theorem keeps_leave (h : Hp) : KeepsC h (leaveH h) := keeps_put (j := h.now.toNat) rfl fun c e => by rw [cur_some e]; exact ⟨rfl, fun _ => ⟨rfl, rfl⟩⟩
theorem keeps_backTo : ∀ (f : Nat) (h : Hp) (b : Nat), KeepsC h (backTo f h b)
  | 0, h, _ => KeepsC.refl h
  | f + 1, h, b => by
    unfold backTo
    split
    · exact KeepsC.refl h
    · exact (keeps_leave h).trans (keeps_backTo f _ b)
theorem keeps_ret (h : Hp) (v : Int × Int) : KeepsC h (retH h v) :=
  all_ite (P := KeepsC h) ((keeps_leave h).trans (KeepsC.same rfl)) fun _ => (keeps_leave h).trans (keeps_push _ v)
theorem keeps_back (h : Hp) (b : Nat) (v : Int × Int) : KeepsC h (backH h b v) :=
  all_ite (P := KeepsC h) (KeepsC.same rfl) fun _ => (keeps_backTo _ h b).trans (keeps_push _ v)
theorem keeps_call (ms : Ms) (h : Hp) (m : Int) (args : List (Int × Int)) : KeepsC h (callH ms h m args) :=
  all_ite (P := KeepsC h) (KeepsC.same rfl) fun _ i c e => ⟨c, by
    have hl : i < h.calls.length := (List.getElem?_eq_some_iff.1 e).1
    show (h.calls ++ _)[i]? = _
    rw [List.getElem?_append_left hl]
    exact e, rfl, fun d => ⟨d, rfl⟩⟩
theorem keeps_poke (h : Hp) (b : Nat) (a : Int) (v : Int × Int) : KeepsC h (pokeH h b a v) := keeps_put (j := b) rfl fun c e => by
  have : h.calls.getD b Cl.none = c := by rw [List.getD_eq_getElem?_getD, e]; rfl
  rw [this]
  exact ⟨rfl, fun d => ⟨d, rfl⟩⟩

/-- the call that runs is turned, while it is not Dead -/
theorem keeps_live {h : Hp} (hl : (curC h).dead = false) (c : Cl) (hm : c.m = (curC h).m) : KeepsC h (setH h c) := keeps_put (j := h.now.toNat) rfl fun x e => by
  rw [cur_some e] at hl hm
  exact ⟨hm, fun d => by rw [hl] at d; cases d⟩
theorem keeps_temps (h : Hp) (t : List (Int × Int)) : KeepsC h (setH h { curC h with temps := t }) := keeps_put (j := h.now.toNat) rfl fun c e => by rw [cur_some e]; exact ⟨rfl, fun d => ⟨d, rfl⟩⟩

theorem keeps_do (ms : Ms) (h : Hp) (hl : (curC h).dead = false) (k a : Int) (args : List (Int × Int)) : KeepsC h (doH ms h k a args) := by
  have h0 := KeepsC.refl h
  have j0 := keeps_live hl { curC h with pc := a } rfl
  exact all_ite (P := KeepsC h) (keeps_push _ _) fun _ => all_ite (P := KeepsC h) (keeps_push _ _) fun _ => all_ite (P := KeepsC h) (keeps_push _ _) fun _ => all_ite (P := KeepsC h) (keeps_push _ _) fun _ => all_ite (P := KeepsC h) (keeps_temps _ _) fun _ => all_ite (P := KeepsC h) j0 fun _ => all_ite (P := KeepsC h) (all_ite (P := KeepsC h) j0 fun _ => h0) fun _ => all_ite (P := KeepsC h) (keeps_call ms h a args) fun _ => all_ite (P := KeepsC h) (keeps_ret h _) fun _ => all_ite (P := KeepsC h) (keeps_push _ _) fun _ => all_ite (P := KeepsC h) (keeps_push _ _) fun _ => all_ite (P := KeepsC h) (keeps_poke h _ a _) fun _ => all_ite (P := KeepsC h) (keeps_back h _ _) fun _ => all_ite (P := KeepsC h) (KeepsC.same rfl) fun _ => h0

theorem live_cur {ms : Ms} {h : Hp} (g : Good ms h) (hc : h.code = 0) : (curC h).dead = false := by
  have hn0 : 0 ≤ h.now := by
    by_cases q : h.now < 0
    · have := g.head.fin.2 q; omega
    · omega
  obtain ⟨j, hn⟩ : ∃ j : Nat, h.now = j := ⟨h.now.toNat, by omega⟩
  have hj : j < h.calls.length := by have := g.head.now; omega
  obtain ⟨l, hw⟩ := g.w
  rw [hn] at hw
  obtain ⟨_, _, _, hlive, _⟩ := hw.head
  rw [cur_at hn hj]
  exact hlive

theorem keeps_step {ms : Ms} {h : Hp} (g : Good ms h) (hc : h.code = 0) : KeepsC h (stepH ms h) := by
  have hl := live_cur g hc
  have hn0 : 0 ≤ h.now := by
    by_cases q : h.now < 0
    · have := g.head.fin.2 q; omega
    · omega
  obtain ⟨j, hn⟩ : ∃ j : Nat, h.now = j := ⟨h.now.toNat, by omega⟩
  have hj : j < h.calls.length := by have := g.head.now; omega
  refine all_ite (P := KeepsC h) (KeepsC.same rfl) fun _ => all_ite (P := KeepsC h) (KeepsC.same rfl) fun _ => all_ite (P := KeepsC h) (KeepsC.same rfl) fun _ => ?_
  have hs : ∀ c : Cl, c.m = (curC h).m → c.dead = (curC h).dead → ∀ k a args, KeepsC h (doH ms (setH h c) k a args) := fun c hm hd k a args =>
    (keeps_live hl c hm).trans (keeps_do ms _ (by rw [set_cur hn hj, hd]; exact hl) _ _ _)
  exact hs { curC h with stack := (curC h).stack.take (((curC h).stack.length : Int) - (takesOf ms (opNext ms (curC h)).1 (opNext ms (curC h)).2).1).toNat, pc := (curC h).pc + 1 } rfl rfl _ _ _

theorem keeps_run {ms : Ms} : ∀ (n : Nat) (h : Hp), Good ms h → KeepsC h (runH ms n h)
  | 0, h, _ => KeepsC.refl h
  | n + 1, h, g => by
    unfold runH
    by_cases c : h.code = 0
    · rw [if_pos c]
      exact (keeps_step g c).trans (keeps_run n _ (g.step c))
    · rw [if_neg c]
      exact KeepsC.refl h

end Go.Proofs.YthkjgfhheejaoaaGreatDoor
