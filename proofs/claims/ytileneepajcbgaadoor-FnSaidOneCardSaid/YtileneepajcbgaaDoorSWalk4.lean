/-
  The model's heap at work, walked: l11Kinds, l11Made.
-/
import Derived.Test.YtileneepajcbgaaDoorSWalk3
import Derived.Test.YtileneepajcbgaaDoorVSpec4

namespace Go.Proofs.YtileneepajcbgaaDoor
open Go.RowKit
set_option maxRecDepth 100000 in
set_option maxHeartbeats 4000000 in
theorem l11Kinds_any (k a : Int) (va : Value) (args : List (Int × Int)) (w : World) (hM : OpsAt w va args) (h5 : k = 5 → args.length = 2) (h1 : k = 12 ∨ k = 13 ∨ k = 14 ∨ k = 15 ∨ k = 17 ∨ k = 18 → 1 ≤ args.length) :
    Calls Tryd.prog 45 #[.agg #[.int .i64 k, .int .i64 a], va] w fun e w' => e = .returned (.bool (kindsOk k args)) ∧ Below w.heap.size w w' := by
  obtain ⟨aa, ca, rfl, hal, hc⟩ := hM
  have hA : Below w.heap.size w (w.alloc (.cells #[.int .i64 k, .int .i64 a] 85)) := (Below.refl _ _).alloc (Nat.le_refl _) _
  have ro := duo_new w 85 (.int .i64 k) (.int .i64 a)
  by_cases e5 : k = 5
  · subst e5
    have hl := h5 rfl
    obtain ⟨b, o, rfl, p0, p1⟩ := hc 0 (by omega)
    obtain ⟨b', o', hbo, q0, q1⟩ := hc 1 (by omega)
    obtain ⟨rfl, rfl⟩ : b = b' ∧ o = o' := by injection hbo with e; injection e with e1 e2; exact ⟨e1, e2⟩
    have hz0 : (0 : Int) < (args.length : Int) := by omega
    have hz1 : (1 : Int) < (args.length : Int) := by omega
    have hK : kindsOk 5 args = ((args[0]'(by omega)).1 == 1 && (args[1]'(by omega)).1 == 1) := by
      unfold kindsOk
      rw [if_pos rfl, getD_at (by omega), getD_at (by omega)]
    have HK : Hid (kindsOk 5 args = ((args[0]'(by omega)).1 == 1 && (args[1]'(by omega)).1 == 1)) := hK
    clear hK
    have p0A := cell_below hA p0
    have q0A := cell_below hA q0
    simp only [Nat.zero_mul, Nat.add_zero, Nat.one_mul] at p0A q0A
    go_enter Tryd.func45, Tryd.ntmps45
    go_upto_region 1 with fail
    generalize w.alloc (.cells #[.int .i64 5, .int .i64 a] 85) = W at *
    obtain ⟨⟨o0, o1⟩, _⟩ := duo_cells ro
    generalize hx : args[0].1 = X at *
    generalize hy : args[1].1 = Y at *
    by_cases ex : X = 1
    · subst ex
      go_wp2
      go_ret
      exact ⟨by rw [HK.out]; simp, hA⟩
    · have ex' : (X == 1) = false := beq_eq_false_iff_ne.2 ex
      go_wp2
      go_ret
      exact ⟨by rw [HK.out, ex']; simp, hA⟩
  have e5' : (k == 5) = false := beq_eq_false_iff_ne.2 e5
  by_cases ek : k = 12 ∨ k = 13 ∨ k = 14 ∨ k = 15 ∨ k = 17 ∨ k = 18
  · have hl := h1 ek
    obtain ⟨b, o, rfl, p0, p1⟩ := hc 0 (by omega)
    have hz0 : (0 : Int) < (args.length : Int) := by omega
    have HK : Hid (kindsOk k args = ((args[0]'(by omega)).1 == 2)) := by
      show _ = _
      unfold kindsOk
      rw [if_neg e5, if_pos ek, getD_at (by omega)]
    have p0A := cell_below hA p0
    simp only [Nat.zero_mul, Nat.add_zero] at p0A
    generalize args[0].1 = X at *
    rcases ek with e | e | e | e | e | e
    all_goals
      subst e
      go_enter Tryd.func45, Tryd.ntmps45
      go_upto_region 1 with fail
      generalize w.alloc _ = W at *
      obtain ⟨⟨o0, o1⟩, _⟩ := duo_cells ro
      go_wp2
      go_ret
      exact ⟨by rw [HK.out]; rfl, hA⟩
  · have HK : Hid (kindsOk k args = true) := by
      show _ = _
      unfold kindsOk
      rw [if_neg e5, if_neg ek]
    have n12 : (k == 12) = false := beq_eq_false_iff_ne.2 (by omega)
    have n13 : (k == 13) = false := beq_eq_false_iff_ne.2 (by omega)
    have n14 : (k == 14) = false := beq_eq_false_iff_ne.2 (by omega)
    have n15 : (k == 15) = false := beq_eq_false_iff_ne.2 (by omega)
    have n17 : (k == 17) = false := beq_eq_false_iff_ne.2 (by omega)
    have n18 : (k == 18) = false := beq_eq_false_iff_ne.2 (by omega)
    clear e5 ek
    go_enter Tryd.func45, Tryd.ntmps45
    go_upto_region 1 with fail
    generalize w.alloc _ = W at *
    obtain ⟨⟨o0, o1⟩, _⟩ := duo_cells ro
    go_wp2
    go_ret
    exact ⟨by rw [HK.out]; rfl, hA⟩
theorem made_no {k : Int} (h1 : k ≠ 1) (h5 : k ≠ 5) (h6 : k ≠ 6) : (k == 1) = false ∧ (k == 5) = false ∧ (k == 6) = false := ⟨beq_eq_false_iff_ne.2 h1, beq_eq_false_iff_ne.2 h5, beq_eq_false_iff_ne.2 h6⟩
set_option maxRecDepth 100000 in
set_option maxHeartbeats 4000000 in
theorem l11Made_no (k a : Int) (va : Value) (w : World) (h1 : k ≠ 1) (h5 : k ≠ 5) (h6 : k ≠ 6) :
    Calls Tryd.prog 52 #[.agg #[.int .i64 k, .int .i64 a], va] w fun e w' => e = .returned (.tuple #[.agg #[.int .i64 0, .int .i64 0], .bool false]) ∧ Below w.heap.size w w' := by
  obtain ⟨n1, n5, n6⟩ := made_no h1 h5 h6
  go_enter Tryd.func52, Tryd.ntmps52
  go_wp2
  refine bodyPost_ret (v := .tuple #[.agg #[.int .i64 0, .int .i64 0], .bool false]) (by simp [results, Tryd.results52, go_sem]) rfl ?_
  exact ⟨rfl, ((Below.refl _ _).alloc (Nat.le_refl _) _).alloc (by simp) _⟩
set_option maxRecDepth 100000 in
set_option maxHeartbeats 4000000 in
theorem l11Made_num (a : Int) (va : Value) (w : World) :
    Calls Tryd.prog 52 #[.agg #[.int .i64 1, .int .i64 a], va] w fun e w' => e = .returned (.tuple #[.agg #[.int .i64 1, .int .i64 a], .bool true]) ∧ Below w.heap.size w w' := by
  have hA : Below w.heap.size w ((w.alloc (.cells #[.int .i64 1, .int .i64 a] 85)).alloc (.cells #[.int .i64 0, .int .i64 0] 42)) := ((Below.refl _ _).alloc (Nat.le_refl _) _).alloc (by simp) _
  have ro := (duo_new w 85 (.int .i64 1) (.int .i64 a)).alloc (.cells #[.int .i64 0, .int .i64 0] 42)
  have rr := duo_new (w.alloc (.cells #[.int .i64 1, .int .i64 a] 85)) 42 (.int .i64 0) (.int .i64 0)
  simp only [World.size_alloc] at rr
  go_enter Tryd.func52, Tryd.ntmps52
  go_upto_region 1 with fail
  generalize (w.alloc (.cells #[.int .i64 1, .int .i64 a] 85)).alloc (.cells #[.int .i64 0, .int .i64 0] 42) = W at *
  obtain ⟨⟨o0, o1⟩, _⟩ := duo_cells ro
  go_wp2_with (go_at_call 53; refine (l11Num_any _ _).mono ?_; rintro e w' ⟨rfl, hw⟩; have rr' := row_below hw rr; have hA' := hA.trans (hw.mono hA.size); obtain ⟨⟨r0, r1⟩, f0, f1⟩ := duo_cells rr')
  obtain ⟨⟨s0, s1⟩, _⟩ := duo_cells (duo_set rr' (.int .i64 1) (.int .i64 a))
  refine bodyPost_ret (v := .tuple #[.agg #[.int .i64 1, .int .i64 a], .bool true]) (by simp [results, Tryd.results52, go_sem, s0, s1]) rfl ?_
  exact ⟨rfl, (hA'.setCell (p := ⟨w.heap.size + 1, 0, none⟩) (Nat.le_succ _) _).setCell (p := ⟨w.heap.size + 1, 1, none⟩) (Nat.le_succ _) _⟩
set_option maxRecDepth 100000 in
set_option maxHeartbeats 4000000 in
theorem l11Made_add (a : Int) (va : Value) (args : List (Int × Int)) (w : World) (hM : OpsAt w va args) (hl : args.length = 2) (hx : 0 ≤ (args[0]'(by omega)).2 ∧ (args[0]'(by omega)).2 ≤ 999) (hy : 0 ≤ (args[1]'(by omega)).2 ∧ (args[1]'(by omega)).2 ≤ 999) :
    Calls Tryd.prog 52 #[.agg #[.int .i64 5, .int .i64 a], va] w fun e w' => e = .returned (.tuple #[.agg #[.int .i64 1, .int .i64 (((args[0]'(by omega)).2 + (args[1]'(by omega)).2) % 1000)], .bool true]) ∧ Below w.heap.size w w' := by
  obtain ⟨aa, ca, rfl, hal, hc⟩ := hM
  obtain ⟨b, o, rfl, p0, p1⟩ := hc 0 (by omega)
  obtain ⟨b', o', hbo, q0, q1⟩ := hc 1 (by omega)
  obtain ⟨rfl, rfl⟩ : b = b' ∧ o = o' := by injection hbo with e; injection e with e1 e2; exact ⟨e1, e2⟩
  have hz0 : (0 : Int) < (args.length : Int) := by omega
  have hz1 : (1 : Int) < (args.length : Int) := by omega
  have hA : Below w.heap.size w ((w.alloc (.cells #[.int .i64 5, .int .i64 a] 85)).alloc (.cells #[.int .i64 0, .int .i64 0] 42)) := ((Below.refl _ _).alloc (Nat.le_refl _) _).alloc (by simp) _
  have ro := (duo_new w 85 (.int .i64 5) (.int .i64 a)).alloc (.cells #[.int .i64 0, .int .i64 0] 42)
  have rr := duo_new (w.alloc (.cells #[.int .i64 5, .int .i64 a] 85)) 42 (.int .i64 0) (.int .i64 0)
  simp only [World.size_alloc] at rr
  have p1A := cell_below hA p1
  have q1A := cell_below hA q1
  simp only [Nat.zero_mul, Nat.add_zero, Nat.one_mul] at p1A q1A
  generalize args[0].2 = X at *
  generalize args[1].2 = Y at *
  clear hc p0 p1 q0 q1 hbo
  have hw1 : IntKind.i64.wrap (X + Y) = X + Y := by rw [IntKind.wrap_i64]; omega
  have HM : Hid ((X + Y).tmod 1000 = (X + Y) % 1000) := Int.tmod_eq_emod_of_nonneg (by omega)
  go_enter Tryd.func52, Tryd.ntmps52
  go_upto_region 1 with fail
  generalize (w.alloc (.cells #[.int .i64 5, .int .i64 a] 85)).alloc (.cells #[.int .i64 0, .int .i64 0] 42) = W at *
  obtain ⟨⟨o0, o1⟩, _⟩ := duo_cells ro
  go_wp2_with fail
  go_region_with (go_at_call 53; refine (l11Num_any _ _).mono ?_; rintro e w' ⟨rfl, hw⟩; have rr' := row_below hw (show W.drew.rowIs (w.heap.size + 1) 42 2 _ from rr); have hA' := (hA.drew).trans (hw.mono hA.size); obtain ⟨⟨r0, r1⟩, f0, f1⟩ := duo_cells rr')
  all_goals
    go_wp2
    obtain ⟨⟨s0, s1⟩, _⟩ := duo_cells (duo_set rr' (.int .i64 1) (.int .i64 ((X + Y).tmod 1000)))
    refine bodyPost_ret (v := .tuple #[.agg #[.int .i64 1, .int .i64 ((X + Y).tmod 1000)], .bool true]) (by simp [results, Tryd.results52, go_sem, s0, s1]) rfl ?_
    exact ⟨by rw [HM.out], (hA'.setCell (p := ⟨w.heap.size + 1, 0, none⟩) (Nat.le_succ _) _).setCell (p := ⟨w.heap.size + 1, 1, none⟩) (Nat.le_succ _) _⟩
set_option maxRecDepth 100000 in
set_option maxHeartbeats 4000000 in
theorem l11Made_same (a : Int) (va : Value) (args : List (Int × Int)) (w : World) (hM : OpsAt w va args) (hl : args.length = 2) :
    Calls Tryd.prog 52 #[.agg #[.int .i64 6, .int .i64 a], va] w fun e w' => e = .returned (.tuple #[.agg #[.int .i64 1, .int .i64 (bitV (decide (args[0]'(by omega) = args[1]'(by omega)))).2], .bool true]) ∧ Below w.heap.size w w' := by
  obtain ⟨aa, ca, rfl, hal, hc⟩ := hM
  obtain ⟨b, o, rfl, p0, p1⟩ := hc 0 (by omega)
  obtain ⟨b', o', hbo, q0, q1⟩ := hc 1 (by omega)
  obtain ⟨rfl, rfl⟩ : b = b' ∧ o = o' := by injection hbo with e; injection e with e1 e2; exact ⟨e1, e2⟩
  have hz0 : (0 : Int) < (args.length : Int) := by omega
  have hz1 : (1 : Int) < (args.length : Int) := by omega
  have hA : Below w.heap.size w ((w.alloc (.cells #[.int .i64 6, .int .i64 a] 85)).alloc (.cells #[.int .i64 0, .int .i64 0] 42)) := ((Below.refl _ _).alloc (Nat.le_refl _) _).alloc (by simp) _
  have ro := (duo_new w 85 (.int .i64 6) (.int .i64 a)).alloc (.cells #[.int .i64 0, .int .i64 0] 42)
  have rr := duo_new (w.alloc (.cells #[.int .i64 6, .int .i64 a] 85)) 42 (.int .i64 0) (.int .i64 0)
  simp only [World.size_alloc] at rr
  have p0A := cell_below hA p0
  have q0A := cell_below hA q0
  have p1A := cell_below hA p1
  have q1A := cell_below hA q1
  simp only [Nat.zero_mul, Nat.add_zero, Nat.one_mul] at p0A q0A p1A q1A
  generalize args[0] = X at *
  generalize args[1] = Y at *
  obtain ⟨x0, x1⟩ := X
  obtain ⟨y0, y1⟩ := Y
  simp only [] at p0A q0A p1A q1A
  clear hc p0 p1 q0 q1 hbo
  by_cases e0 : x0 = y0
  · subst e0
    by_cases e1 : x1 = y1
    · subst e1
      have HM : Hid ((bitV (decide ((x0, x1) = (x0, x1)))).2 = 1) := by show _ = _; simp [bitV]
      go_enter Tryd.func52, Tryd.ntmps52
      go_upto_region 1 with fail
      generalize (w.alloc (.cells #[.int .i64 6, .int .i64 a] 85)).alloc (.cells #[.int .i64 0, .int .i64 0] 42) = W at *
      obtain ⟨⟨o0, o1⟩, _⟩ := duo_cells ro
      go_wp2_with fail
      go_region_with (go_at_call 63; refine (l11Bit_any true _).mono ?_; rintro e w' ⟨rfl, hw⟩; have rr' := row_below hw (show W.drew.rowIs (w.heap.size + 1) 42 2 _ from rr); have hA' := (hA.drew).trans (hw.mono hA.size); obtain ⟨⟨r0, r1⟩, f0, f1⟩ := duo_cells rr')
      all_goals
        go_wp2
        obtain ⟨⟨s0, s1⟩, _⟩ := duo_cells (duo_set rr' (.int .i64 1) (.int .i64 1))
        refine bodyPost_ret (v := .tuple #[.agg #[.int .i64 1, .int .i64 1], .bool true]) (by simp [results, Tryd.results52, go_sem, s0, s1]) rfl ?_
        exact ⟨by rw [HM.out], (hA'.setCell (p := ⟨w.heap.size + 1, 0, none⟩) (Nat.le_succ _) _).setCell (p := ⟨w.heap.size + 1, 1, none⟩) (Nat.le_succ _) _⟩
    · have HM : Hid ((bitV (decide ((x0, x1) = (x0, y1)))).2 = 0) := by show _ = _; simp [bitV, e1]
      have e1' : (x1 == y1) = false := beq_eq_false_iff_ne.2 e1
      clear e1
      go_enter Tryd.func52, Tryd.ntmps52
      go_upto_region 1 with fail
      generalize (w.alloc (.cells #[.int .i64 6, .int .i64 a] 85)).alloc (.cells #[.int .i64 0, .int .i64 0] 42) = W at *
      obtain ⟨⟨o0, o1⟩, _⟩ := duo_cells ro
      go_wp2_with fail
      go_region_with (go_at_call 63; refine (l11Bit_any false _).mono ?_; rintro e w' ⟨rfl, hw⟩; have rr' := row_below hw (show W.drew.rowIs (w.heap.size + 1) 42 2 _ from rr); have hA' := (hA.drew).trans (hw.mono hA.size); obtain ⟨⟨r0, r1⟩, f0, f1⟩ := duo_cells rr')
      all_goals
        go_wp2
        obtain ⟨⟨s0, s1⟩, _⟩ := duo_cells (duo_set rr' (.int .i64 1) (.int .i64 0))
        refine bodyPost_ret (v := .tuple #[.agg #[.int .i64 1, .int .i64 0], .bool true]) (by simp [results, Tryd.results52, go_sem, s0, s1]) rfl ?_
        exact ⟨by rw [HM.out], (hA'.setCell (p := ⟨w.heap.size + 1, 0, none⟩) (Nat.le_succ _) _).setCell (p := ⟨w.heap.size + 1, 1, none⟩) (Nat.le_succ _) _⟩
  · have HM : Hid ((bitV (decide ((x0, x1) = (y0, y1)))).2 = 0) := by show _ = _; simp [bitV, e0]
    have e0' : (x0 == y0) = false := beq_eq_false_iff_ne.2 e0
    clear e0
    go_enter Tryd.func52, Tryd.ntmps52
    go_upto_region 1 with fail
    generalize (w.alloc (.cells #[.int .i64 6, .int .i64 a] 85)).alloc (.cells #[.int .i64 0, .int .i64 0] 42) = W at *
    obtain ⟨⟨o0, o1⟩, _⟩ := duo_cells ro
    go_wp2_with fail
    go_region_with (go_at_call 63; refine (l11Bit_any false _).mono ?_; rintro e w' ⟨rfl, hw⟩; have rr' := row_below hw (show W.drew.rowIs (w.heap.size + 1) 42 2 _ from rr); have hA' := (hA.drew).trans (hw.mono hA.size); obtain ⟨⟨r0, r1⟩, f0, f1⟩ := duo_cells rr')
    all_goals
      go_wp2
      obtain ⟨⟨s0, s1⟩, _⟩ := duo_cells (duo_set rr' (.int .i64 1) (.int .i64 0))
      refine bodyPost_ret (v := .tuple #[.agg #[.int .i64 1, .int .i64 0], .bool true]) (by simp [results, Tryd.results52, go_sem, s0, s1]) rfl ?_
      exact ⟨by rw [HM.out], (hA'.setCell (p := ⟨w.heap.size + 1, 0, none⟩) (Nat.le_succ _) _).setCell (p := ⟨w.heap.size + 1, 1, none⟩) (Nat.le_succ _) _⟩
end Go.Proofs.YtileneepajcbgaaDoor
