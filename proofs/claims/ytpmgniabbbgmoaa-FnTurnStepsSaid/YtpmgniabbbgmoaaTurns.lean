/-
  Turns, pairs of numbers: copied, sized, held against one another; how many operations they are, in the model and in the program.
-/
import Derived.Test.YtpmgniabbbgmoaaProg
import Derived.Test.YtpmgniabbbgmoaaBase
import Derived.Deep.RegionWith
namespace Go.Proofs.Ytpmgniabbbgmoaa
open Go.RowKit

/-- nothing from block B on is frozen -/
def NF (B : Nat) (w : World) : Prop := ∀ g o, B ≤ g → w.frozen? ⟨g, o, none⟩ = false

theorem NF.start (w : World) : NF w.heap.size w := fun g o h => by
  unfold World.frozen?
  rw [Array.getElem?_eq_none (by exact h)]
theorem NF.alloc {B : Nat} {w : World} (h : NF B w) (cs : Array Value) (t : TypeId) : NF B (w.alloc (.cells cs t)) := fun g o hg => by
  by_cases e : g = w.heap.size
  · subst e
    unfold World.frozen?
    rw [Go.Deep.blk_alloc_new]
    simp
  · by_cases hl : g < w.heap.size
    · rw [World.frozen?_of_block (a := ⟨g, o, none⟩) (Below.heap_alloc w _ g hl)]; exact h g o hg
    · unfold World.frozen?
      rw [Array.getElem?_eq_none (by show (w.alloc _).heap.size ≤ g; rw [World.size_alloc]; omega)]
theorem NF.set {B : Nat} {w : World} (h : NF B w) (p : Addr) (v : Value) : NF B (w.setCell p v) := fun g o hg => by rw [World.frozen?_setCell]; exact h g o hg
theorem NF.go {B : Nat} {w w' : World} (h : NF B w) (h' : NF w.heap.size w') (hb : Below w.heap.size w w') : NF B w' := fun g o hg => by
  by_cases hl : g < w.heap.size
  · rw [hb.frozen (p := ⟨g, o, none⟩) hl]; exact h g o hg
  · exact h' g o (by omega)
theorem NF.mono {B B' : Nat} {w : World} (h : NF B w) (hB : B ≤ B') : NF B' w := fun g o hg => h g o (by omega)

theorem Try.infoTurn : (Try.prog.info? 38).map (fun i => (i.zero, i.size, i.bytes)) = some (some (.agg #[.int .i64 0, .int .i64 0]), 2, 16) := by kernel_rfl

theorem toTurn_any (k a : Int) (w : World) :
    Calls Try.prog 17 #[.agg #[.int .i64 k, .int .i64 a]] w fun e w' => e = .returned (.agg #[.int .i64 k, .int .i64 a]) ∧ Below w.heap.size w w' ∧ NF w.heap.size w' := by
  go_enter Try.func17, Try.ntmps17
  go_wp2
  refine bodyPost_ret (v := .agg #[.int .i64 k, .int .i64 a]) (by simp [results, Try.results17, go_sem]) rfl ⟨rfl, ?_, ?_⟩
  · exact (((Below.refl _ _).alloc (Nat.le_refl _) _).alloc (by simp) _).alloc (by simp; omega) _
  · exact (((NF.start w).alloc _ _).alloc _ _).alloc _ _

set_option maxHeartbeats 400000 in
theorem toTurnS_any (v : Value) (ops : List (Int × Int)) (w : World) (h : OpsAt w v ops) (hn : ops.length ≤ 1048576) :
    Calls Try.prog 9 #[v] w fun e w' => ∃ v', e = .returned v' ∧ OpsAt w' v' ops ∧ Own w.heap.size v' ∧ Below w.heap.size w w' ∧ NF w.heap.size w' := by
  obtain ⟨a, cap, rfl, hl, hc⟩ := h
  have hl' := hl
  unfold maxLen at hl
  obtain ⟨i0, hi, hz0, hz1, hz2⟩ := info_parts Try.infoTurn
  have hmk : ∀ w : World, (Instr.makeSlice 23 (.int .i64 (ops.length : Int)) (.int .i64 (ops.length : Int))).run Try.prog w = .ok (.slice (some ⟨w.heap.size, 0, none⟩) ops.length ops.length) (w.alloc (.cells (madeCells #[.int .i64 0, .int .i64 0] (ops.length * 2)) 38)) := by
    intro w
    have := run_make (P := Try.prog) w 23 38 i0 _ Try.underlying23 hi hz0 .i64 .i64 ops.length ops.length (by omega) (Int.le_refl _) (by rw [hz2]; omega) (by omega)
    simpa [hz1, Value.cells] using this
  go_enter Try.func9, Try.ntmps9
  go_wp2
  clear hmk hi hz0 hz1 hz2
  go_loopg [4] ops.length (fun g i wr => ∃ k : Nat, k ≤ ops.length ∧ g = ops.length - k ∧ i = .int .i64 k ∧ NF w.heap.size wr ∧ Below w.heap.size w wr ∧ wr.rowIs w.heap.size 38 (ops.length * 2) (fun j => if j < k * 2 then opCell ops j else .int .i64 0))
  case atStart => exact ⟨0, Nat.zero_le _, rfl, rfl, (NF.start w).alloc _ _, (Below.refl _ _).alloc (Nat.le_refl _) _, ops_row_start _ _ _ _⟩
  case round =>
    obtain ⟨k, hk, rfl, rfl, hnf, hb, hrow⟩ := hrel
    have HNF : Hid (NF w.heap.size wr) := hnf
    clear hnf
    by_cases hlt : k < ops.length
    · obtain ⟨b, o, rfl, c0, c1⟩ := hc k hlt
      have d0 := cell_below hb c0
      have d1 := cell_below hb c1
      clear c0 c1 hc
      have hkz : (k : Int) < (ops.length : Int) := by omega
      go_wp2_with fail
      refine (toTurn_any _ _ _).mono ?_
      rintro e w1 ⟨rfl, hb1, hnf1⟩
      have hsz := hb.size
      have HNF1 : Hid (NF w.heap.size w1) := HNF.out.go hnf1 hb1
      clear HNF hnf1
      have hrow1 := row_below hb1 hrow
      have hb2 : Below w.heap.size w w1 := hb.trans (hb1.mono (Nat.le_of_lt hrow.lt))
      have f0 := hrow1.frozen (k * 2)
      have f1 := hrow1.frozen (k * 2 + 1)
      have g0 := hrow1.cell (i := k * 2) (by omega)
      have g1 := hrow1.cell (i := k * 2 + 1) (by omega)
      have R := ops_row_step hlt hrow1
      clear hrow hrow1 hb hb1 d0 d1
      go_wp2
      go_roundg (ops.length - (k + 1))
      case measure => omega
      case rel => exact ⟨k + 1, by omega, rfl, by go_num, (HNF1.out.set _ _).set _ _, (hb2.setCell (Nat.le_refl _) _).setCell (Nat.le_refl _) _, R⟩
    · obtain rfl : k = ops.length := by omega
      go_wp2
      go_ret
      exact ⟨_, rfl, ops_row_end hl' hrow _, ⟨_, _, _, rfl, Nat.le_refl _⟩, hb, HNF.out⟩

theorem szTurnS_any (a : Option Addr) (n c : Nat) (left : Int) (w : World) (h0 : 0 ≤ left) (h1 : left ≤ 1048576) (hn : n ≤ maxLen) :
    Calls Try.prog 8 #[.slice a n c, .int .i64 left] w fun e w' => ∃ r : Int, e = .returned (.int .i64 r) ∧ r ≤ 1048576 ∧ (0 ≤ r → n ≤ 1048576) ∧ w' = w := by
  unfold maxLen at hn
  go_enter Try.func8, Try.ntmps8
  by_cases hlt : left - n < 0
  · go_wp2
    go_ret
    exact ⟨_, rfl, by omega, fun h => absurd h (by omega), rfl⟩
  · go_wp2
    go_ret
    exact ⟨_, rfl, by omega, fun _ => by omega, rfl⟩

set_option maxHeartbeats 400000 in
theorem eqTurn_same (k a : Int) (w : World) :
    Calls Try.prog 18 #[.agg #[.int .i64 k, .int .i64 a], .agg #[.int .i64 k, .int .i64 a]] w fun e w' => e = .returned (.bool true) ∧ Below w.heap.size w w' := by
  go_enter Try.func18, Try.ntmps18
  go_wp2
  go_ret
  exact ⟨rfl, ((Below.refl _ _).alloc (Nat.le_refl _) _).alloc (by simp) _⟩

set_option maxHeartbeats 400000 in
theorem eqTurnS_same (v v' : Value) (ops : List (Int × Int)) (w : World) (h : OpsAt w v ops) (h' : OpsAt w v' ops) :
    Calls Try.prog 10 #[v, v'] w fun e w' => e = .returned (.bool true) ∧ Below w.heap.size w w' := by
  obtain ⟨a, cap, rfl, hl, hc⟩ := h
  obtain ⟨a', cap', rfl, _, hc'⟩ := h'
  unfold maxLen at hl
  go_enter Try.func10, Try.ntmps10
  go_wp2
  go_loopg [5] ops.length (fun g i wr => ∃ k : Nat, k ≤ ops.length ∧ g = ops.length - k ∧ i = .int .i64 k ∧ Below w.heap.size w wr)
  case atStart => exact ⟨0, Nat.zero_le _, rfl, rfl, Below.refl _ _⟩
  case round =>
    obtain ⟨k, hk, rfl, rfl, hb⟩ := hrel
    by_cases hlt : k < ops.length
    · obtain ⟨b, o, rfl, c0, c1⟩ := hc k hlt
      obtain ⟨b', o', rfl, c0', c1'⟩ := hc' k hlt
      have d0 := cell_below hb c0
      have d1 := cell_below hb c1
      have d0' := cell_below hb c0'
      have d1' := cell_below hb c1'
      clear c0 c1 c0' c1' hc hc'
      have hkz : (k : Int) < (ops.length : Int) := by omega
      have hsz := hb.size
      go_wp2_with fail
      go_region_with (go_at_call 18; refine (eqTurn_same _ _ _).mono ?_; rintro e w1 ⟨rfl, hb1⟩)
      all_goals
        have hb2 : Below w.heap.size w w1 := hb.drew.trans (hb1.mono hsz)
        clear hb hb1 d0 d1 d0' d1'
        go_wp2
        go_roundg (ops.length - (k + 1))
        case measure => omega
        case rel => exact ⟨k + 1, by omega, rfl, by go_num, hb2⟩
    · go_wp2
      go_ret
      exact ⟨rfl, hb⟩

theorem ret_t {a b : Bool} (h : a = b) : Ending.returned (.bool a) = .returned (.bool b) := by rw [h]

/-- how many operations a turn is -/
def turnN (t : Int × Int) : Int := if t.1 = 1 ∧ 0 ≤ t.2 ∧ t.2 ≤ 400 then t.2 else 0
/-- how many operations turns are -/
def stepsN (ts : List (Int × Int)) : Int := (ts.map turnN).sum

theorem turnN_no {x y : Int} (h : ¬ (x = 1 ∧ 0 ≤ y ∧ y ≤ 400)) : turnN (x, y) = 0 := if_neg h
theorem turnN_yes {y : Int} (h : 0 ≤ y ∧ y ≤ 400) : turnN (1, y) = y := if_pos ⟨rfl, h⟩
theorem turnN_le (t : Int × Int) : 0 ≤ turnN t ∧ turnN t ≤ 400 := by
  unfold turnN
  split <;> omega
theorem stepsN_le : ∀ ts : List (Int × Int), 0 ≤ stepsN ts ∧ stepsN ts ≤ 400 * (ts.length : Int)
  | [] => by simp [stepsN]
  | t :: ts => by
    have h1 := turnN_le t
    have h2 := stepsN_le ts
    have e : stepsN (t :: ts) = turnN t + stepsN ts := by simp [stepsN]
    rw [e, List.length_cons]
    omega
theorem stepsN_take {ts : List (Int × Int)} {k : Nat} (hk : k < ts.length) : stepsN (ts.take (k + 1)) = stepsN (ts.take k) + turnN ts[k] := by
  have e : ts.take (k + 1) = ts.take k ++ [ts[k]] := (List.take_append_getElem hk).symm
  unfold stepsN
  rw [e, List.map_append, List.sum_append]
  simp
theorem stepsN_app (xs ys : List (Int × Int)) : stepsN (xs ++ ys) = stepsN xs + stepsN ys := by simp [stepsN]

theorem l6In_t (n lo hi : Int) (w : World) :
    Calls Try.prog 16 #[.int .i64 n, .int .i64 lo, .int .i64 hi] w fun e w' => e = .returned (.bool (decide (lo ≤ n ∧ n ≤ hi))) ∧ w' = w := by
  go_enter Try.func16, Try.ntmps16
  by_cases h1 : lo ≤ n
  · by_cases h2 : n ≤ hi
    · go_wp2
      go_ret
      exact ⟨ret_t (by simp [h1, h2]), rfl⟩
    · go_wp2
      go_ret
      exact ⟨ret_t (by simp [h2]), rfl⟩
  · go_wp2
    go_ret
    exact ⟨ret_t (by first | rfl | exact (decide_eq_false (by omega)).symm | (simp; omega)), rfl⟩

theorem stepsOk_t (n : Int) (w : World) : Calls Try.prog 19 #[.int .i64 n] w fun e w' => e = .returned (.bool (decide (0 ≤ n ∧ n ≤ 400))) ∧ w' = w := by
  go_enter Try.func19, Try.ntmps19
  by_cases h1 : 0 ≤ n
  · by_cases h2 : n ≤ 400
    · go_wp2
      go_ret
      exact ⟨ret_t (by simp [h1, h2]), rfl⟩
    · go_wp2
      go_ret
      exact ⟨ret_t (by simp [h2]), rfl⟩
  · go_wp2
    go_ret
    exact ⟨ret_t (by first | rfl | exact (decide_eq_false (by omega)).symm | (simp; omega)), rfl⟩

set_option maxHeartbeats 1000000 in
theorem specTurnSteps_any (v : Value) (ts : List (Int × Int)) (w : World) (h : OpsAt w v ts) (hn : ts.length ≤ 1048576) :
    Calls Try.prog 7 #[v] w fun e w' => e = .returned (.int .i64 (stepsN ts)) ∧ Below w.heap.size w w' := by
  obtain ⟨a, cap, rfl, hl, hc⟩ := h
  unfold maxLen at hl
  go_enter Try.func7, Try.ntmps7
  go_wp2
  go_loopg [3, 4] ts.length (fun g n i wr => ∃ (k : Nat) (M : Int), k ≤ ts.length ∧ g = ts.length - k ∧ i = .int .i64 k ∧ n = .int .i64 M ∧ M = stepsN (ts.take k) ∧ Below w.heap.size w wr)
  case atStart => exact ⟨0, 0, Nat.zero_le _, rfl, rfl, rfl, by simp [stepsN], Below.refl _ _⟩
  case round =>
    obtain ⟨k, M, hk, rfl, rfl, rfl, hM, hb⟩ := hrel
    have HM : Hid (M = stepsN (ts.take k)) := hM
    have hM0 : 0 ≤ M ∧ M ≤ 400 * 1048576 := by
      have := stepsN_le (ts.take k)
      rw [← hM] at this
      have h2 : (ts.take k).length ≤ 1048576 := by rw [List.length_take]; omega
      omega
    clear hM
    by_cases hlt : k < ts.length
    · obtain ⟨b, o, rfl, c0, c1⟩ := hc k hlt
      have d0 := cell_below hb c0
      have d1 := cell_below hb c1
      have hkz : (k : Int) < (ts.length : Int) := by omega
      clear c0 c1 hc
      have HT : Hid (stepsN (ts.take (k + 1)) = M + turnN ts[k]) := by rw [HM.out]; exact stepsN_take hlt
      obtain ⟨x, y, hxy⟩ : ∃ x y : Int, ts[k] = (x, y) := ⟨_, _, rfl⟩
      rw [hxy] at d0 d1
      have HX : Hid (ts[k] = (x, y)) := hxy
      clear hxy
      dsimp only at d0 d1
      by_cases h1 : x = 1
      · subst h1
        obtain ⟨r, hr⟩ : ∃ r, decide (0 ≤ y ∧ y ≤ 400) = r := ⟨_, rfl⟩
        have HR : Hid (decide (0 ≤ y ∧ y ≤ 400) = r) := hr
        clear hr
        go_wp2_with fail
        refine (l6In_t _ _ _ _).mono ?_
        rintro e w' ⟨rfl, hw'⟩
        obtain rfl := hw'.symm
        rw [HR.out]
        cases r
        · go_wp2
          go_roundg (ts.length - (k + 1))
          case measure => omega
          case rel => exact ⟨k + 1, M, by omega, rfl, by go_num, rfl, by rw [HT.out, HX.out]; rw [turnN_no fun q => of_decide_eq_false HR.out q.2]; omega, hb⟩
        · have hy : 0 ≤ y ∧ y ≤ 400 := by have := HR.out; simpa using this
          go_wp2
          go_roundg (ts.length - (k + 1))
          case measure => omega
          case rel => exact ⟨k + 1, M + y, by omega, rfl, by go_num, by go_num, by rw [HT.out, HX.out]; rw [turnN_yes hy], hb⟩
      · go_wp2
        go_roundg (ts.length - (k + 1))
        case measure => omega
        case rel => exact ⟨k + 1, M, by omega, rfl, by go_num, rfl, by rw [HT.out, HX.out]; rw [turnN_no fun q => h1 q.1]; omega, hb⟩
    · have hM' : M = stepsN ts := by rw [HM.out, List.take_of_length_le (by omega)]
      subst hM'
      go_wp2
      go_ret
      exact ⟨rfl, hb⟩

set_option maxHeartbeats 1000000 in
theorem stepsTurn_any (n x y : Int) (w : World) (h0 : 0 ≤ n) (h1 : n ≤ 400 * 1048576) :
    Calls Try.prog 15 #[.int .i64 n, .agg #[.int .i64 x, .int .i64 y]] w fun e w' => (∃ m b, e = .returned (.tuple #[.int .i64 m, .bool b]) ∧ (if b then m else n) = n + turnN (x, y)) ∧ Below w.heap.size w w' := by
  go_enter Try.func15, Try.ntmps15
  by_cases hx : x = 1
  · subst hx
    obtain ⟨r, hr⟩ : ∃ r, decide (0 ≤ y ∧ y ≤ 400) = r := ⟨_, rfl⟩
    have HR : Hid (decide (0 ≤ y ∧ y ≤ 400) = r) := hr
    clear hr
    go_wp2_with fail
    refine (stepsOk_t _ _).mono ?_
    rintro e w' ⟨rfl, hw'⟩
    obtain rfl := hw'.symm
    rw [HR.out]
    cases r
    · go_wp2
      go_ret2
      exact ⟨⟨_, _, rfl, by rw [turnN_no fun q => of_decide_eq_false HR.out q.2]; simp⟩, (Below.refl _ _).alloc (Nat.le_refl _) _⟩
    · have hy : 0 ≤ y ∧ y ≤ 400 := by have := HR.out; simpa using this
      go_wp2
      go_ret2
      exact ⟨⟨_, _, rfl, by rw [turnN_yes hy]; simp⟩, (Below.refl _ _).alloc (Nat.le_refl _) _⟩
  · go_wp2
    go_ret2
    exact ⟨⟨_, _, rfl, by rw [turnN_no fun q => hx q.1]; simp⟩, (Below.refl _ _).alloc (Nat.le_refl _) _⟩

set_option maxHeartbeats 1000000 in
theorem takeTurns_any (v : Value) (ts : List (Int × Int)) (w : World) (h : OpsAt w v ts) (hn : ts.length ≤ 1048576) :
    Calls Try.prog 14 #[.int .i64 0, v, .func (.func 15) #[] #[]] w fun e w' => e = .returned (.int .i64 (stepsN ts)) ∧ Below w.heap.size w w' := by
  obtain ⟨a, cap, rfl, hl, hc⟩ := h
  unfold maxLen at hl
  go_enter Try.func14, Try.ntmps14
  go_wp2
  go_loopg [0, 13] ts.length (fun g n i wr => ∃ (k : Nat) (M : Int), k ≤ ts.length ∧ g = ts.length - k ∧ i = .int .i64 k ∧ n = .int .i64 M ∧ M = stepsN (ts.take k) ∧ Below w.heap.size w wr)
  case atStart => exact ⟨0, 0, Nat.zero_le _, rfl, rfl, rfl, by simp [stepsN], Below.refl _ _⟩
  case round =>
    obtain ⟨k, M, hk, rfl, rfl, rfl, hM, hb⟩ := hrel
    have HM : Hid (M = stepsN (ts.take k)) := hM
    have hM0 : 0 ≤ M ∧ M ≤ 400 * 1048576 := by
      have := stepsN_le (ts.take k)
      rw [← hM] at this
      have h2 : (ts.take k).length ≤ 1048576 := by rw [List.length_take]; omega
      omega
    clear hM
    by_cases hlt : k < ts.length
    · obtain ⟨b, o, rfl, c0, c1⟩ := hc k hlt
      have d0 := cell_below hb c0
      have d1 := cell_below hb c1
      have hkz : (k : Int) < (ts.length : Int) := by omega
      clear c0 c1 hc
      have HT : Hid (stepsN (ts.take (k + 1)) = M + turnN ts[k]) := by rw [HM.out]; exact stepsN_take hlt
      obtain ⟨x, y, hxy⟩ : ∃ x y : Int, ts[k] = (x, y) := ⟨_, _, rfl⟩
      rw [hxy] at d0 d1
      have HX : Hid (ts[k] = (x, y)) := hxy
      clear hxy
      dsimp only at d0 d1
      go_wp2_with fail
      refine (stepsTurn_any _ _ _ _ hM0.1 hM0.2).mono ?_
      rintro e w1 ⟨⟨m, r, rfl, hm⟩, hb1⟩
      have HMM : Hid ((if r = true then m else M) = M + turnN (x, y)) := hm
      have hb2 : Below w.heap.size w w1 := (hb.alloc hb.size _).trans (hb1.mono (by have := hb.size; simp; omega))
      clear hb hb1 d0 d1 hm
      cases r
      · go_wp2
        go_roundg (ts.length - (k + 1))
        case measure => omega
        case rel => exact ⟨k + 1, M, by omega, rfl, by go_num, rfl, by rw [HT.out, HX.out, ← HMM.out]; rfl, hb2⟩
      · go_wp2
        go_roundg (ts.length - (k + 1))
        case measure => omega
        case rel => exact ⟨k + 1, m, by omega, rfl, by go_num, rfl, by rw [HT.out, HX.out, ← HMM.out]; rfl, hb2⟩
    · have hM' : M = stepsN ts := by rw [HM.out, List.take_of_length_le (by omega)]
      subst hM'
      go_wp2
      go_ret
      exact ⟨rfl, hb⟩

theorem implTurnSteps_any (v : Value) (ts : List (Int × Int)) (w : World) (h : OpsAt w v ts) (hn : ts.length ≤ 1048576) :
    Calls Try.prog 6 #[v] w fun e w' => e = .returned (.int .i64 (stepsN ts)) ∧ Below w.heap.size w w' := by
  obtain ⟨a, cap, hv, _⟩ := id h
  subst hv
  go_enter Try.func6, Try.ntmps6
  go_wp2_with fail
  refine (takeTurns_any _ ts _ h hn).mono ?_
  rintro e w1 ⟨rfl, hb1⟩
  go_wp2
  go_ret
  exact ⟨rfl, hb1⟩

end Go.Proofs.Ytpmgniabbbgmoaa
