/-
  HeapNew of the program: the first call of a program that is ok, in memory of its own; else nothing.
-/
import Derived.Test.YtldiccheboipeaaImplOk3
import Derived.Test.YtldiccheboipeaaSpecOk2
import Derived.Test.YtldiccheboipeaaVals
namespace Go.Proofs.Ytldiccheboipeaa
open Go.RowKit

/-- how many temps the first method has -/
def temps0 (ms : List (Int × Int × List (Int × Int))) : Nat := (ms.getD 0 (0, 0, [])).2.1.toNat

/-- what a program begins with -/
def newHp (ms : List (Int × Int × List (Int × Int))) : Hp :=
  if progOk ms = true then ⟨[⟨0, 0, List.replicate (temps0 ms) (0, 0), [], -1, false⟩], 0, 1, [], 0⟩ else ⟨[], 0, 0, [], 0⟩

theorem first_ok {ms : List (Int × Int × List (Int × Int))} (h : progOk ms = true) : ∃ hl : 0 < ms.length, 0 ≤ ms[0].2.1 ∧ ms[0].2.1 ≤ 4 ∧ (temps0 ms : Int) = ms[0].2.1 ∧ temps0 ms ≤ 4 := by
  unfold progOk at h
  simp only [Bool.and_eq_true] at h
  have hl := inR_true.1 h.1.1
  have h0 : 0 < ms.length := by omega
  have ha := List.all_eq_true.1 h.2 _ (List.getElem_mem h0)
  unfold methOk at ha
  simp only [Bool.and_eq_true] at ha
  have a1 := inR_true.1 ha.1.1.1
  have a2 := inR_true.1 ha.1.1.2
  have e : temps0 ms = (ms[0].2.1).toNat := by simp [temps0, h0]
  exact ⟨h0, by omega, by omega, by rw [e]; omega, by rw [e]; omega⟩

theorem OwnHeap.none (B : Nat) (w : World) : OwnHeap B w (.slice none 0 0) (.slice none 0 0) ⟨[], 0, 0, [], 0⟩ (fun _ => (.slice none 0 0, .slice none 0 0)) :=
  ⟨⟨.inl ⟨rfl, rfl⟩, fun i hi => absurd hi (Nat.not_lt_zero _), fun q hq => by simp at hq⟩, PairRow.nil _ _, fun g e => by simp [Value.ownBlock] at e⟩

/-- one call in memory of its own -/
theorem own_one {B gc gt n c : Nat} {w : World} {ty : TypeId} {m pc s : Int} {d : Bool} {ts : List (Int × Int)} (hB : B ≤ gc) (hne : gt ≠ gc) (ht : PairRow B w (.slice (some ⟨gt, 0, none⟩) n c) ts)
    (hrow : w.rowIs gc ty 6 (six (.int .i64 m) (.int .i64 pc) (.slice (some ⟨gt, 0, none⟩) n c) (.slice none 0 0) (.int .i64 s) (.bool d))) :
    OwnHeap B w (.slice (some ⟨gc, 0, none⟩) 1 1) (.slice none 0 0) ⟨[⟨m, pc, ts, [], s, d⟩], 0, 1, [], 0⟩ (fun _ => (.slice (some ⟨gt, 0, none⟩) n c, .slice none 0 0)) := by
  obtain ⟨⟨q0, q1, q2, q3, q4, q5⟩, k0, k1, k2, k3, k4, k5⟩ := six_cells hrow
  have hap : ∀ q, q < 2 → ∀ g, (lst (fun _ => (Value.slice (some ⟨gt, 0, none⟩) n c, Value.slice none 0 0)) q).ownBlock = some g → q = 0 ∧ g = gt := by
    intro q hq g e
    unfold lst at e
    split at e
    · simp [Value.ownBlock] at e
      omega
    · simp [Value.ownBlock] at e
  refine ⟨⟨.inr ⟨gc, 0, 1, rfl, hB, hrow.lt, Nat.le_refl _, by unfold maxLen; omega, fun i hi => ?_, fun i hi => ?_⟩, fun i hi => ?_, fun q hq g e => ?_⟩, PairRow.nil _ _, fun g e => by simp [Value.ownBlock] at e⟩
  · have h6 : i = 0 ∨ i = 1 ∨ i = 2 ∨ i = 3 ∨ i = 4 ∨ i = 5 := by omega
    rcases h6 with rfl | rfl | rfl | rfl | rfl | rfl
    · exact ⟨by rw [q0]; rfl, k0⟩
    · exact ⟨by rw [q1]; rfl, k1⟩
    · exact ⟨by rw [q2]; rfl, k2⟩
    · exact ⟨by rw [q3]; rfl, k3⟩
    · exact ⟨by rw [q4]; rfl, k4⟩
    · exact ⟨by rw [q5]; rfl, k5⟩
  · obtain rfl : i = 0 := by simpa using hi
    exact ⟨q0, q1, q2, q3, q4, q5⟩
  · obtain rfl : i = 0 := by simpa using hi
    exact ⟨ht, PairRow.nil _ _⟩
  · obtain ⟨rfl, rfl⟩ := hap q (by simpa using hq) g e
    refine ⟨fun e2 => by simp [Value.ownBlock] at e2; omega, fun q' hq' hne' e2 => ?_⟩
    exact hne' (hap q' (by simpa using hq') g e2).1

/-- values that were just made -/
theorem made_pairs {B : Nat} (w : World) (t : Nat) (ty : TypeId) (hB : B ≤ w.heap.size) (ht : t ≤ 1000) : PairRow B (w.alloc (.cells (madeCells #[.int .i64 0, .int .i64 0] (t * 2)) ty)) (.slice (some ⟨w.heap.size, 0, none⟩) t t) (List.replicate t (0, 0)) := by
  have h := ops_row_start w (t * 2) ty []
  refine .inr ⟨w.heap.size, 0, t, by simp, hB, h.lt, by simp, by unfold maxLen; omega, fun i hi => ?_, fun i hi => ?_⟩
  · rw [Nat.zero_add]
    exact ⟨by rw [h.cell hi]; rfl, h.frozen i⟩
  · simp at hi
    rw [Nat.zero_add]
    have h1 := h.cell (i := i * 2) (by omega)
    have h2 := h.cell (i := i * 2 + 1) (by omega)
    simp only [List.getElem_replicate]
    rw [h1, h2, if_neg (by omega), if_neg (by omega)]
    exact ⟨rfl, rfl⟩

set_option maxRecDepth 100000 in
set_option maxHeartbeats 2000000 in
theorem implHeapNew_any (vp : Value) (ms : List (Int × Int × List (Int × Int))) (w : World) (h : MethsAt w vp ms) :
    Calls Try.prog 11 #[.agg #[vp]] w fun e w' => Below w.heap.size w w' ∧ ∃ vc vs V, e = .returned (.tuple #[.agg (hpCells vc vs (newHp ms)), .bool (progOk ms)]) ∧ OwnHeap w.heap.size w' vc vs (newHp ms) V := by
  obtain ⟨a, cap, rfl, hl, hc⟩ := id h
  have hA : Below w.heap.size w ((w.alloc (.cells #[.slice a ms.length cap] 25)).alloc (.cells #[.slice none 0 0, .int .i64 0, .int .i64 0, .slice none 0 0, .int .i64 0] 39)) := ((Below.refl _ _).alloc (Nat.le_refl _) _).alloc (by simp) _
  have bp : ((w.alloc (.cells #[.slice a ms.length cap] 25)).alloc (.cells #[.slice none 0 0, .int .i64 0, .int .i64 0, .slice none 0 0, .int .i64 0] 39)).cell? ⟨w.heap.size, 0, none⟩ = some (.slice a ms.length cap) := by simp [go_sem]
  have bh := five_new (w.alloc (.cells #[.slice a ms.length cap] 25)) 39 (.slice none 0 0) (.int .i64 0) (.int .i64 0) (.slice none 0 0) (.int .i64 0)
  simp only [World.size_alloc] at bh
  go_enter Try.func11, Try.ntmps11
  go_wp2_with fail
  generalize (w.alloc (.cells #[.slice a ms.length cap] 25)).alloc (.cells #[.slice none 0 0, .int .i64 0, .int .i64 0, .slice none 0 0, .int .i64 0] 39) = W0 at *
  have z0 := hA.size
  refine (implProgOk_any _ ms _ (h.below hA)).mono ?_
  rintro e w1 ⟨rfl, hb1⟩
  have B1 : Below w.heap.size w w1 := hA.trans (hb1.mono z0)
  have bp1 := cell_below hb1 bp
  have bh1 := row_below hb1 bh
  have z1 := B1.size
  clear hb1 bp bh hA z0
  obtain ⟨⟨x0, x1, x2, x3, x4⟩, ⟨f0, f1, f2, f3, f4⟩⟩ := five_cells bh1
  by_cases hpf : progOk ms = false
  · have hN : Hid (newHp ms = ⟨[], 0, 0, [], 0⟩) := by show newHp ms = _; simp [newHp, hpf]
    have R9 := five_set4 (five_set3 (five_set2 (five_set1 (five_set0 bh1 (.slice none 0 0)) (.int .i64 0)) (.int .i64 0)) (.slice none 0 0)) (.int .i64 0)
    have B9 := ((((B1.setCell (p := ⟨w.heap.size + 1, 0, none⟩) (Nat.le_succ _) (.slice none 0 0)).setCell (p := ⟨w.heap.size + 1, 1, none⟩) (Nat.le_succ _) (.int .i64 0)).setCell (p := ⟨w.heap.size + 1, 2, none⟩) (Nat.le_succ _) (.int .i64 0)).setCell (p := ⟨w.heap.size + 1, 3, none⟩) (Nat.le_succ _) (.slice none 0 0)).setCell (p := ⟨w.heap.size + 1, 4, none⟩) (Nat.le_succ _) (.int .i64 0)
    go_wp2
    generalize ((((w1.setCell ⟨w.heap.size + 1, 0, none⟩ (.slice none 0 0)).setCell ⟨w.heap.size + 1, 1, none⟩ (.int .i64 0)).setCell ⟨w.heap.size + 1, 2, none⟩ (.int .i64 0)).setCell ⟨w.heap.size + 1, 3, none⟩ (.slice none 0 0)).setCell ⟨w.heap.size + 1, 4, none⟩ (.int .i64 0) = W9 at *
    obtain ⟨⟨q0, q1, q2, q3, q4⟩, _⟩ := five_cells R9
    exact bodyPost_ret (v := .tuple #[.agg #[.slice none 0 0, .int .i64 0, .int .i64 0, .slice none 0 0, .int .i64 0], .bool false]) (by simp [results, Try.results11, go_sem, q0, q1, q2, q3, q4]) rfl ⟨B9, .slice none 0 0, .slice none 0 0, fun _ => (.slice none 0 0, .slice none 0 0), by rw [hN.out, hpf]; rfl, by rw [hN.out]; exact OwnHeap.none _ _⟩
  have hp : progOk ms = true := by simpa using hpf
  clear hpf
  obtain ⟨hl0, ht0, ht4, hte, htn⟩ := first_ok hp
  obtain ⟨b, o, vo, rfl, d0, d1, d2, _⟩ := hc 0 hl0
  have e1 := cell_below (B1.mono (Nat.le_refl _)) d1
  generalize hTe : temps0 ms = t at *
  have HT : Hid (temps0 ms = t) := hTe
  clear hTe
  generalize ms[0].2.1 = tz at *
  subst hte
  obtain ⟨i0, hi, hz0, hz1, hz2⟩ := info_parts Try.infoVal
  have hmk : ∀ w : World, (Instr.makeSlice 31 (.int .i64 (t : Int)) (.int .i64 (t : Int))).run Try.prog w = .ok (.slice (some ⟨w.heap.size, 0, none⟩) t t) (w.alloc (.cells (madeCells #[.int .i64 0, .int .i64 0] (t * 2)) 130)) := by
    intro w
    have := run_make (P := Try.prog) w 31 130 i0 _ Try.underlying31 hi hz0 .i64 .i64 t t (by omega) (Int.le_refl _) (by rw [hz2]; omega) (by omega)
    simpa [hz1, Value.cells] using this
  clear hi hz0 hz1 hz2
  have HN : Hid (newHp ms = ⟨[⟨0, 0, List.replicate t (0, 0), [], -1, false⟩], 0, 1, [], 0⟩) := by rw [← HT.out]; show newHp ms = _; unfold newHp; rw [if_pos hp]
  have N3 : ∀ o1 o2 o3, Below w1.heap.size w1 (((w1.alloc o1).alloc o2).alloc o3) := fun o1 o2 o3 => (((Below.refl _ _).alloc (Nat.le_refl _) _).alloc (by simp) _).alloc (by simp; omega) _
  have R3 : ∀ o1 o2 o3, (((w1.alloc o1).alloc o2).alloc o3).rowIs (w.heap.size + 1) 39 5 (five (.slice none 0 0) (.int .i64 0) (.int .i64 0) (.slice none 0 0) (.int .i64 0)) := fun o1 o2 o3 => row_below (N3 o1 o2 o3) bh1
  have x0' := fun o1 o2 o3 => (five_cells (R3 o1 o2 o3)).1.1
  have x1' := fun o1 o2 o3 => (five_cells (R3 o1 o2 o3)).1.2.1
  have x2' := fun o1 o2 o3 => (five_cells (R3 o1 o2 o3)).1.2.2.1
  have x3' := fun o1 o2 o3 => (five_cells (R3 o1 o2 o3)).1.2.2.2.1
  have x4' := fun o1 o2 o3 => (five_cells (R3 o1 o2 o3)).1.2.2.2.2
  have f0' := fun o1 o2 o3 => (five_cells (R3 o1 o2 o3)).2.1
  have f1' := fun o1 o2 o3 => (five_cells (R3 o1 o2 o3)).2.2.1
  have f2' := fun o1 o2 o3 => (five_cells (R3 o1 o2 o3)).2.2.2.1
  have f3' := fun o1 o2 o3 => (five_cells (R3 o1 o2 o3)).2.2.2.2.1
  have f4' := fun o1 o2 o3 => (five_cells (R3 o1 o2 o3)).2.2.2.2.2
  have hr3 : Hid _ := R3
  clear R3 x0 x1 x2 x3 x4 f0 f1 f2 f3 f4
  go_wp2_with fail
  have hbz := bh1.lt
  have R3 := hr3.out (.cells (madeCells #[.int .i64 0, .int .i64 0] (t * 2)) 130) (.cells #[.int .i64 0, .int .i64 0, .slice (some ⟨w1.heap.size, 0, none⟩) t t, .slice none 0 0, .int .i64 (-1), .bool false] 88) (.cells #[.int .i64 0, .int .i64 0, .slice (some ⟨w1.heap.size, 0, none⟩) t t, .slice none 0 0, .int .i64 (-1), .bool false] 88)
  have P3 := ((made_pairs (B := w.heap.size) w1 t 130 z1 (by omega)).below ((Below.refl _ _).alloc (Nat.le_refl _) (.cells #[.int .i64 0, .int .i64 0, .slice (some ⟨w1.heap.size, 0, none⟩) t t, .slice none 0 0, .int .i64 (-1), .bool false] 88))).below ((Below.refl _ _).alloc (Nat.le_refl _) (.cells #[.int .i64 0, .int .i64 0, .slice (some ⟨w1.heap.size, 0, none⟩) t t, .slice none 0 0, .int .i64 (-1), .bool false] 88))
  have S3 := six_new ((w1.alloc (.cells (madeCells #[.int .i64 0, .int .i64 0] (t * 2)) 130)).alloc (.cells #[.int .i64 0, .int .i64 0, .slice (some ⟨w1.heap.size, 0, none⟩) t t, .slice none 0 0, .int .i64 (-1), .bool false] 88)) 88 (.int .i64 0) (.int .i64 0) (.slice (some ⟨w1.heap.size, 0, none⟩) t t) (.slice none 0 0) (.int .i64 (-1)) (.bool false)
  simp only [World.size_alloc] at S3
  have B3 := B1.trans ((N3 (.cells (madeCells #[.int .i64 0, .int .i64 0] (t * 2)) 130) (.cells #[.int .i64 0, .int .i64 0, .slice (some ⟨w1.heap.size, 0, none⟩) t t, .slice none 0 0, .int .i64 (-1), .bool false] 88) (.cells #[.int .i64 0, .int .i64 0, .slice (some ⟨w1.heap.size, 0, none⟩) t t, .slice none 0 0, .int .i64 (-1), .bool false] 88)).mono z1)
  clear x0' x1' x2' x3' x4' f0' f1' f2' f3' f4' hr3 hmk N3
  generalize ((w1.alloc (.cells (madeCells #[.int .i64 0, .int .i64 0] (t * 2)) 130)).alloc (.cells #[.int .i64 0, .int .i64 0, .slice (some ⟨w1.heap.size, 0, none⟩) t t, .slice none 0 0, .int .i64 (-1), .bool false] 88)).alloc (.cells #[.int .i64 0, .int .i64 0, .slice (some ⟨w1.heap.size, 0, none⟩) t t, .slice none 0 0, .int .i64 (-1), .bool false] 88) = W3 at *
  have hne : (Value.slice (some ⟨w1.heap.size, 0, none⟩) t t).ownBlock ≠ some (w.heap.size + 1) := fun e => by simp [Value.ownBlock] at e; omega
  have R9 := five_set4 (five_set3 (five_set2 (five_set1 (five_set0 R3 (.slice (some ⟨w1.heap.size + 1 + 1, 0, none⟩) 1 1)) (.int .i64 0)) (.int .i64 1)) (.slice none 0 0)) (.int .i64 0)
  have B9 := ((((B3.setCell (p := ⟨w.heap.size + 1, 0, none⟩) (Nat.le_succ _) (.slice (some ⟨w1.heap.size + 1 + 1, 0, none⟩) 1 1)).setCell (p := ⟨w.heap.size + 1, 1, none⟩) (Nat.le_succ _) (.int .i64 0)).setCell (p := ⟨w.heap.size + 1, 2, none⟩) (Nat.le_succ _) (.int .i64 1)).setCell (p := ⟨w.heap.size + 1, 3, none⟩) (Nat.le_succ _) (.slice none 0 0)).setCell (p := ⟨w.heap.size + 1, 4, none⟩) (Nat.le_succ _) (.int .i64 0)
  have P9 := ((((P3.set_other (p := ⟨w.heap.size + 1, 0, none⟩) (.slice (some ⟨w1.heap.size + 1 + 1, 0, none⟩) 1 1) hne).set_other (p := ⟨w.heap.size + 1, 1, none⟩) (.int .i64 0) hne).set_other (p := ⟨w.heap.size + 1, 2, none⟩) (.int .i64 1) hne).set_other (p := ⟨w.heap.size + 1, 3, none⟩) (.slice none 0 0) hne).set_other (p := ⟨w.heap.size + 1, 4, none⟩) (.int .i64 0) hne
  have S9 := row_set (k := w.heap.size + 1) (o := 4) (row_set (k := w.heap.size + 1) (o := 3) (row_set (k := w.heap.size + 1) (o := 2) (row_set (k := w.heap.size + 1) (o := 1) (row_set (k := w.heap.size + 1) (o := 0) S3 (by omega) (.slice (some ⟨w1.heap.size + 1 + 1, 0, none⟩) 1 1)) (by omega) (.int .i64 0)) (by omega) (.int .i64 1)) (by omega) (.slice none 0 0)) (by omega) (.int .i64 0)
  generalize ((((W3.setCell ⟨w.heap.size + 1, 0, none⟩ (.slice (some ⟨w1.heap.size + 1 + 1, 0, none⟩) 1 1)).setCell ⟨w.heap.size + 1, 1, none⟩ (.int .i64 0)).setCell ⟨w.heap.size + 1, 2, none⟩ (.int .i64 1)).setCell ⟨w.heap.size + 1, 3, none⟩ (.slice none 0 0)).setCell ⟨w.heap.size + 1, 4, none⟩ (.int .i64 0) = W9 at *
  obtain ⟨⟨q0, q1, q2, q3, q4⟩, _⟩ := five_cells R9
  have O9 := own_one (B := w.heap.size) (by omega) (by omega) P9 S9
  exact bodyPost_ret (v := .tuple #[.agg #[.slice (some ⟨w1.heap.size + 1 + 1, 0, none⟩) 1 1, .int .i64 0, .int .i64 1, .slice none 0 0, .int .i64 0], .bool true]) (by simp [results, Try.results11, go_sem, q0, q1, q2, q3, q4]) rfl ⟨B9, _, _, _, by rw [HN.out, hp]; rfl, by rw [HN.out]; exact O9⟩

end Go.Proofs.Ytldiccheboipeaa
