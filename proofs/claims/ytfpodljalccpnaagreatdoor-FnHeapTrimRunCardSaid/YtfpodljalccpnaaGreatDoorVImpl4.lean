/-
  HeapNew of the program: the first call of a program that is ok, in memory of its own; else nothing.
-/
import Derived.Test.YtfpodljalccpnaaGreatDoorImplOk3
import Derived.Test.YtfpodljalccpnaaGreatDoorSMem
import Derived.Test.YtfpodljalccpnaaGreatDoorVImpl
import Derived.Test.YtfpodljalccpnaaGreatDoorLMem

namespace Go.Proofs.YtfpodljalccpnaaGreatDoor
open Go.RowKit
def temps0 (ms : List (Int × Int × List (Int × Int))) : Nat := (ms.getD 0 (0, 0, [])).2.1.toNat
def newHp (ms : List (Int × Int × List (Int × Int))) : Hp :=
  if progOk ms = true then ⟨[⟨0, 0, List.replicate (temps0 ms) (0, 0), [], -1, false⟩], 0, 1, [], 0⟩ else ⟨[], 0, 0, [], 0⟩
theorem first_ok {ms : List (Int × Int × List (Int × Int))} (h : progOk ms = true) : ∃ hl : 0 < ms.length, 0 ≤ ms[0].2.1 ∧ ms[0].2.1 ≤ 4 ∧ (temps0 ms : Int) = ms[0].2.1 ∧ temps0 ms ≤ 4 := by
  unfold progOk at h
  simp only [Bool.and_eq_true] at h
  have hl := inR_true.1 h.1.1
  have h0 : 0 < ms.length := by omega
  have ha := List.all_eq_true.1 h.2 _ (List.getElem_mem h0)
  unfold methOk at ha
  simp only [Bool.and_eq_true] at ha
  have a1 := inR_true.1 ha.1.1.1
  have a2 := inR_true.1 ha.1.1.2
  have e : temps0 ms = (ms[0].2.1).toNat := by simp [temps0, h0]
  exact ⟨h0, by omega, by omega, by rw [e]; omega, by rw [e]; omega⟩
theorem OwnHeap.none (B : Nat) (w : World) : OwnHeap B w (.slice none 0 0) (.slice none 0 0) ⟨[], 0, 0, [], 0⟩ (fun _ => (.slice none 0 0, .slice none 0 0)) :=
  ⟨⟨.inl ⟨rfl, rfl⟩, fun i hi => absurd hi (Nat.not_lt_zero _), fun q hq => by simp at hq⟩, PairRow.nil _ _, fun g e => by simp [Value.ownBlock] at e⟩
theorem own_one {B gc gt n c : Nat} {w : World} {ty : TypeId} {m pc s : Int} {d : Bool} {ts : List (Int × Int)} (hB : B ≤ gc) (hne : gt ≠ gc) (ht : PairRow B w (.slice (some ⟨gt, 0, none⟩) n c) ts)
    (hrow : w.rowIs gc ty 6 (six (.int .i64 m) (.int .i64 pc) (.slice (some ⟨gt, 0, none⟩) n c) (.slice none 0 0) (.int .i64 s) (.bool d))) :
    OwnHeap B w (.slice (some ⟨gc, 0, none⟩) 1 1) (.slice none 0 0) ⟨[⟨m, pc, ts, [], s, d⟩], 0, 1, [], 0⟩ (fun _ => (.slice (some ⟨gt, 0, none⟩) n c, .slice none 0 0)) := by
  obtain ⟨⟨q0, q1, q2, q3, q4, q5⟩, k0, k1, k2, k3, k4, k5⟩ := six_cells hrow
  have hap : ∀ q, q < 2 → ∀ g, (lst (fun _ => (Value.slice (some ⟨gt, 0, none⟩) n c, Value.slice none 0 0)) q).ownBlock = some g → q = 0 ∧ g = gt := by
    intro q hq g e
    unfold lst at e
    split at e
    · simp [Value.ownBlock] at e
      omega
    · simp [Value.ownBlock] at e
  refine ⟨⟨.inr ⟨gc, 0, 1, rfl, hB, hrow.lt, Nat.le_refl _, by unfold maxLen; omega, fun i hi => ?_, fun i hi => ?_⟩, fun i hi => ?_, fun q hq g e => ?_⟩, PairRow.nil _ _, fun g e => by simp [Value.ownBlock] at e⟩
  · have h6 : i = 0 ∨ i = 1 ∨ i = 2 ∨ i = 3 ∨ i = 4 ∨ i = 5 := by omega
    rcases h6 with rfl | rfl | rfl | rfl | rfl | rfl
    · exact ⟨by rw [q0]; rfl, k0⟩
    · exact ⟨by rw [q1]; rfl, k1⟩
    · exact ⟨by rw [q2]; rfl, k2⟩
    · exact ⟨by rw [q3]; rfl, k3⟩
    · exact ⟨by rw [q4]; rfl, k4⟩
    · exact ⟨by rw [q5]; rfl, k5⟩
  · obtain rfl : i = 0 := by simpa using hi
    exact ⟨q0, q1, q2, q3, q4, q5⟩
  · obtain rfl : i = 0 := by simpa using hi
    exact ⟨ht, PairRow.nil _ _⟩
  · obtain ⟨rfl, rfl⟩ := hap q (by simpa using hq) g e
    refine ⟨fun e2 => by simp [Value.ownBlock] at e2; omega, fun q' hq' hne' e2 => ?_⟩
    exact hne' (hap q' (by simpa using hq') g e2).1
theorem made_pairs {B : Nat} (w : World) (t : Nat) (ty : TypeId) (hB : B ≤ w.heap.size) (ht : t ≤ 1000) : PairRow B (w.alloc (.cells (madeCells #[.int .i64 0, .int .i64 0] (t * 2)) ty)) (.slice (some ⟨w.heap.size, 0, none⟩) t t) (List.replicate t (0, 0)) := by
  have h := ops_row_start w (t * 2) ty []
  refine .inr ⟨w.heap.size, 0, t, by simp, hB, h.lt, by simp, by unfold maxLen; omega, fun i hi => ?_, fun i hi => ?_⟩
  · rw [Nat.zero_add]
    exact ⟨by rw [h.cell hi]; rfl, h.frozen i⟩
  · simp at hi
    rw [Nat.zero_add]
    have h1 := h.cell (i := i * 2) (by omega)
    have h2 := h.cell (i := i * 2 + 1) (by omega)
    simp only [List.getElem_replicate]
    rw [h1, h2, if_neg (by omega), if_neg (by omega)]
    exact ⟨rfl, rfl⟩
set_option maxRecDepth 100000 in
set_option maxHeartbeats 2000000 in
theorem implHeapNew_any (vp : Value) (ms : List (Int × Int × List (Int × Int))) (w : World) (h : MethsAt w vp ms) :
    Calls Tryz.prog 17 #[.agg #[vp]] w fun e w' => Below w.heap.size w w' ∧ ∃ vc vs V, e = .returned (.tuple #[.agg (hpCells vc vs (newHp ms)), .bool (progOk ms)]) ∧ OwnHeap w.heap.size w' vc vs (newHp ms) V := by
  obtain ⟨a, cap, rfl, hl, hc⟩ := id h
  have hA : Below w.heap.size w ((w.alloc (.cells #[.slice a ms.length cap] 25)).alloc (.cells #[.slice none 0 0, .int .i64 0, .int .i64 0, .slice none 0 0, .int .i64 0] 29)) := ((Below.refl _ _).alloc (Nat.le_refl _) _).alloc (by simp) _
  have bp : ((w.alloc (.cells #[.slice a ms.length cap] 25)).alloc (.cells #[.slice none 0 0, .int .i64 0, .int .i64 0, .slice none 0 0, .int .i64 0] 29)).cell? ⟨w.heap.size, 0, none⟩ = some (.slice a ms.length cap) := by simp [go_sem]
  have bh := five_new (w.alloc (.cells #[.slice a ms.length cap] 25)) 29 (.slice none 0 0) (.int .i64 0) (.int .i64 0) (.slice none 0 0) (.int .i64 0)
  simp only [World.size_alloc] at bh
  go_enter Tryz.func17, Tryz.ntmps17
  go_wp2_with fail
  generalize (w.alloc (.cells #[.slice a ms.length cap] 25)).alloc (.cells #[.slice none 0 0, .int .i64 0, .int .i64 0, .slice none 0 0, .int .i64 0] 29) = W0 at *
  have z0 := hA.size
  refine (implProgOk_any _ ms _ (h.below hA)).mono ?_
  rintro e w1 ⟨rfl, hb1⟩
  have B1 : Below w.heap.size w w1 := hA.trans (hb1.mono z0)
  have bp1 := cell_below hb1 bp
  have bh1 := row_below hb1 bh
  have z1 := B1.size
  clear hb1 bp bh hA z0
  obtain ⟨⟨x0, x1, x2, x3, x4⟩, ⟨f0, f1, f2, f3, f4⟩⟩ := five_cells bh1
  by_cases hpf : progOk ms = false
  · have hN : Hid (newHp ms = ⟨[], 0, 0, [], 0⟩) := by show newHp ms = _; simp [newHp, hpf]
    have R9 := five_set4 (five_set3 (five_set2 (five_set1 (five_set0 bh1 (.slice none 0 0)) (.int .i64 0)) (.int .i64 0)) (.slice none 0 0)) (.int .i64 0)
    have B9 := ((((B1.setCell (p := ⟨w.heap.size + 1, 0, none⟩) (Nat.le_succ _) (.slice none 0 0)).setCell (p := ⟨w.heap.size + 1, 1, none⟩) (Nat.le_succ _) (.int .i64 0)).setCell (p := ⟨w.heap.size + 1, 2, none⟩) (Nat.le_succ _) (.int .i64 0)).setCell (p := ⟨w.heap.size + 1, 3, none⟩) (Nat.le_succ _) (.slice none 0 0)).setCell (p := ⟨w.heap.size + 1, 4, none⟩) (Nat.le_succ _) (.int .i64 0)
    go_wp2
    generalize ((((w1.setCell ⟨w.heap.size + 1, 0, none⟩ (.slice none 0 0)).setCell ⟨w.heap.size + 1, 1, none⟩ (.int .i64 0)).setCell ⟨w.heap.size + 1, 2, none⟩ (.int .i64 0)).setCell ⟨w.heap.size + 1, 3, none⟩ (.slice none 0 0)).setCell ⟨w.heap.size + 1, 4, none⟩ (.int .i64 0) = W9 at *
    obtain ⟨⟨q0, q1, q2, q3, q4⟩, _⟩ := five_cells R9
    exact bodyPost_ret (v := .tuple #[.agg #[.slice none 0 0, .int .i64 0, .int .i64 0, .slice none 0 0, .int .i64 0], .bool false]) (by simp [results, Tryz.results17, go_sem, q0, q1, q2, q3, q4]) rfl ⟨B9, .slice none 0 0, .slice none 0 0, fun _ => (.slice none 0 0, .slice none 0 0), by rw [hN.out, hpf]; rfl, by rw [hN.out]; exact OwnHeap.none _ _⟩
  have hp : progOk ms = true := by simpa using hpf
  clear hpf
  obtain ⟨hl0, ht0, ht4, hte, htn⟩ := first_ok hp
  obtain ⟨b, o, vo, rfl, d0, d1, d2, _⟩ := hc 0 hl0
  have e1 := cell_below (B1.mono (Nat.le_refl _)) d1
  generalize hTe : temps0 ms = t at *
  have HT : Hid (temps0 ms = t) := hTe
  clear hTe
  generalize ms[0].2.1 = tz at *
  subst hte
  obtain ⟨i0, hi, hz0, hz1, hz2⟩ := info_parts Tryz.infoVal
  have hmk : ∀ w : World, (Instr.makeSlice 27 (.int .i64 (t : Int)) (.int .i64 (t : Int))).run Tryz.prog w = .ok (.slice (some ⟨w.heap.size, 0, none⟩) t t) (w.alloc (.cells (madeCells #[.int .i64 0, .int .i64 0] (t * 2)) 51)) := by
    intro w
    have := run_make (P := Tryz.prog) w 27 51 i0 _ Tryz.underlying27 hi hz0 .i64 .i64 t t (by omega) (Int.le_refl _) (by rw [hz2]; omega) (by omega)
    simpa [hz1, Value.cells] using this
  clear hi hz0 hz1 hz2
  have HN : Hid (newHp ms = ⟨[⟨0, 0, List.replicate t (0, 0), [], -1, false⟩], 0, 1, [], 0⟩) := by rw [← HT.out]; show newHp ms = _; unfold newHp; rw [if_pos hp]
  have N3 : ∀ o1 o2 o3, Below w1.heap.size w1 (((w1.alloc o1).alloc o2).alloc o3) := fun o1 o2 o3 => (((Below.refl _ _).alloc (Nat.le_refl _) _).alloc (by simp) _).alloc (by simp; omega) _
  have R3 : ∀ o1 o2 o3, (((w1.alloc o1).alloc o2).alloc o3).rowIs (w.heap.size + 1) 29 5 (five (.slice none 0 0) (.int .i64 0) (.int .i64 0) (.slice none 0 0) (.int .i64 0)) := fun o1 o2 o3 => row_below (N3 o1 o2 o3) bh1
  have x0' := fun o1 o2 o3 => (five_cells (R3 o1 o2 o3)).1.1
  have x1' := fun o1 o2 o3 => (five_cells (R3 o1 o2 o3)).1.2.1
  have x2' := fun o1 o2 o3 => (five_cells (R3 o1 o2 o3)).1.2.2.1
  have x3' := fun o1 o2 o3 => (five_cells (R3 o1 o2 o3)).1.2.2.2.1
  have x4' := fun o1 o2 o3 => (five_cells (R3 o1 o2 o3)).1.2.2.2.2
  have f0' := fun o1 o2 o3 => (five_cells (R3 o1 o2 o3)).2.1
  have f1' := fun o1 o2 o3 => (five_cells (R3 o1 o2 o3)).2.2.1
  have f2' := fun o1 o2 o3 => (five_cells (R3 o1 o2 o3)).2.2.2.1
  have f3' := fun o1 o2 o3 => (five_cells (R3 o1 o2 o3)).2.2.2.2.1
  have f4' := fun o1 o2 o3 => (five_cells (R3 o1 o2 o3)).2.2.2.2.2
  have hr3 : Hid _ := R3
  clear R3 x0 x1 x2 x3 x4 f0 f1 f2 f3 f4
  go_wp2_with fail
  have hbz := bh1.lt
  have R3 := hr3.out (.cells (madeCells #[.int .i64 0, .int .i64 0] (t * 2)) 51) (.cells #[.int .i64 0, .int .i64 0, .slice (some ⟨w1.heap.size, 0, none⟩) t t, .slice none 0 0, .int .i64 (-1), .bool false] 56) (.cells #[.int .i64 0, .int .i64 0, .slice (some ⟨w1.heap.size, 0, none⟩) t t, .slice none 0 0, .int .i64 (-1), .bool false] 56)
  have P3 := ((made_pairs (B := w.heap.size) w1 t 51 z1 (by omega)).below ((Below.refl _ _).alloc (Nat.le_refl _) (.cells #[.int .i64 0, .int .i64 0, .slice (some ⟨w1.heap.size, 0, none⟩) t t, .slice none 0 0, .int .i64 (-1), .bool false] 56))).below ((Below.refl _ _).alloc (Nat.le_refl _) (.cells #[.int .i64 0, .int .i64 0, .slice (some ⟨w1.heap.size, 0, none⟩) t t, .slice none 0 0, .int .i64 (-1), .bool false] 56))
  have S3 := six_new ((w1.alloc (.cells (madeCells #[.int .i64 0, .int .i64 0] (t * 2)) 51)).alloc (.cells #[.int .i64 0, .int .i64 0, .slice (some ⟨w1.heap.size, 0, none⟩) t t, .slice none 0 0, .int .i64 (-1), .bool false] 56)) 56 (.int .i64 0) (.int .i64 0) (.slice (some ⟨w1.heap.size, 0, none⟩) t t) (.slice none 0 0) (.int .i64 (-1)) (.bool false)
  simp only [World.size_alloc] at S3
  have B3 := B1.trans ((N3 (.cells (madeCells #[.int .i64 0, .int .i64 0] (t * 2)) 51) (.cells #[.int .i64 0, .int .i64 0, .slice (some ⟨w1.heap.size, 0, none⟩) t t, .slice none 0 0, .int .i64 (-1), .bool false] 56) (.cells #[.int .i64 0, .int .i64 0, .slice (some ⟨w1.heap.size, 0, none⟩) t t, .slice none 0 0, .int .i64 (-1), .bool false] 56)).mono z1)
  clear x0' x1' x2' x3' x4' f0' f1' f2' f3' f4' hr3 hmk N3
  generalize ((w1.alloc (.cells (madeCells #[.int .i64 0, .int .i64 0] (t * 2)) 51)).alloc (.cells #[.int .i64 0, .int .i64 0, .slice (some ⟨w1.heap.size, 0, none⟩) t t, .slice none 0 0, .int .i64 (-1), .bool false] 56)).alloc (.cells #[.int .i64 0, .int .i64 0, .slice (some ⟨w1.heap.size, 0, none⟩) t t, .slice none 0 0, .int .i64 (-1), .bool false] 56) = W3 at *
  have hne : (Value.slice (some ⟨w1.heap.size, 0, none⟩) t t).ownBlock ≠ some (w.heap.size + 1) := fun e => by simp [Value.ownBlock] at e; omega
  have R9 := five_set4 (five_set3 (five_set2 (five_set1 (five_set0 R3 (.slice (some ⟨w1.heap.size + 1 + 1, 0, none⟩) 1 1)) (.int .i64 0)) (.int .i64 1)) (.slice none 0 0)) (.int .i64 0)
  have B9 := ((((B3.setCell (p := ⟨w.heap.size + 1, 0, none⟩) (Nat.le_succ _) (.slice (some ⟨w1.heap.size + 1 + 1, 0, none⟩) 1 1)).setCell (p := ⟨w.heap.size + 1, 1, none⟩) (Nat.le_succ _) (.int .i64 0)).setCell (p := ⟨w.heap.size + 1, 2, none⟩) (Nat.le_succ _) (.int .i64 1)).setCell (p := ⟨w.heap.size + 1, 3, none⟩) (Nat.le_succ _) (.slice none 0 0)).setCell (p := ⟨w.heap.size + 1, 4, none⟩) (Nat.le_succ _) (.int .i64 0)
  have P9 := ((((P3.set_other (p := ⟨w.heap.size + 1, 0, none⟩) (.slice (some ⟨w1.heap.size + 1 + 1, 0, none⟩) 1 1) hne).set_other (p := ⟨w.heap.size + 1, 1, none⟩) (.int .i64 0) hne).set_other (p := ⟨w.heap.size + 1, 2, none⟩) (.int .i64 1) hne).set_other (p := ⟨w.heap.size + 1, 3, none⟩) (.slice none 0 0) hne).set_other (p := ⟨w.heap.size + 1, 4, none⟩) (.int .i64 0) hne
  have S9 := row_set (k := w.heap.size + 1) (o := 4) (row_set (k := w.heap.size + 1) (o := 3) (row_set (k := w.heap.size + 1) (o := 2) (row_set (k := w.heap.size + 1) (o := 1) (row_set (k := w.heap.size + 1) (o := 0) S3 (by omega) (.slice (some ⟨w1.heap.size + 1 + 1, 0, none⟩) 1 1)) (by omega) (.int .i64 0)) (by omega) (.int .i64 1)) (by omega) (.slice none 0 0)) (by omega) (.int .i64 0)
  generalize ((((W3.setCell ⟨w.heap.size + 1, 0, none⟩ (.slice (some ⟨w1.heap.size + 1 + 1, 0, none⟩) 1 1)).setCell ⟨w.heap.size + 1, 1, none⟩ (.int .i64 0)).setCell ⟨w.heap.size + 1, 2, none⟩ (.int .i64 1)).setCell ⟨w.heap.size + 1, 3, none⟩ (.slice none 0 0)).setCell ⟨w.heap.size + 1, 4, none⟩ (.int .i64 0) = W9 at *
  obtain ⟨⟨q0, q1, q2, q3, q4⟩, _⟩ := five_cells R9
  have O9 := own_one (B := w.heap.size) (by omega) (by omega) P9 S9
  exact bodyPost_ret (v := .tuple #[.agg #[.slice (some ⟨w1.heap.size + 1 + 1, 0, none⟩) 1 1, .int .i64 0, .int .i64 1, .slice none 0 0, .int .i64 0], .bool true]) (by simp [results, Tryz.results17, go_sem, q0, q1, q2, q3, q4]) rfl ⟨B9, _, _, _, by rw [HN.out, hp]; rfl, by rw [HN.out]; exact O9⟩
set_option maxRecDepth 100000 in
set_option maxHeartbeats 2000000 in
theorem specHeapNew_kept (vp : Value) (ms : List (Int × Int × List (Int × Int))) (w : World) (h : MethsAt w vp ms) :
    Calls Tryz.prog 18 #[.agg #[vp]] w fun e w' => Below w.heap.size w w' ∧ ∃ vc vs, e = .returned (.tuple #[.agg (hpCells vc vs (newHp ms)), .bool (progOk ms)]) ∧ ∀ w'' : World, w'.heap.size ≤ w''.heap.size → (∀ g, w.heap.size ≤ g → g < w'.heap.size → w''.heap[g]? = w'.heap[g]?) → HeapAt w'' vc vs (newHp ms) := by
  obtain ⟨a, cap, rfl, hl, hc⟩ := id h
  have hA : Below w.heap.size w ((w.alloc (.cells #[.slice a ms.length cap] 25)).alloc (.cells #[.slice none 0 0, .int .i64 0, .int .i64 0, .slice none 0 0, .int .i64 0] 29)) := ((Below.refl _ _).alloc (Nat.le_refl _) _).alloc (by simp) _
  have bp : ((w.alloc (.cells #[.slice a ms.length cap] 25)).alloc (.cells #[.slice none 0 0, .int .i64 0, .int .i64 0, .slice none 0 0, .int .i64 0] 29)).cell? ⟨w.heap.size, 0, none⟩ = some (.slice a ms.length cap) := by simp [go_sem]
  have bh := five_new (w.alloc (.cells #[.slice a ms.length cap] 25)) 29 (.slice none 0 0) (.int .i64 0) (.int .i64 0) (.slice none 0 0) (.int .i64 0)
  simp only [World.size_alloc] at bh
  go_enter Tryz.func18, Tryz.ntmps18
  go_wp2_with fail
  generalize (w.alloc (.cells #[.slice a ms.length cap] 25)).alloc (.cells #[.slice none 0 0, .int .i64 0, .int .i64 0, .slice none 0 0, .int .i64 0] 29) = W0 at *
  have z0 := hA.size
  refine (specProgOk_any _ ms _ (h.below hA)).mono ?_
  rintro e w1 ⟨rfl, hb1⟩
  have B1 : Below w.heap.size w w1 := hA.trans (hb1.mono z0)
  have bp1 := cell_below hb1 bp
  have bh1 := row_below hb1 bh
  have z1 := B1.size
  have hbz := bh1.lt
  clear hb1 bp bh hA z0
  obtain ⟨⟨x0, x1, x2, x3, x4⟩, ⟨f0, f1, f2, f3, f4⟩⟩ := five_cells bh1
  by_cases hpf : progOk ms = false
  · have hN : Hid (newHp ms = ⟨[], 0, 0, [], 0⟩) := by show newHp ms = _; simp [newHp, hpf]
    have R9 := five_set4 (five_set3 (five_set2 (five_set1 (five_set0 bh1 (.slice none 0 0)) (.int .i64 0)) (.int .i64 0)) (.slice none 0 0)) (.int .i64 0)
    have B9 := ((((B1.setCell (p := ⟨w.heap.size + 1, 0, none⟩) (Nat.le_succ _) (.slice none 0 0)).setCell (p := ⟨w.heap.size + 1, 1, none⟩) (Nat.le_succ _) (.int .i64 0)).setCell (p := ⟨w.heap.size + 1, 2, none⟩) (Nat.le_succ _) (.int .i64 0)).setCell (p := ⟨w.heap.size + 1, 3, none⟩) (Nat.le_succ _) (.slice none 0 0)).setCell (p := ⟨w.heap.size + 1, 4, none⟩) (Nat.le_succ _) (.int .i64 0)
    go_wp2
    generalize ((((w1.setCell ⟨w.heap.size + 1, 0, none⟩ (.slice none 0 0)).setCell ⟨w.heap.size + 1, 1, none⟩ (.int .i64 0)).setCell ⟨w.heap.size + 1, 2, none⟩ (.int .i64 0)).setCell ⟨w.heap.size + 1, 3, none⟩ (.slice none 0 0)).setCell ⟨w.heap.size + 1, 4, none⟩ (.int .i64 0) = W9 at *
    obtain ⟨⟨q0, q1, q2, q3, q4⟩, _⟩ := five_cells R9
    exact bodyPost_ret (v := .tuple #[.agg #[.slice none 0 0, .int .i64 0, .int .i64 0, .slice none 0 0, .int .i64 0], .bool false]) (by simp [results, Tryz.results18, go_sem, q0, q1, q2, q3, q4]) rfl ⟨B9, .slice none 0 0, .slice none 0 0, by rw [hN.out, hpf]; rfl, fun _ _ _ => by rw [hN.out]; exact (OwnHeap.none 0 _).at⟩
  have hp : progOk ms = true := by simpa using hpf
  clear hpf
  obtain ⟨hl0, ht0, ht4, hte, htn⟩ := first_ok hp
  have hm1 := h.below B1
  have HN : Hid (newHp ms = ⟨[⟨0, 0, List.replicate (temps0 ms) (0, 0), [], -1, false⟩], 0, 1, [], 0⟩) := by show newHp ms = _; unfold newHp; rw [if_pos hp]
  have hm2 := hm1.below ((Below.refl _ _).alloc (Nat.le_refl _) (.cells #[] 51))
  have mk := (PairRow.made (B := 0) (w := w1) (e := 51) (Nat.zero_le _)).at
  have bh2 := row_below ((Below.refl _ _).alloc (Nat.le_refl _) (.cells #[] 51)) bh1
  have B2 := B1.alloc z1 (.cells #[] 51)
  have z2 := B2.size
  have hz12 : w1.heap.size ≤ (w1.alloc (.cells #[] 51)).heap.size := by simp
  clear x0 x1 x2 x3 x4 f0 f1 f2 f3 f4
  go_wp2_with fail
  generalize w1.alloc (.cells #[] 51) = w2 at *
  refine (l11Call_any _ _ ms 0 [] (-1) (temps0 ms) _ hm2 hl0 hte.symm (by omega) mk (by simp)).mono ?_
  rintro e w3 ⟨vt, vs, rfl, ht3, hs3, _, hb3⟩
  obtain ⟨at', ct', hvt, _⟩ := ht3.slice
  obtain ⟨as', cs', hvs, _⟩ := hs3.slice
  subst hvt hvs
  unfold clCells
  simp only [List.nil_append, List.length_nil, Nat.sub_zero, List.length_replicate] at ht3 hs3 ⊢
  generalize temps0 ms = t at *
  have B3 : Below w.heap.size w w3 := B2.trans (hb3.mono z2)
  have bh3 := row_below hb3 bh2
  have z3 := B3.size
  have hz23 := hb3.size
  have N5 : ∀ o1 o2, Below w3.heap.size w3 ((w3.alloc o1).alloc o2) := fun o1 o2 => ((Below.refl _ _).alloc (Nat.le_refl _) _).alloc (by simp) _
  have R5 : Hid (∀ o1 o2, ((w3.alloc o1).alloc o2).rowIs (w.heap.size + 1) 29 5 (five (.slice none 0 0) (.int .i64 0) (.int .i64 0) (.slice none 0 0) (.int .i64 0))) := fun o1 o2 => row_below (N5 o1 o2) bh3
  have x0' := fun o1 o2 => (five_cells (R5.out o1 o2)).1.1
  have x1' := fun o1 o2 => (five_cells (R5.out o1 o2)).1.2.1
  have x2' := fun o1 o2 => (five_cells (R5.out o1 o2)).1.2.2.1
  have x3' := fun o1 o2 => (five_cells (R5.out o1 o2)).1.2.2.2.1
  have x4' := fun o1 o2 => (five_cells (R5.out o1 o2)).1.2.2.2.2
  have f0' := fun o1 o2 => (five_cells (R5.out o1 o2)).2.1
  have f1' := fun o1 o2 => (five_cells (R5.out o1 o2)).2.2.1
  have f2' := fun o1 o2 => (five_cells (R5.out o1 o2)).2.2.2.1
  have f3' := fun o1 o2 => (five_cells (R5.out o1 o2)).2.2.2.2.1
  have f4' := fun o1 o2 => (five_cells (R5.out o1 o2)).2.2.2.2.2
  clear hb3 bh2 B2 z2 mk hm1 hm2 hc bh1
  go_wp2_with fail
  have R3 := R5.out (.cells #[.int .i64 0, .int .i64 0, .slice at' t ct', .slice as' 0 cs', .int .i64 (-1), .bool false] 56) (.cells #[] 51)
  have N3 := N5 (.cells #[.int .i64 0, .int .i64 0, .slice at' t ct', .slice as' 0 cs', .int .i64 (-1), .bool false] 56) (.cells #[] 51)
  have S3 := (six_new w3 56 (.int .i64 0) (.int .i64 0) (.slice at' t ct') (.slice as' 0 cs') (.int .i64 (-1)) (.bool false)).alloc (.cells #[] 51)
  have M3 := PairRow.made (B := w2.heap.size) (w := w3.alloc (.cells #[.int .i64 0, .int .i64 0, .slice at' t ct', .slice as' 0 cs', .int .i64 (-1), .bool false] 56)) (e := 51) (by simp; omega)
  simp only [World.size_alloc] at M3
  have P3 := ht3.below N3
  have Q3 := hs3.below N3
  have B5 := B3.trans (N3.mono z3)
  clear x0' x1' x2' x3' x4' f0' f1' f2' f3' f4' R5 N5
  generalize (w3.alloc (.cells #[.int .i64 0, .int .i64 0, .slice at' t ct', .slice as' 0 cs', .int .i64 (-1), .bool false] 56)).alloc (.cells #[] 51) = W3 at *
  have hne : ∀ {v : Value} {xs : List (Int × Int)}, PairRow w2.heap.size W3 v xs → v.ownBlock ≠ some (w.heap.size + 1) := fun hv e => by have := (hv.lt _ e).1; omega
  have nt := hne P3
  have ns := hne Q3
  have nm := hne M3
  have keep : ∀ {v : Value} {xs : List (Int × Int)}, PairRow w2.heap.size W3 v xs → PairRow w2.heap.size (((((W3.setCell ⟨w.heap.size + 1, 0, none⟩ (.slice (some ⟨w3.heap.size, 0, none⟩) 1 1)).setCell ⟨w.heap.size + 1, 1, none⟩ (.int .i64 0)).setCell ⟨w.heap.size + 1, 2, none⟩ (.int .i64 1)).setCell ⟨w.heap.size + 1, 3, none⟩ (.slice (some ⟨w3.heap.size + 1, 0, none⟩) 0 0)).setCell ⟨w.heap.size + 1, 4, none⟩ (.int .i64 0)) v xs := fun hv =>
    ((((hv.set_other (p := ⟨w.heap.size + 1, 0, none⟩) _ (hne hv)).set_other (p := ⟨w.heap.size + 1, 1, none⟩) _ (hne hv)).set_other (p := ⟨w.heap.size + 1, 2, none⟩) _ (hne hv)).set_other (p := ⟨w.heap.size + 1, 3, none⟩) _ (hne hv)).set_other (p := ⟨w.heap.size + 1, 4, none⟩) _ (hne hv)
  have P9 := keep P3
  have Q9 := keep Q3
  have M9 := keep M3
  have R9 := five_set4 (five_set3 (five_set2 (five_set1 (five_set0 R3 (.slice (some ⟨w3.heap.size, 0, none⟩) 1 1)) (.int .i64 0)) (.int .i64 1)) (.slice (some ⟨w3.heap.size + 1, 0, none⟩) 0 0)) (.int .i64 0)
  have B9 := ((((B5.setCell (p := ⟨w.heap.size + 1, 0, none⟩) (Nat.le_succ _) (.slice (some ⟨w3.heap.size, 0, none⟩) 1 1)).setCell (p := ⟨w.heap.size + 1, 1, none⟩) (Nat.le_succ _) (.int .i64 0)).setCell (p := ⟨w.heap.size + 1, 2, none⟩) (Nat.le_succ _) (.int .i64 1)).setCell (p := ⟨w.heap.size + 1, 3, none⟩) (Nat.le_succ _) (.slice (some ⟨w3.heap.size + 1, 0, none⟩) 0 0)).setCell (p := ⟨w.heap.size + 1, 4, none⟩) (Nat.le_succ _) (.int .i64 0)
  have hw3 := bh3.lt
  have S9 := row_set (k := w.heap.size + 1) (o := 4) (row_set (k := w.heap.size + 1) (o := 3) (row_set (k := w.heap.size + 1) (o := 2) (row_set (k := w.heap.size + 1) (o := 1) (row_set (k := w.heap.size + 1) (o := 0) S3 (by omega) (.slice (some ⟨w3.heap.size, 0, none⟩) 1 1)) (by omega) (.int .i64 0)) (by omega) (.int .i64 1)) (by omega) (.slice (some ⟨w3.heap.size + 1, 0, none⟩) 0 0)) (by omega) (.int .i64 0)
  clear keep hne
  generalize ((((W3.setCell ⟨w.heap.size + 1, 0, none⟩ (.slice (some ⟨w3.heap.size, 0, none⟩) 1 1)).setCell ⟨w.heap.size + 1, 1, none⟩ (.int .i64 0)).setCell ⟨w.heap.size + 1, 2, none⟩ (.int .i64 1)).setCell ⟨w.heap.size + 1, 3, none⟩ (.slice (some ⟨w3.heap.size + 1, 0, none⟩) 0 0)).setCell ⟨w.heap.size + 1, 4, none⟩ (.int .i64 0) = W9 at *
  obtain ⟨⟨q0, q1, q2, q3, q4⟩, _⟩ := five_cells R9
  have O9 : ∀ W : World, W9.heap.size ≤ W.heap.size → (∀ g, w.heap.size ≤ g → g < W9.heap.size → W.heap[g]? = W9.heap[g]?) → HeapAt W (.slice (some ⟨w3.heap.size, 0, none⟩) 1 1) (.slice (some ⟨w3.heap.size + 1, 0, none⟩) 0 0) ⟨[⟨0, 0, List.replicate t (0, 0), [], -1, false⟩], 0, 1, [], 0⟩ := by
    intro W hz hk
    obtain ⟨⟨c0, c1, c2, c3, c4, c5⟩, _⟩ := six_cells (S9.of_block (hk _ (by omega) S9.lt))
    have P' := P9.kept hz (fun g e => hk g (by have := (P9.lt g e).1; omega) (P9.lt g e).2)
    have Q' := Q9.kept hz (fun g e => hk g (by have := (Q9.lt g e).1; omega) (Q9.lt g e).2)
    have M' := M9.kept hz (fun g e => hk g (by have := (M9.lt g e).1; omega) (M9.lt g e).2)
    exact ⟨⟨_, 1, rfl, by unfold maxLen; simp, fun i hi => by
      obtain rfl : i = 0 := by simpa using hi
      exact ⟨w3.heap.size, 0, _, _, rfl, c0, c1, c2, c3, c4, c5, P'.at, Q'.at⟩⟩, M'.at⟩
  exact bodyPost_ret (v := .tuple #[.agg #[.slice (some ⟨w3.heap.size, 0, none⟩) 1 1, .int .i64 0, .int .i64 1, .slice (some ⟨w3.heap.size + 1, 0, none⟩) 0 0, .int .i64 0], .bool true]) (by simp [results, Tryz.results18, go_sem, q0, q1, q2, q3, q4]) rfl ⟨B9, _, _, by rw [HN.out, hp]; rfl, by rw [HN.out]; exact O9⟩
theorem specHeapNew_any (vp : Value) (ms : List (Int × Int × List (Int × Int))) (w : World) (h : MethsAt w vp ms) :
    Calls Tryz.prog 18 #[.agg #[vp]] w fun e w' => Below w.heap.size w w' ∧ ∃ vc vs, e = .returned (.tuple #[.agg (hpCells vc vs (newHp ms)), .bool (progOk ms)]) ∧ HeapAt w' vc vs (newHp ms) :=
  (specHeapNew_kept vp ms w h).mono fun _ w' ⟨h1, vc, vs, h2, h3⟩ => ⟨h1, vc, vs, h2, h3 w' (Nat.le_refl _) fun _ _ _ => rfl⟩
end Go.Proofs.YtfpodljalccpnaaGreatDoor

/-
  What is seen of a heap, by the program: renumbered.
-/
namespace Go.Proofs.YtfpodljalccpnaaGreatDoor
open Go.RowKit
set_option maxRecDepth 100000 in
set_option maxHeartbeats 2000000 in
theorem renumbered_any (A : Nat → Prop) (B bo n : Nat) (ps : List Nat) (vp vn vt vs : Value) (c : Cl) (w : World) (h : Ord A B bo n ps vp vn w) (hps : PsOk n ps) (hn : n ≤ 1000) (ht : OpsAt w vt c.temps) (hs : OpsAt w vs c.stack) (hb : c.temps.length ≤ 1000 ∧ c.stack.length ≤ 1000) :
    Calls Tryz.prog 87 #[.agg (clCells vt vs c), .func (.func 88) #[.pointer (some ⟨bo, 0, none⟩)] #[]] w fun e w' => ∃ vt' vs', e = .returned (.agg (clCells vt' vs' (viewC ps c))) ∧ PairRow w.heap.size w' vt' (c.temps.map (ren ps)) ∧ PairRow w.heap.size w' vs' (c.stack.map (ren ps)) ∧ (∀ g, vt'.ownBlock = some g → vs'.ownBlock ≠ some g) ∧ Below w.heap.size w w' := by
  obtain ⟨at', ct', hvt⟩ := ht.shape
  obtain ⟨as', cs', hvs⟩ := hs.shape
  subst hvt hvs
  unfold clCells viewC
  obtain ⟨hb1, hb2⟩ := hb
  have hA : Below w.heap.size w ((w.alloc (.cells #[.int .i64 c.m, .int .i64 c.pc, .slice at' c.temps.length ct', .slice as' c.stack.length cs', .int .i64 c.sender, .bool c.dead] 56)).alloc (.cells #[.int .i64 0, .int .i64 0, .slice none 0 0, .slice none 0 0, .int .i64 0, .bool false] 56)) := ((Below.refl _ _).alloc (Nat.le_refl _) _).alloc (by simp) _
  have bc := (six_new w 56 (.int .i64 c.m) (.int .i64 c.pc) (.slice at' c.temps.length ct') (.slice as' c.stack.length cs') (.int .i64 c.sender) (.bool c.dead)).alloc (.cells #[.int .i64 0, .int .i64 0, .slice none 0 0, .slice none 0 0, .int .i64 0, .bool false] 56)
  have bz := six_new (w.alloc (.cells #[.int .i64 c.m, .int .i64 c.pc, .slice at' c.temps.length ct', .slice as' c.stack.length cs', .int .i64 c.sender, .bool c.dead] 56)) 56 (.int .i64 0) (.int .i64 0) (.slice none 0 0) (.slice none 0 0) (.int .i64 0) (.bool false)
  simp only [World.size_alloc] at bz
  have HLT : Hid (bo < w.heap.size ∧ (∀ g, vp.ownBlock = some g → g < w.heap.size) ∧ (∀ g, vn.ownBlock = some g → g < w.heap.size)) := ⟨h.box.lt, fun g e => (h.p.lt g e).2, fun g e => (h.n.lt g e).2⟩
  go_enter Tryz.func87, Tryz.ntmps87
  go_upto_region 1 with fail
  generalize (w.alloc (.cells #[.int .i64 c.m, .int .i64 c.pc, .slice at' c.temps.length ct', .slice as' c.stack.length cs', .int .i64 c.sender, .bool c.dead] 56)).alloc (.cells #[.int .i64 0, .int .i64 0, .slice none 0 0, .slice none 0 0, .int .i64 0, .bool false] 56) = W1 at *
  have zA := hA.size
  have yA := bz.lt
  have hO1 := h.below hA
  obtain ⟨⟨x0, x1, x2, x3, x4, x5⟩, f0, f1, f2, f3, f4, f5⟩ := six_cells bc
  have nb : bo ≠ w.heap.size ∧ vp.ownBlock ≠ some w.heap.size ∧ vn.ownBlock ≠ some w.heap.size := ⟨by have := HLT.out.1; omega, fun e => by have := HLT.out.2.1 _ e; omega, fun e => by have := HLT.out.2.2 _ e; omega⟩
  go_upto_region 2 with (go_at_call 88; refine (numberOf_any A B bo n ps vp vn _ _ hO1 hps hn).mono ?_; rintro e w' ⟨rfl, hw⟩; obtain rfl := hw.symm)
  have bc2 := six_set4 bc (.int .i64 (numOf ps c.sender))
  have bz2 := row_set (k := w.heap.size) (o := 4) bz (by omega) (.int .i64 (numOf ps c.sender))
  have hO2 := hO1.set (p := ⟨w.heap.size, 4, none⟩) (.int .i64 (numOf ps c.sender)) nb.1 nb.2.1 nb.2.2
  have B2 := hA.setCell (p := ⟨w.heap.size, 4, none⟩) (Nat.le_refl _) (.int .i64 (numOf ps c.sender))
  have z2 : (W1.setCell ⟨w.heap.size, 4, none⟩ (.int .i64 (numOf ps c.sender))).heap.size ≥ W1.heap.size := by simp [World.setCell]
  generalize W1.setCell ⟨w.heap.size, 4, none⟩ (.int .i64 (numOf ps c.sender)) = w2 at *
  clear bc bz hO1 hA x0 x1 x2 x3 x4 x5 f0 f1 f2 f3 f4 f5
  obtain ⟨⟨x0, x1, x2, x3, x4, x5⟩, f0, f1, f2, f3, f4, f5⟩ := six_cells bc2
  have ht2 := ht.below B2
  have y2 := bz2.lt
  go_upto_region 3 with (go_at_call 105; refine (renumberedVals_any A B bo n ps vp vn _ c.temps _ hO2 hps hn ht2 hb1).mono ?_; rintro e w3 ⟨v3, rfl, hr3, hb3⟩; obtain ⟨a3, c3, hv3, _⟩ := hr3.slice; rw [List.length_map] at hv3; subst hv3; have bc3 := row_below hb3 bc2; obtain ⟨⟨y0, y1, y2, y3, y4, y5⟩, k0, k1, k2, k3, k4, k5⟩ := six_cells bc3)
  have bz3 := row_below hb3 bz2
  have hO3 := hO2.below hb3
  have B3 := B2.trans (hb3.mono B2.size)
  have z3 := hb3.size
  clear bc2 bz2 hO2 B2 hb3 x0 x1 x2 x3 x4 x5 f0 f1 f2 f3 f4 f5 y0 y1 y2 y3 y4 y5 k0 k1 k2 k3 k4 k5 ht2
  have nt3 : (Value.slice a3 c.temps.length c3).ownBlock ≠ some w.heap.size := fun e => by have := (hr3.lt _ e).1; omega
  have bc4 := six_set2 bc3 (.slice a3 c.temps.length c3)
  have bz4 := row_set (k := w.heap.size) (o := 2) bz3 (by omega) (.slice a3 c.temps.length c3)
  have hO4 := hO3.set (p := ⟨w.heap.size, 2, none⟩) (.slice a3 c.temps.length c3) nb.1 nb.2.1 nb.2.2
  have P4 := hr3.set_other (p := ⟨w.heap.size, 2, none⟩) (.slice a3 c.temps.length c3) nt3
  have B4 := B3.setCell (p := ⟨w.heap.size, 2, none⟩) (Nat.le_refl _) (.slice a3 c.temps.length c3)
  have z4 : (w3.setCell ⟨w.heap.size, 2, none⟩ (.slice a3 c.temps.length c3)).heap.size ≥ w3.heap.size := by simp [World.setCell]
  generalize w3.setCell ⟨w.heap.size, 2, none⟩ (.slice a3 c.temps.length c3) = w4 at *
  clear bc3 bz3 hO3 hr3 B3
  obtain ⟨⟨x0, x1, x2, x3, x4, x5⟩, f0, f1, f2, f3, f4, f5⟩ := six_cells bc4
  have hs4 := hs.below B4
  go_upto_region 4 with (go_at_call 105; refine (renumberedVals_any A B bo n ps vp vn _ c.stack _ hO4 hps hn hs4 hb2).mono ?_; rintro e w5 ⟨v5, rfl, hr5, hb5⟩; obtain ⟨a5, c5, hv5, _⟩ := hr5.slice; rw [List.length_map] at hv5; subst hv5; have bc5 := row_below hb5 bc4; obtain ⟨⟨y0, y1, y2, y3, y4, y5⟩, k0, k1, k2, k3, k4, k5⟩ := six_cells bc5)
  have bz5 := row_below hb5 bz4
  have P5 := P4.below hb5
  have B5 := B4.trans (hb5.mono B4.size)
  have z5 := hb5.size
  have hap : ∀ q, (Value.slice a3 c.temps.length c3).ownBlock = some q → (Value.slice a5 c.stack.length c5).ownBlock ≠ some q := fun q e e2 => by have h1 := (P4.lt q e).2; have h2 := (hr5.lt q e2).1; omega
  clear bc4 bz4 hO4 B4 hb5 x0 x1 x2 x3 x4 x5 f0 f1 f2 f3 f4 f5 y0 y1 y2 y3 y4 y5 k0 k1 k2 k3 k4 k5 hs4 P4
  have ns5 : (Value.slice a5 c.stack.length c5).ownBlock ≠ some w.heap.size := fun e => by have := (hr5.lt _ e).1; omega
  have bc6 := six_set3 bc5 (.slice a5 c.stack.length c5)
  have bz6 := row_set (k := w.heap.size) (o := 3) bz5 (by omega) (.slice a5 c.stack.length c5)
  have P6 := P5.set_other (p := ⟨w.heap.size, 3, none⟩) (.slice a5 c.stack.length c5) nt3
  have Q6 := hr5.set_other (p := ⟨w.heap.size, 3, none⟩) (.slice a5 c.stack.length c5) ns5
  have B6 := B5.setCell (p := ⟨w.heap.size, 3, none⟩) (Nat.le_refl _) (.slice a5 c.stack.length c5)
  generalize w5.setCell ⟨w.heap.size, 3, none⟩ (.slice a5 c.stack.length c5) = w6 at *
  clear bc5 bz5 P5 hr5 B5
  have nt1 : (Value.slice a3 c.temps.length c3).ownBlock ≠ some (w.heap.size + 1) := fun e => by have := (P6.lt _ e).1; omega
  have ns1 : (Value.slice a5 c.stack.length c5).ownBlock ≠ some (w.heap.size + 1) := fun e => by have := (Q6.lt _ e).1; omega
  obtain ⟨⟨x0, x1, x2, x3, x4, x5⟩, xf⟩ := six_cells bc6
  obtain ⟨⟨y0, y1, y2, y3, y4, y5⟩, k0, k1, k2, k3, k4, k5⟩ := six_cells bz6
  clear xf
  have R9 := six_set5 (six_set4 (six_set3 (six_set2 (six_set1 (six_set0 bz6 (.int .i64 c.m)) (.int .i64 c.pc)) (.slice a3 c.temps.length c3)) (.slice a5 c.stack.length c5)) (.int .i64 (numOf ps c.sender))) (.bool c.dead)
  have P9 := (((((P6.set_other (p := ⟨w.heap.size + 1, 0, none⟩) (.int .i64 c.m) nt1).set_other (p := ⟨w.heap.size + 1, 1, none⟩) (.int .i64 c.pc) nt1).set_other (p := ⟨w.heap.size + 1, 2, none⟩) (.slice a3 c.temps.length c3) nt1).set_other (p := ⟨w.heap.size + 1, 3, none⟩) (.slice a5 c.stack.length c5) nt1).set_other (p := ⟨w.heap.size + 1, 4, none⟩) (.int .i64 (numOf ps c.sender)) nt1).set_other (p := ⟨w.heap.size + 1, 5, none⟩) (.bool c.dead) nt1
  have Q9 := (((((Q6.set_other (p := ⟨w.heap.size + 1, 0, none⟩) (.int .i64 c.m) ns1).set_other (p := ⟨w.heap.size + 1, 1, none⟩) (.int .i64 c.pc) ns1).set_other (p := ⟨w.heap.size + 1, 2, none⟩) (.slice a3 c.temps.length c3) ns1).set_other (p := ⟨w.heap.size + 1, 3, none⟩) (.slice a5 c.stack.length c5) ns1).set_other (p := ⟨w.heap.size + 1, 4, none⟩) (.int .i64 (numOf ps c.sender)) ns1).set_other (p := ⟨w.heap.size + 1, 5, none⟩) (.bool c.dead) ns1
  have B9 := (((((B6.setCell (p := ⟨w.heap.size + 1, 0, none⟩) (Nat.le_succ _) (.int .i64 c.m)).setCell (p := ⟨w.heap.size + 1, 1, none⟩) (Nat.le_succ _) (.int .i64 c.pc)).setCell (p := ⟨w.heap.size + 1, 2, none⟩) (Nat.le_succ _) (.slice a3 c.temps.length c3)).setCell (p := ⟨w.heap.size + 1, 3, none⟩) (Nat.le_succ _) (.slice a5 c.stack.length c5)).setCell (p := ⟨w.heap.size + 1, 4, none⟩) (Nat.le_succ _) (.int .i64 (numOf ps c.sender))).setCell (p := ⟨w.heap.size + 1, 5, none⟩) (Nat.le_succ _) (.bool c.dead)
  go_wp2
  generalize (((((w6.setCell ⟨w.heap.size + 1, 0, none⟩ (.int .i64 c.m)).setCell ⟨w.heap.size + 1, 1, none⟩ (.int .i64 c.pc)).setCell ⟨w.heap.size + 1, 2, none⟩ (.slice a3 c.temps.length c3)).setCell ⟨w.heap.size + 1, 3, none⟩ (.slice a5 c.stack.length c5)).setCell ⟨w.heap.size + 1, 4, none⟩ (.int .i64 (numOf ps c.sender))).setCell ⟨w.heap.size + 1, 5, none⟩ (.bool c.dead) = W9 at *
  obtain ⟨⟨q0, q1, q2, q3, q4, q5⟩, _⟩ := six_cells R9
  exact bodyPost_ret (v := .agg #[.int .i64 c.m, .int .i64 c.pc, .slice a3 c.temps.length c3, .slice a5 c.stack.length c5, .int .i64 (numOf ps c.sender), .bool c.dead]) (by simp [results, Tryz.results87, go_sem, q0, q1, q2, q3, q4, q5]) rfl ⟨_, _, rfl, P9.mono (by omega), Q9.mono (by omega), hap, B9⟩
end Go.Proofs.YtfpodljalccpnaaGreatDoor

/-
  A heap while the program's operations are done: what a callee leaves as it is.
-/
namespace Go.Proofs.YtfpodljalccpnaaGreatDoor
open Go.RowKit
def LOwn (bl br : Nat) (vcs vsd : Value) (C D : Nat → Nat) (T : Nat → Value × Value) (n : Nat) (g : Nat) : Prop := ∃ x : Blk, x.ok n ∧ x.at bl br vcs vsd C D T = some g
structure LGo (B : Nat) (P P' : Nat → Prop) (w w' : World) : Prop where
  b : Below B w w'
  keep : ∀ g, g < w.heap.size → ¬ P g → w'.heap[g]? = w.heap[g]?
  own : ∀ g, P' g → P g ∨ w.heap.size ≤ g
theorem LGo.refl (B : Nat) (P : Nat → Prop) (w : World) : LGo B P P w w := ⟨Below.refl _ _, fun _ _ _ => rfl, fun _ h => .inl h⟩
theorem LGo.trans {B : Nat} {P P' P'' : Nat → Prop} {a b c : World} (h : LGo B P P' a b) (k : LGo B P' P'' b c) : LGo B P P'' a c :=
  ⟨h.b.trans k.b, fun g hg hn => (k.keep g (Nat.lt_of_lt_of_le hg h.b.size) (fun e => by rcases h.own g e with x | x; exact hn x; omega)).trans (h.keep g hg hn), fun g e => by
    rcases k.own g e with x | x
    · exact h.own g x
    · have := h.b.size; exact .inr (by omega)⟩
theorem LGo.of_below {B : Nat} {P : Nat → Prop} {w w' : World} (hB : B ≤ w.heap.size) (hb : Below w.heap.size w w') : LGo B P P w w' := ⟨hb.mono hB, fun g hg _ => hb.block g hg, fun _ h => .inl h⟩
theorem LGo.set {B : Nat} {P : Nat → Prop} {w : World} {p : Addr} (hp : P p.block) (hB : B ≤ p.block) (u : Value) : LGo B P P w (w.setCell p u) :=
  ⟨(Below.refl _ _).setCell hB u, fun _ _ hn => Below.heap_setCell _ _ _ _ (fun e => hn (by rw [e]; exact hp)), fun _ h => .inl h⟩
theorem LGo.row {B : Nat} {P P' : Nat → Prop} {w w' : World} (h : LGo B P P' w w') {g : Nat} {t : TypeId} {n : Nat} {f : Nat → Value} (hr : w.rowIs g t n f) (hg : ¬ P g) : w'.rowIs g t n f := hr.of_block (h.keep g hr.lt hg)
variable {B : Nat} {w w' : World} {bl br : Nat} {vp vcs vsd : Value} {C D : Nat → Nat} {T : Nat → Value × Value} {h h' : Hp}
theorem LV.new (k : LV B w bl br vp vcs vsd C D T h) {g : Nat} (hg : w.heap.size ≤ g) : ¬ LOwn bl br vcs vsd C D T h.calls.length g := fun ⟨x, hx, e⟩ => by have := (k.lo x hx g e).2; omega
theorem LV.turn_go {j : Nat} (hj : j < h.calls.length) {vt vs : Value} (hb : Below B w w')
    (hbl : ∀ g, g < w.heap.size → g ≠ D j → (T j).1.ownBlock ≠ some g → (T j).2.ownBlock ≠ some g → w'.heap[g]? = w.heap[g]?)
    (nt : ∀ q, vt.ownBlock = some q → (T j).1.ownBlock = some q ∨ (T j).2.ownBlock = some q ∨ w.heap.size ≤ q) (ns : ∀ q, vs.ownBlock = some q → (T j).1.ownBlock = some q ∨ (T j).2.ownBlock = some q ∨ w.heap.size ≤ q) :
    LGo B (LOwn bl br vcs vsd C D T h.calls.length) (LOwn bl br vcs vsd C D (putV T j (vt, vs)) h.calls.length) w w' := by
  refine ⟨hb, fun g hg hn => hbl g hg (fun e => hn ⟨.body j, hj, by rw [e]; rfl⟩) (fun e => hn ⟨.temps j, hj, e⟩) (fun e => hn ⟨.stack j, hj, e⟩), fun g ⟨x, hx, e⟩ => ?_⟩
  by_cases x1 : x = .temps j
  · subst x1
    simp only [Blk.at, putV_same] at e
    rcases nt g e with q | q | q
    · exact .inl ⟨.temps j, hj, q⟩
    · exact .inl ⟨.stack j, hj, q⟩
    · exact .inr q
  by_cases x2 : x = .stack j
  · subst x2
    simp only [Blk.at, putV_same] at e
    rcases ns g e with q | q | q
    · exact .inl ⟨.temps j, hj, q⟩
    · exact .inl ⟨.stack j, hj, q⟩
    · exact .inr q
  refine .inl ⟨x, hx, ?_⟩
  rw [← e]
  cases x with
  | temps i => simp only [Blk.at]; rw [putV_other _ _ (fun q => x1 (by rw [q]))]
  | stack i => simp only [Blk.at]; rw [putV_other _ _ (fun q => x2 (by rw [q]))]
  | _ => rfl
theorem LV.push (k : LV B w bl br vp vcs vsd C D T h) {j : Nat} (hj : j < h.calls.length) {w2 : World} {v' : Value} {st : List (Int × Int)} (_hB : B ≤ w.heap.size) (hg : w.heap.size ≤ w2.heap.size) (hw : Below B w w2)
    (hbl : ∀ g, g < w.heap.size → (T j).2.ownBlock ≠ some g → w2.heap[g]? = w.heap[g]?) (hr : PairRow B w2 v' st) (hv : ∀ q, v'.ownBlock = some q → (T j).2.ownBlock = some q ∨ w.heap.size ≤ q) :
    LV B (w2.setCell ⟨D j, 3, none⟩ v') bl br vp vcs vsd C D (putV T j ((T j).1, v')) { h with calls := h.calls.set j { h.calls[j] with stack := st } } ∧ LGo B (LOwn bl br vcs vsd C D T h.calls.length) (LOwn bl br vcs vsd C D (putV T j ((T j).1, v')) h.calls.length) w (w2.setCell ⟨D j, 3, none⟩ v') := by
  have hDl := k.lo (.body j) hj (D j) rfl
  have hDs : (T j).2.ownBlock ≠ some (D j) := fun e => by have := k.ap (.stack j) (.body j) hj hj (D j) e rfl; cases this
  have hDt : (T j).1.ownBlock ≠ some (D j) := fun e => by have := k.ap (.temps j) (.body j) hj hj (D j) e rfl; cases this
  have hTS : ∀ q, (T j).1.ownBlock = some q → (T j).2.ownBlock ≠ some q := fun q e e2 => by have := k.ap (.temps j) (.stack j) hj hj q e e2; cases this
  have hvD : v'.ownBlock ≠ some (D j) := fun e => by
    rcases hv _ e with x | x
    · exact hDs x
    · omega
  have hz : w.heap.size ≤ (w2.setCell ⟨D j, 3, none⟩ v').heap.size := by simp [World.setCell]; exact hg
  have hbl' : ∀ g, g < w.heap.size → g ≠ D j → (T j).1.ownBlock ≠ some g → (T j).2.ownBlock ≠ some g → (w2.setCell ⟨D j, 3, none⟩ v').heap[g]? = w.heap[g]? := fun g h1 h2 _ h4 => (Below.heap_setCell _ _ _ _ (fun e => h2 e)).trans (hbl g h1 h4)
  have hbd : (w2.setCell ⟨D j, 3, none⟩ v').rowIs (D j) 143 5 (five (.int .i64 h.calls[j].m) (.int .i64 h.calls[j].pc) (T j).1 v' (.bool h.calls[j].dead)) := five_set3 ((k.bd j hj).of_block (hbl _ hDl.2 hDs)) v'
  have ht := (k.ts j hj).1
  have ht' : PairRow B (w2.setCell ⟨D j, 3, none⟩ v') (T j).1 h.calls[j].temps := (ht.kept hg fun q e => hbl q (ht.lt q e).2 (hTS q e)).set_other _ hDt
  have nt : ∀ q, (T j).1.ownBlock = some q → (T j).1.ownBlock = some q ∨ (T j).2.ownBlock = some q ∨ w.heap.size ≤ q := fun q e => .inl e
  have ns : ∀ q, v'.ownBlock = some q → (T j).1.ownBlock = some q ∨ (T j).2.ownBlock = some q ∨ w.heap.size ≤ q := fun q e => .inr (hv q e)
  have nn : ∀ q, (T j).1.ownBlock = some q → v'.ownBlock ≠ some q := fun q e e2 => by
    rcases hv q e2 with x | x
    · exact hTS q e x
    · have := (ht.lt q e).2; omega
  exact ⟨k.turn hj rfl hz hbl' hbd ht' (hr.set_other _ hvD) nt ns nn, LV.turn_go hj (hw.setCell (p := ⟨D j, 3, none⟩) hDl.1 v') hbl' nt ns⟩
theorem LV.say_go (k : LV B w bl br vp vcs vsd C D T h) (v' : Value) (hb : Below B w w') (hbl : ∀ g, g < w.heap.size → vsd.ownBlock ≠ some g → w'.heap[g]? = w.heap[g]?) (hv : ∀ q, v'.ownBlock = some q → vsd.ownBlock = some q ∨ w.heap.size ≤ q) :
    LGo B (LOwn bl br vcs vsd C D T h.calls.length) (LOwn bl br vcs v' C D T h.calls.length) w (w'.setCell ⟨br, 3, none⟩ v') := by
  have hr := k.lo .run trivial br rfl
  refine ⟨hb.setCell (p := ⟨br, 3, none⟩) hr.1 v', fun g hg hn => (Below.heap_setCell _ _ _ _ (fun e => hn ⟨.run, trivial, by rw [e]; rfl⟩)).trans (hbl g hg (fun e => hn ⟨.said, trivial, e⟩)), fun g ⟨x, hx, e⟩ => ?_⟩
  by_cases x1 : x = .said
  · subst x1
    rcases hv g e with q | q
    · exact .inl ⟨.said, trivial, q⟩
    · exact .inr q
  · refine .inl ⟨x, hx, ?_⟩
    rw [← e]
    cases x <;> first | rfl | exact absurd rfl x1
end Go.Proofs.YtfpodljalccpnaaGreatDoor
