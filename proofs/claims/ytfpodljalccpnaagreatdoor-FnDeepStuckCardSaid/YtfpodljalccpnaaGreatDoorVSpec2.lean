/-
  HeapNew of the program: the first call of a program that is ok, in memory of its own; else nothing.
-/
import Derived.Test.YtfpodljalccpnaaGreatDoorImplOk3
import Derived.Test.YtfpodljalccpnaaGreatDoorSMem
import Derived.Test.YtfpodljalccpnaaGreatDoorLStep1
import Derived.Test.YtfpodljalccpnaaGreatDoorVImpl
import Derived.Deep.QuietTactic
import Derived.Deep.RegionHeld3
import Derived.Test.YtfpodljalccpnaaGreatDoorStepS

namespace Go.Proofs.YtfpodljalccpnaaGreatDoor
open Go.RowKit
def temps0 (ms : List (Int × Int × List (Int × Int))) : Nat := (ms.getD 0 (0, 0, [])).2.1.toNat
def newHp (ms : List (Int × Int × List (Int × Int))) : Hp :=
  if progOk ms = true then ⟨[⟨0, 0, List.replicate (temps0 ms) (0, 0), [], -1, false⟩], 0, 1, [], 0⟩ else ⟨[], 0, 0, [], 0⟩
theorem first_ok {ms : List (Int × Int × List (Int × Int))} (h : progOk ms = true) : ∃ hl : 0 < ms.length, 0 ≤ ms[0].2.1 ∧ ms[0].2.1 ≤ 4 ∧ (temps0 ms : Int) = ms[0].2.1 ∧ temps0 ms ≤ 4 := by
  unfold progOk at h
  simp only [Bool.and_eq_true] at h
  have hl := inR_true.1 h.1.1
  have h0 : 0 < ms.length := by omega
  have ha := List.all_eq_true.1 h.2 _ (List.getElem_mem h0)
  unfold methOk at ha
  simp only [Bool.and_eq_true] at ha
  have a1 := inR_true.1 ha.1.1.1
  have a2 := inR_true.1 ha.1.1.2
  have e : temps0 ms = (ms[0].2.1).toNat := by simp [temps0, h0]
  exact ⟨h0, by omega, by omega, by rw [e]; omega, by rw [e]; omega⟩
theorem OwnHeap.none (B : Nat) (w : World) : OwnHeap B w (.slice none 0 0) (.slice none 0 0) ⟨[], 0, 0, [], 0⟩ (fun _ => (.slice none 0 0, .slice none 0 0)) :=
  ⟨⟨.inl ⟨rfl, rfl⟩, fun i hi => absurd hi (Nat.not_lt_zero _), fun q hq => by simp at hq⟩, PairRow.nil _ _, fun g e => by simp [Value.ownBlock] at e⟩
theorem own_one {B gc gt n c : Nat} {w : World} {ty : TypeId} {m pc s : Int} {d : Bool} {ts : List (Int × Int)} (hB : B ≤ gc) (hne : gt ≠ gc) (ht : PairRow B w (.slice (some ⟨gt, 0, none⟩) n c) ts)
    (hrow : w.rowIs gc ty 6 (six (.int .i64 m) (.int .i64 pc) (.slice (some ⟨gt, 0, none⟩) n c) (.slice none 0 0) (.int .i64 s) (.bool d))) :
    OwnHeap B w (.slice (some ⟨gc, 0, none⟩) 1 1) (.slice none 0 0) ⟨[⟨m, pc, ts, [], s, d⟩], 0, 1, [], 0⟩ (fun _ => (.slice (some ⟨gt, 0, none⟩) n c, .slice none 0 0)) := by
  obtain ⟨⟨q0, q1, q2, q3, q4, q5⟩, k0, k1, k2, k3, k4, k5⟩ := six_cells hrow
  have hap : ∀ q, q < 2 → ∀ g, (lst (fun _ => (Value.slice (some ⟨gt, 0, none⟩) n c, Value.slice none 0 0)) q).ownBlock = some g → q = 0 ∧ g = gt := by
    intro q hq g e
    unfold lst at e
    split at e
    · simp [Value.ownBlock] at e
      omega
    · simp [Value.ownBlock] at e
  refine ⟨⟨.inr ⟨gc, 0, 1, rfl, hB, hrow.lt, Nat.le_refl _, by unfold maxLen; omega, fun i hi => ?_, fun i hi => ?_⟩, fun i hi => ?_, fun q hq g e => ?_⟩, PairRow.nil _ _, fun g e => by simp [Value.ownBlock] at e⟩
  · have h6 : i = 0 ∨ i = 1 ∨ i = 2 ∨ i = 3 ∨ i = 4 ∨ i = 5 := by omega
    rcases h6 with rfl | rfl | rfl | rfl | rfl | rfl
    · exact ⟨by rw [q0]; rfl, k0⟩
    · exact ⟨by rw [q1]; rfl, k1⟩
    · exact ⟨by rw [q2]; rfl, k2⟩
    · exact ⟨by rw [q3]; rfl, k3⟩
    · exact ⟨by rw [q4]; rfl, k4⟩
    · exact ⟨by rw [q5]; rfl, k5⟩
  · obtain rfl : i = 0 := by simpa using hi
    exact ⟨q0, q1, q2, q3, q4, q5⟩
  · obtain rfl : i = 0 := by simpa using hi
    exact ⟨ht, PairRow.nil _ _⟩
  · obtain ⟨rfl, rfl⟩ := hap q (by simpa using hq) g e
    refine ⟨fun e2 => by simp [Value.ownBlock] at e2; omega, fun q' hq' hne' e2 => ?_⟩
    exact hne' (hap q' (by simpa using hq') g e2).1
theorem made_pairs {B : Nat} (w : World) (t : Nat) (ty : TypeId) (hB : B ≤ w.heap.size) (ht : t ≤ 1000) : PairRow B (w.alloc (.cells (madeCells #[.int .i64 0, .int .i64 0] (t * 2)) ty)) (.slice (some ⟨w.heap.size, 0, none⟩) t t) (List.replicate t (0, 0)) := by
  have h := ops_row_start w (t * 2) ty []
  refine .inr ⟨w.heap.size, 0, t, by simp, hB, h.lt, by simp, by unfold maxLen; omega, fun i hi => ?_, fun i hi => ?_⟩
  · rw [Nat.zero_add]
    exact ⟨by rw [h.cell hi]; rfl, h.frozen i⟩
  · simp at hi
    rw [Nat.zero_add]
    have h1 := h.cell (i := i * 2) (by omega)
    have h2 := h.cell (i := i * 2 + 1) (by omega)
    simp only [List.getElem_replicate]
    rw [h1, h2, if_neg (by omega), if_neg (by omega)]
    exact ⟨rfl, rfl⟩
set_option maxRecDepth 100000 in
set_option maxHeartbeats 2000000 in
theorem implHeapNew_any (vp : Value) (ms : List (Int × Int × List (Int × Int))) (w : World) (h : MethsAt w vp ms) :
    Calls Tryz.prog 17 #[.agg #[vp]] w fun e w' => Below w.heap.size w w' ∧ ∃ vc vs V, e = .returned (.tuple #[.agg (hpCells vc vs (newHp ms)), .bool (progOk ms)]) ∧ OwnHeap w.heap.size w' vc vs (newHp ms) V := by
  obtain ⟨a, cap, rfl, hl, hc⟩ := id h
  have hA : Below w.heap.size w ((w.alloc (.cells #[.slice a ms.length cap] 25)).alloc (.cells #[.slice none 0 0, .int .i64 0, .int .i64 0, .slice none 0 0, .int .i64 0] 29)) := ((Below.refl _ _).alloc (Nat.le_refl _) _).alloc (by simp) _
  have bp : ((w.alloc (.cells #[.slice a ms.length cap] 25)).alloc (.cells #[.slice none 0 0, .int .i64 0, .int .i64 0, .slice none 0 0, .int .i64 0] 29)).cell? ⟨w.heap.size, 0, none⟩ = some (.slice a ms.length cap) := by simp [go_sem]
  have bh := five_new (w.alloc (.cells #[.slice a ms.length cap] 25)) 29 (.slice none 0 0) (.int .i64 0) (.int .i64 0) (.slice none 0 0) (.int .i64 0)
  simp only [World.size_alloc] at bh
  go_enter Tryz.func17, Tryz.ntmps17
  go_wp2_with fail
  generalize (w.alloc (.cells #[.slice a ms.length cap] 25)).alloc (.cells #[.slice none 0 0, .int .i64 0, .int .i64 0, .slice none 0 0, .int .i64 0] 29) = W0 at *
  have z0 := hA.size
  refine (implProgOk_any _ ms _ (h.below hA)).mono ?_
  rintro e w1 ⟨rfl, hb1⟩
  have B1 : Below w.heap.size w w1 := hA.trans (hb1.mono z0)
  have bp1 := cell_below hb1 bp
  have bh1 := row_below hb1 bh
  have z1 := B1.size
  clear hb1 bp bh hA z0
  obtain ⟨⟨x0, x1, x2, x3, x4⟩, ⟨f0, f1, f2, f3, f4⟩⟩ := five_cells bh1
  by_cases hpf : progOk ms = false
  · have hN : Hid (newHp ms = ⟨[], 0, 0, [], 0⟩) := by show newHp ms = _; simp [newHp, hpf]
    have R9 := five_set4 (five_set3 (five_set2 (five_set1 (five_set0 bh1 (.slice none 0 0)) (.int .i64 0)) (.int .i64 0)) (.slice none 0 0)) (.int .i64 0)
    have B9 := ((((B1.setCell (p := ⟨w.heap.size + 1, 0, none⟩) (Nat.le_succ _) (.slice none 0 0)).setCell (p := ⟨w.heap.size + 1, 1, none⟩) (Nat.le_succ _) (.int .i64 0)).setCell (p := ⟨w.heap.size + 1, 2, none⟩) (Nat.le_succ _) (.int .i64 0)).setCell (p := ⟨w.heap.size + 1, 3, none⟩) (Nat.le_succ _) (.slice none 0 0)).setCell (p := ⟨w.heap.size + 1, 4, none⟩) (Nat.le_succ _) (.int .i64 0)
    go_wp2
    generalize ((((w1.setCell ⟨w.heap.size + 1, 0, none⟩ (.slice none 0 0)).setCell ⟨w.heap.size + 1, 1, none⟩ (.int .i64 0)).setCell ⟨w.heap.size + 1, 2, none⟩ (.int .i64 0)).setCell ⟨w.heap.size + 1, 3, none⟩ (.slice none 0 0)).setCell ⟨w.heap.size + 1, 4, none⟩ (.int .i64 0) = W9 at *
    obtain ⟨⟨q0, q1, q2, q3, q4⟩, _⟩ := five_cells R9
    exact bodyPost_ret (v := .tuple #[.agg #[.slice none 0 0, .int .i64 0, .int .i64 0, .slice none 0 0, .int .i64 0], .bool false]) (by simp [results, Tryz.results17, go_sem, q0, q1, q2, q3, q4]) rfl ⟨B9, .slice none 0 0, .slice none 0 0, fun _ => (.slice none 0 0, .slice none 0 0), by rw [hN.out, hpf]; rfl, by rw [hN.out]; exact OwnHeap.none _ _⟩
  have hp : progOk ms = true := by simpa using hpf
  clear hpf
  obtain ⟨hl0, ht0, ht4, hte, htn⟩ := first_ok hp
  obtain ⟨b, o, vo, rfl, d0, d1, d2, _⟩ := hc 0 hl0
  have e1 := cell_below (B1.mono (Nat.le_refl _)) d1
  generalize hTe : temps0 ms = t at *
  have HT : Hid (temps0 ms = t) := hTe
  clear hTe
  generalize ms[0].2.1 = tz at *
  subst hte
  obtain ⟨i0, hi, hz0, hz1, hz2⟩ := info_parts Tryz.infoVal
  have hmk : ∀ w : World, (Instr.makeSlice 27 (.int .i64 (t : Int)) (.int .i64 (t : Int))).run Tryz.prog w = .ok (.slice (some ⟨w.heap.size, 0, none⟩) t t) (w.alloc (.cells (madeCells #[.int .i64 0, .int .i64 0] (t * 2)) 51)) := by
    intro w
    have := run_make (P := Tryz.prog) w 27 51 i0 _ Tryz.underlying27 hi hz0 .i64 .i64 t t (by omega) (Int.le_refl _) (by rw [hz2]; omega) (by omega)
    simpa [hz1, Value.cells] using this
  clear hi hz0 hz1 hz2
  have HN : Hid (newHp ms = ⟨[⟨0, 0, List.replicate t (0, 0), [], -1, false⟩], 0, 1, [], 0⟩) := by rw [← HT.out]; show newHp ms = _; unfold newHp; rw [if_pos hp]
  have N3 : ∀ o1 o2 o3, Below w1.heap.size w1 (((w1.alloc o1).alloc o2).alloc o3) := fun o1 o2 o3 => (((Below.refl _ _).alloc (Nat.le_refl _) _).alloc (by simp) _).alloc (by simp; omega) _
  have R3 : ∀ o1 o2 o3, (((w1.alloc o1).alloc o2).alloc o3).rowIs (w.heap.size + 1) 29 5 (five (.slice none 0 0) (.int .i64 0) (.int .i64 0) (.slice none 0 0) (.int .i64 0)) := fun o1 o2 o3 => row_below (N3 o1 o2 o3) bh1
  have x0' := fun o1 o2 o3 => (five_cells (R3 o1 o2 o3)).1.1
  have x1' := fun o1 o2 o3 => (five_cells (R3 o1 o2 o3)).1.2.1
  have x2' := fun o1 o2 o3 => (five_cells (R3 o1 o2 o3)).1.2.2.1
  have x3' := fun o1 o2 o3 => (five_cells (R3 o1 o2 o3)).1.2.2.2.1
  have x4' := fun o1 o2 o3 => (five_cells (R3 o1 o2 o3)).1.2.2.2.2
  have f0' := fun o1 o2 o3 => (five_cells (R3 o1 o2 o3)).2.1
  have f1' := fun o1 o2 o3 => (five_cells (R3 o1 o2 o3)).2.2.1
  have f2' := fun o1 o2 o3 => (five_cells (R3 o1 o2 o3)).2.2.2.1
  have f3' := fun o1 o2 o3 => (five_cells (R3 o1 o2 o3)).2.2.2.2.1
  have f4' := fun o1 o2 o3 => (five_cells (R3 o1 o2 o3)).2.2.2.2.2
  have hr3 : Hid _ := R3
  clear R3 x0 x1 x2 x3 x4 f0 f1 f2 f3 f4
  go_wp2_with fail
  have hbz := bh1.lt
  have R3 := hr3.out (.cells (madeCells #[.int .i64 0, .int .i64 0] (t * 2)) 51) (.cells #[.int .i64 0, .int .i64 0, .slice (some ⟨w1.heap.size, 0, none⟩) t t, .slice none 0 0, .int .i64 (-1), .bool false] 56) (.cells #[.int .i64 0, .int .i64 0, .slice (some ⟨w1.heap.size, 0, none⟩) t t, .slice none 0 0, .int .i64 (-1), .bool false] 56)
  have P3 := ((made_pairs (B := w.heap.size) w1 t 51 z1 (by omega)).below ((Below.refl _ _).alloc (Nat.le_refl _) (.cells #[.int .i64 0, .int .i64 0, .slice (some ⟨w1.heap.size, 0, none⟩) t t, .slice none 0 0, .int .i64 (-1), .bool false] 56))).below ((Below.refl _ _).alloc (Nat.le_refl _) (.cells #[.int .i64 0, .int .i64 0, .slice (some ⟨w1.heap.size, 0, none⟩) t t, .slice none 0 0, .int .i64 (-1), .bool false] 56))
  have S3 := six_new ((w1.alloc (.cells (madeCells #[.int .i64 0, .int .i64 0] (t * 2)) 51)).alloc (.cells #[.int .i64 0, .int .i64 0, .slice (some ⟨w1.heap.size, 0, none⟩) t t, .slice none 0 0, .int .i64 (-1), .bool false] 56)) 56 (.int .i64 0) (.int .i64 0) (.slice (some ⟨w1.heap.size, 0, none⟩) t t) (.slice none 0 0) (.int .i64 (-1)) (.bool false)
  simp only [World.size_alloc] at S3
  have B3 := B1.trans ((N3 (.cells (madeCells #[.int .i64 0, .int .i64 0] (t * 2)) 51) (.cells #[.int .i64 0, .int .i64 0, .slice (some ⟨w1.heap.size, 0, none⟩) t t, .slice none 0 0, .int .i64 (-1), .bool false] 56) (.cells #[.int .i64 0, .int .i64 0, .slice (some ⟨w1.heap.size, 0, none⟩) t t, .slice none 0 0, .int .i64 (-1), .bool false] 56)).mono z1)
  clear x0' x1' x2' x3' x4' f0' f1' f2' f3' f4' hr3 hmk N3
  generalize ((w1.alloc (.cells (madeCells #[.int .i64 0, .int .i64 0] (t * 2)) 51)).alloc (.cells #[.int .i64 0, .int .i64 0, .slice (some ⟨w1.heap.size, 0, none⟩) t t, .slice none 0 0, .int .i64 (-1), .bool false] 56)).alloc (.cells #[.int .i64 0, .int .i64 0, .slice (some ⟨w1.heap.size, 0, none⟩) t t, .slice none 0 0, .int .i64 (-1), .bool false] 56) = W3 at *
  have hne : (Value.slice (some ⟨w1.heap.size, 0, none⟩) t t).ownBlock ≠ some (w.heap.size + 1) := fun e => by simp [Value.ownBlock] at e; omega
  have R9 := five_set4 (five_set3 (five_set2 (five_set1 (five_set0 R3 (.slice (some ⟨w1.heap.size + 1 + 1, 0, none⟩) 1 1)) (.int .i64 0)) (.int .i64 1)) (.slice none 0 0)) (.int .i64 0)
  have B9 := ((((B3.setCell (p := ⟨w.heap.size + 1, 0, none⟩) (Nat.le_succ _) (.slice (some ⟨w1.heap.size + 1 + 1, 0, none⟩) 1 1)).setCell (p := ⟨w.heap.size + 1, 1, none⟩) (Nat.le_succ _) (.int .i64 0)).setCell (p := ⟨w.heap.size + 1, 2, none⟩) (Nat.le_succ _) (.int .i64 1)).setCell (p := ⟨w.heap.size + 1, 3, none⟩) (Nat.le_succ _) (.slice none 0 0)).setCell (p := ⟨w.heap.size + 1, 4, none⟩) (Nat.le_succ _) (.int .i64 0)
  have P9 := ((((P3.set_other (p := ⟨w.heap.size + 1, 0, none⟩) (.slice (some ⟨w1.heap.size + 1 + 1, 0, none⟩) 1 1) hne).set_other (p := ⟨w.heap.size + 1, 1, none⟩) (.int .i64 0) hne).set_other (p := ⟨w.heap.size + 1, 2, none⟩) (.int .i64 1) hne).set_other (p := ⟨w.heap.size + 1, 3, none⟩) (.slice none 0 0) hne).set_other (p := ⟨w.heap.size + 1, 4, none⟩) (.int .i64 0) hne
  have S9 := row_set (k := w.heap.size + 1) (o := 4) (row_set (k := w.heap.size + 1) (o := 3) (row_set (k := w.heap.size + 1) (o := 2) (row_set (k := w.heap.size + 1) (o := 1) (row_set (k := w.heap.size + 1) (o := 0) S3 (by omega) (.slice (some ⟨w1.heap.size + 1 + 1, 0, none⟩) 1 1)) (by omega) (.int .i64 0)) (by omega) (.int .i64 1)) (by omega) (.slice none 0 0)) (by omega) (.int .i64 0)
  generalize ((((W3.setCell ⟨w.heap.size + 1, 0, none⟩ (.slice (some ⟨w1.heap.size + 1 + 1, 0, none⟩) 1 1)).setCell ⟨w.heap.size + 1, 1, none⟩ (.int .i64 0)).setCell ⟨w.heap.size + 1, 2, none⟩ (.int .i64 1)).setCell ⟨w.heap.size + 1, 3, none⟩ (.slice none 0 0)).setCell ⟨w.heap.size + 1, 4, none⟩ (.int .i64 0) = W9 at *
  obtain ⟨⟨q0, q1, q2, q3, q4⟩, _⟩ := five_cells R9
  have O9 := own_one (B := w.heap.size) (by omega) (by omega) P9 S9
  exact bodyPost_ret (v := .tuple #[.agg #[.slice (some ⟨w1.heap.size + 1 + 1, 0, none⟩) 1 1, .int .i64 0, .int .i64 1, .slice none 0 0, .int .i64 0], .bool true]) (by simp [results, Tryz.results17, go_sem, q0, q1, q2, q3, q4]) rfl ⟨B9, _, _, _, by rw [HN.out, hp]; rfl, by rw [HN.out]; exact O9⟩
end Go.Proofs.YtfpodljalccpnaaGreatDoor

/-
  The program's step, its parts: the kinds of what is taken, what is taken.
-/
namespace Go.Proofs.YtfpodljalccpnaaGreatDoor
open Go.RowKit
set_option maxRecDepth 100000 in
set_option maxHeartbeats 4000000 in
theorem kindsFit_any (k a : Int) (va : Value) (args : List (Int × Int)) (w : World) (hM : OpsAt w va args) (h5 : k = 5 → args.length = 2) (h1 : k = 12 ∨ k = 13 ∨ k = 14 ∨ k = 15 ∨ k = 17 ∨ k = 18 → 1 ≤ args.length) :
    Calls Tryz.prog 121 #[.agg #[.int .i64 k, .int .i64 a], va] w fun e w' => e = .returned (.bool (kindsOk k args)) ∧ Below w.heap.size w w' := by
  obtain ⟨aa, ca, rfl, hal, hc⟩ := hM
  have hA : Below w.heap.size w (w.alloc (.cells #[.int .i64 k, .int .i64 a] 49)) := (Below.refl _ _).alloc (Nat.le_refl _) _
  have ro := two_new w 49 (.int .i64 k) (.int .i64 a)
  by_cases e5 : k = 5
  · subst e5
    have hl := h5 rfl
    obtain ⟨b, o, rfl, p0, p1⟩ := hc 0 (by omega)
    obtain ⟨b', o', hbo, q0, q1⟩ := hc 1 (by omega)
    obtain ⟨rfl, rfl⟩ : b = b' ∧ o = o' := by injection hbo with e; injection e with e1 e2; exact ⟨e1, e2⟩
    have hz0 : (0 : Int) < (args.length : Int) := by omega
    have hz1 : (1 : Int) < (args.length : Int) := by omega
    have HK : Hid (kindsOk 5 args = ((args[0]'(by omega)).1 == 1 && (args[1]'(by omega)).1 == 1)) := by
      show _ = _
      unfold kindsOk
      rw [if_pos rfl, getD_at (by omega), getD_at (by omega)]
    have p0A := cell_below hA p0
    have q0A := cell_below hA q0
    simp only [Nat.zero_mul, Nat.add_zero, Nat.one_mul] at p0A q0A
    go_enter Tryz.func121, Tryz.ntmps121
    go_upto_region 1 with fail
    generalize w.alloc (.cells #[.int .i64 5, .int .i64 a] 49) = W at *
    obtain ⟨⟨o0, o1⟩, _⟩ := two_cells ro
    generalize hx : args[0].1 = X at *
    generalize hy : args[1].1 = Y at *
    by_cases ex : X = 1
    · subst ex
      go_wp2
      go_ret
      exact ⟨by rw [HK.out]; simp, hA⟩
    · have ex' : (X == 1) = false := beq_eq_false_iff_ne.2 ex
      go_wp2
      go_ret
      exact ⟨by rw [HK.out, ex']; simp, hA⟩
  have e5' : (k == 5) = false := beq_eq_false_iff_ne.2 e5
  by_cases ek : k = 12 ∨ k = 13 ∨ k = 14 ∨ k = 15 ∨ k = 17 ∨ k = 18
  · have hl := h1 ek
    obtain ⟨b, o, rfl, p0, p1⟩ := hc 0 (by omega)
    have hz0 : (0 : Int) < (args.length : Int) := by omega
    have HK : Hid (kindsOk k args = ((args[0]'(by omega)).1 == 2)) := by
      show _ = _
      unfold kindsOk
      rw [if_neg e5, if_pos ek, getD_at (by omega)]
    have p0A := cell_below hA p0
    simp only [Nat.zero_mul, Nat.add_zero] at p0A
    generalize args[0].1 = X at *
    rcases ek with e | e | e | e | e | e
    all_goals
      subst e
      go_enter Tryz.func121, Tryz.ntmps121
      go_upto_region 1 with fail
      generalize w.alloc _ = W at *
      obtain ⟨⟨o0, o1⟩, _⟩ := two_cells ro
      go_wp2
      go_ret
      exact ⟨by rw [HK.out]; rfl, hA⟩
  · have HK : Hid (kindsOk k args = true) := by
      show _ = _
      unfold kindsOk
      rw [if_neg e5, if_neg ek]
    have n12 : (k == 12) = false := beq_eq_false_iff_ne.2 (by omega)
    have n13 : (k == 13) = false := beq_eq_false_iff_ne.2 (by omega)
    have n14 : (k == 14) = false := beq_eq_false_iff_ne.2 (by omega)
    have n15 : (k == 15) = false := beq_eq_false_iff_ne.2 (by omega)
    have n17 : (k == 17) = false := beq_eq_false_iff_ne.2 (by omega)
    have n18 : (k == 18) = false := beq_eq_false_iff_ne.2 (by omega)
    clear e5 ek
    go_enter Tryz.func121, Tryz.ntmps121
    go_upto_region 1 with fail
    generalize w.alloc _ = W at *
    obtain ⟨⟨o0, o1⟩, _⟩ := two_cells ro
    go_wp2
    go_ret
    exact ⟨by rw [HK.out]; rfl, hA⟩
theorem takes_kinds {ms : Ms} {kk a t l : Int} (e : takesOf ms kk a = (t, l)) {DR : List (Int × Int)} (hd : (DR.length : Int) = t) : (kk = 5 → DR.length = 2) ∧ (kk = 12 ∨ kk = 13 ∨ kk = 14 ∨ kk = 15 ∨ kk = 17 ∨ kk = 18 → 1 ≤ DR.length) := by
  refine ⟨fun q => ?_, fun q => ?_⟩
  · subst q
    rw [takes_num (by decide)] at e
    injection e with e1 e2
    have : tk 5 = 2 := rfl
    omega
  · rw [takes_num (by omega)] at e
    injection e with e1 e2
    have : 1 ≤ tk kk := by
      rcases q with q | q | q | q | q | q <;> subst q <;> decide
    omega
end Go.Proofs.YtfpodljalccpnaaGreatDoor

/-
  What is seen of a heap, by the program: renumbered.
-/
namespace Go.Proofs.YtfpodljalccpnaaGreatDoor
open Go.RowKit
end Go.Proofs.YtfpodljalccpnaaGreatDoor

/-
  What is seen of a heap, by the model: l11Found answers the calls that can be come to.
-/
namespace Go.Proofs.YtfpodljalccpnaaGreatDoor
open Go.RowKit
theorem PsOk.nil (n : Nat) : PsOk n [] := ⟨by simp, fun p hp => by cases hp⟩
end Go.Proofs.YtfpodljalccpnaaGreatDoor

/-
  What is seen of a heap, by the model: HeapView.
-/
namespace Go.Proofs.YtfpodljalccpnaaGreatDoor
open Go.RowKit
theorem CallsAt.cl {w : World} {a : Option Addr} {n c : Nat} {cs : List Cl} (h : CallsAt w (.slice a n c) cs) {p : Nat} (hp : p < cs.length) : ∃ b o vt vs, a = some ⟨b, o, none⟩ ∧ ClAt w b (o + p * 6) vt vs cs[p] := by
  obtain ⟨a', c', e, _, hc⟩ := h
  obtain ⟨b, o, vt, vs, rfl, hx⟩ := hc p hp
  injection e with e1 e2 e3
  exact ⟨b, o, vt, vs, e1, hx⟩
end Go.Proofs.YtfpodljalccpnaaGreatDoor

/-
  Plain facts of the heap that a program begins with: it is ok, one deep, and seen as it is.
-/
namespace Go.Proofs.YtfpodljalccpnaaGreatDoor
open Go.RowKit
theorem newHp_yes {ms : List (Int × Int × List (Int × Int))} (h : progOk ms = true) : newHp ms = ⟨[⟨0, 0, List.replicate (temps0 ms) (0, 0), [], -1, false⟩], 0, 1, [], 0⟩ := if_pos h
theorem vals_zero (n : Int) (k : Nat) : valsOk n (List.replicate k (0, 0)) = true := by
  refine valsOk_yes fun i hi => ?_
  simp [valOk]
theorem newHp_ok {ms : List (Int × Int × List (Int × Int))} (h : progOk ms = true) : heapOk ms (newHp ms) = true := by
  obtain ⟨hl, h0, h4, ht, _⟩ := first_ok h
  have hg : ms.getD 0 (0, 0, []) = ms[0] := by simp [hl]
  rw [newHp_yes h]
  have hv := vals_zero 1 (temps0 ms)
  have hz : valsOk 1 [] = true := rfl
  have hz2 : valsOk (ms.length : Int) [] = true := rfl
  have hm : inR 0 0 ((ms.length : Int) - 1) = true := inR_true.2 ⟨by omega, by omega⟩
  have hpc : inR 0 0 (ms[0].2.2.length : Int) = true := inR_true.2 ⟨by omega, by omega⟩
  have hc : clOk ms 1 ⟨0, 0, List.replicate (temps0 ms) (0, 0), [], -1, false⟩ = true := by
    have a2 : inR (-1) (-1) 0 = true := by decide
    have hg2 : ms[0]? = some ms[0] := List.getElem?_eq_getElem hl
    simp [clOk, hg2, ht, hm, hpc, hv, hz, a2]
  have he : endOk ⟨[⟨0, 0, List.replicate (temps0 ms) (0, 0), [], -1, false⟩], 0, 1, [], 0⟩ = true := by
    simp [endOk, chainOf, walkC, liveN, roomP]
  have hd : headOk ms ⟨[⟨0, 0, List.replicate (temps0 ms) (0, 0), [], -1, false⟩], 0, 1, [], 0⟩ = true := by
    have a1 : inR 0 (-1) (1 - 1) = true := by decide
    have a2 : inR 1 1 30 = true := by decide
    have a3 : inR 0 0 3 = true := by decide
    simp [headOk, h, hz2, a2, a3]
    exact a1
  simp only [heapOk, hd, he, List.all_cons, List.all_nil, List.length_cons, List.length_nil, Nat.zero_add, hc, Bool.and_self]
end Go.Proofs.YtfpodljalccpnaaGreatDoor
