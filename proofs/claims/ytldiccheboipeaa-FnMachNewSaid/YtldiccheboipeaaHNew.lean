/-
  HeapNew of the program: the first call of a program that is ok, in memory of its own; else nothing.
-/
import Derived.Test.YtldiccheboipeaaSpecOk2
import Derived.Test.YtldiccheboipeaaVals
import Derived.Test.YtldiccheboipeaaCallRow
import Derived.Test.YtldiccheboipeaaHImpl4
import Derived.Deep.DeepCutAuto
import Derived.Deep.RegionHeld3

namespace Go.Proofs.Ytldiccheboipeaa
open Go.RowKit
def temps0 (ms : List (Int × Int × List (Int × Int))) : Nat := (ms.getD 0 (0, 0, [])).2.1.toNat
def newHp (ms : List (Int × Int × List (Int × Int))) : Hp :=
  if progOk ms = true then ⟨[⟨0, 0, List.replicate (temps0 ms) (0, 0), [], -1, false⟩], 0, 1, [], 0⟩ else ⟨[], 0, 0, [], 0⟩
theorem first_ok {ms : List (Int × Int × List (Int × Int))} (h : progOk ms = true) : ∃ hl : 0 < ms.length, 0 ≤ ms[0].2.1 ∧ ms[0].2.1 ≤ 4 ∧ (temps0 ms : Int) = ms[0].2.1 ∧ temps0 ms ≤ 4 := by
  unfold progOk at h
  simp only [Bool.and_eq_true] at h
  have hl := inR_true.1 h.1.1
  have h0 : 0 < ms.length := by omega
  have ha := List.all_eq_true.1 h.2 _ (List.getElem_mem h0)
  unfold methOk at ha
  simp only [Bool.and_eq_true] at ha
  have a1 := inR_true.1 ha.1.1.1
  have a2 := inR_true.1 ha.1.1.2
  have e : temps0 ms = (ms[0].2.1).toNat := by simp [temps0, h0]
  exact ⟨h0, by omega, by omega, by rw [e]; omega, by rw [e]; omega⟩
theorem OwnHeap.none (B : Nat) (w : World) : OwnHeap B w (.slice none 0 0) (.slice none 0 0) ⟨[], 0, 0, [], 0⟩ (fun _ => (.slice none 0 0, .slice none 0 0)) :=
  ⟨⟨.inl ⟨rfl, rfl⟩, fun i hi => absurd hi (Nat.not_lt_zero _), fun q hq => by simp at hq⟩, PairRow.nil _ _, fun g e => by simp [Value.ownBlock] at e⟩
theorem own_one {B gc gt n c : Nat} {w : World} {ty : TypeId} {m pc s : Int} {d : Bool} {ts : List (Int × Int)} (hB : B ≤ gc) (hne : gt ≠ gc) (ht : PairRow B w (.slice (some ⟨gt, 0, none⟩) n c) ts)
    (hrow : w.rowIs gc ty 6 (six (.int .i64 m) (.int .i64 pc) (.slice (some ⟨gt, 0, none⟩) n c) (.slice none 0 0) (.int .i64 s) (.bool d))) :
    OwnHeap B w (.slice (some ⟨gc, 0, none⟩) 1 1) (.slice none 0 0) ⟨[⟨m, pc, ts, [], s, d⟩], 0, 1, [], 0⟩ (fun _ => (.slice (some ⟨gt, 0, none⟩) n c, .slice none 0 0)) := by
  obtain ⟨⟨q0, q1, q2, q3, q4, q5⟩, k0, k1, k2, k3, k4, k5⟩ := six_cells hrow
  have hap : ∀ q, q < 2 → ∀ g, (lst (fun _ => (Value.slice (some ⟨gt, 0, none⟩) n c, Value.slice none 0 0)) q).ownBlock = some g → q = 0 ∧ g = gt := by
    intro q hq g e
    unfold lst at e
    split at e
    · simp [Value.ownBlock] at e
      omega
    · simp [Value.ownBlock] at e
  refine ⟨⟨.inr ⟨gc, 0, 1, rfl, hB, hrow.lt, Nat.le_refl _, by unfold maxLen; omega, fun i hi => ?_, fun i hi => ?_⟩, fun i hi => ?_, fun q hq g e => ?_⟩, PairRow.nil _ _, fun g e => by simp [Value.ownBlock] at e⟩
  · have h6 : i = 0 ∨ i = 1 ∨ i = 2 ∨ i = 3 ∨ i = 4 ∨ i = 5 := by omega
    rcases h6 with rfl | rfl | rfl | rfl | rfl | rfl
    · exact ⟨by rw [q0]; rfl, k0⟩
    · exact ⟨by rw [q1]; rfl, k1⟩
    · exact ⟨by rw [q2]; rfl, k2⟩
    · exact ⟨by rw [q3]; rfl, k3⟩
    · exact ⟨by rw [q4]; rfl, k4⟩
    · exact ⟨by rw [q5]; rfl, k5⟩
  · obtain rfl : i = 0 := by simpa using hi
    exact ⟨q0, q1, q2, q3, q4, q5⟩
  · obtain rfl : i = 0 := by simpa using hi
    exact ⟨ht, PairRow.nil _ _⟩
  · obtain ⟨rfl, rfl⟩ := hap q (by simpa using hq) g e
    refine ⟨fun e2 => by simp [Value.ownBlock] at e2; omega, fun q' hq' hne' e2 => ?_⟩
    exact hne' (hap q' (by simpa using hq') g e2).1
theorem made_pairs {B : Nat} (w : World) (t : Nat) (ty : TypeId) (hB : B ≤ w.heap.size) (ht : t ≤ 1000) : PairRow B (w.alloc (.cells (madeCells #[.int .i64 0, .int .i64 0] (t * 2)) ty)) (.slice (some ⟨w.heap.size, 0, none⟩) t t) (List.replicate t (0, 0)) := by
  have h := ops_row_start w (t * 2) ty []
  refine .inr ⟨w.heap.size, 0, t, by simp, hB, h.lt, by simp, by unfold maxLen; omega, fun i hi => ?_, fun i hi => ?_⟩
  · rw [Nat.zero_add]
    exact ⟨by rw [h.cell hi]; rfl, h.frozen i⟩
  · simp at hi
    rw [Nat.zero_add]
    have h1 := h.cell (i := i * 2) (by omega)
    have h2 := h.cell (i := i * 2 + 1) (by omega)
    simp only [List.getElem_replicate]
    rw [h1, h2, if_neg (by omega), if_neg (by omega)]
    exact ⟨rfl, rfl⟩
set_option maxRecDepth 100000 in
set_option maxHeartbeats 2000000 in
theorem implHeapNew_any (vp : Value) (ms : List (Int × Int × List (Int × Int))) (w : World) (h : MethsAt w vp ms) :
    Calls Try.prog 11 #[.agg #[vp]] w fun e w' => Below w.heap.size w w' ∧ ∃ vc vs V, e = .returned (.tuple #[.agg (hpCells vc vs (newHp ms)), .bool (progOk ms)]) ∧ OwnHeap w.heap.size w' vc vs (newHp ms) V := by
  obtain ⟨a, cap, rfl, hl, hc⟩ := id h
  have hA : Below w.heap.size w ((w.alloc (.cells #[.slice a ms.length cap] 25)).alloc (.cells #[.slice none 0 0, .int .i64 0, .int .i64 0, .slice none 0 0, .int .i64 0] 39)) := ((Below.refl _ _).alloc (Nat.le_refl _) _).alloc (by simp) _
  have bp : ((w.alloc (.cells #[.slice a ms.length cap] 25)).alloc (.cells #[.slice none 0 0, .int .i64 0, .int .i64 0, .slice none 0 0, .int .i64 0] 39)).cell? ⟨w.heap.size, 0, none⟩ = some (.slice a ms.length cap) := by simp [go_sem]
  have bh := five_new (w.alloc (.cells #[.slice a ms.length cap] 25)) 39 (.slice none 0 0) (.int .i64 0) (.int .i64 0) (.slice none 0 0) (.int .i64 0)
  simp only [World.size_alloc] at bh
  go_enter Try.func11, Try.ntmps11
  go_wp2_with fail
  generalize (w.alloc (.cells #[.slice a ms.length cap] 25)).alloc (.cells #[.slice none 0 0, .int .i64 0, .int .i64 0, .slice none 0 0, .int .i64 0] 39) = W0 at *
  have z0 := hA.size
  refine (implProgOk_any _ ms _ (h.below hA)).mono ?_
  rintro e w1 ⟨rfl, hb1⟩
  have B1 : Below w.heap.size w w1 := hA.trans (hb1.mono z0)
  have bp1 := cell_below hb1 bp
  have bh1 := row_below hb1 bh
  have z1 := B1.size
  clear hb1 bp bh hA z0
  obtain ⟨⟨x0, x1, x2, x3, x4⟩, ⟨f0, f1, f2, f3, f4⟩⟩ := five_cells bh1
  by_cases hpf : progOk ms = false
  · have hN : Hid (newHp ms = ⟨[], 0, 0, [], 0⟩) := by show newHp ms = _; simp [newHp, hpf]
    have R9 := five_set4 (five_set3 (five_set2 (five_set1 (five_set0 bh1 (.slice none 0 0)) (.int .i64 0)) (.int .i64 0)) (.slice none 0 0)) (.int .i64 0)
    have B9 := ((((B1.setCell (p := ⟨w.heap.size + 1, 0, none⟩) (Nat.le_succ _) (.slice none 0 0)).setCell (p := ⟨w.heap.size + 1, 1, none⟩) (Nat.le_succ _) (.int .i64 0)).setCell (p := ⟨w.heap.size + 1, 2, none⟩) (Nat.le_succ _) (.int .i64 0)).setCell (p := ⟨w.heap.size + 1, 3, none⟩) (Nat.le_succ _) (.slice none 0 0)).setCell (p := ⟨w.heap.size + 1, 4, none⟩) (Nat.le_succ _) (.int .i64 0)
    go_wp2
    generalize ((((w1.setCell ⟨w.heap.size + 1, 0, none⟩ (.slice none 0 0)).setCell ⟨w.heap.size + 1, 1, none⟩ (.int .i64 0)).setCell ⟨w.heap.size + 1, 2, none⟩ (.int .i64 0)).setCell ⟨w.heap.size + 1, 3, none⟩ (.slice none 0 0)).setCell ⟨w.heap.size + 1, 4, none⟩ (.int .i64 0) = W9 at *
    obtain ⟨⟨q0, q1, q2, q3, q4⟩, _⟩ := five_cells R9
    exact bodyPost_ret (v := .tuple #[.agg #[.slice none 0 0, .int .i64 0, .int .i64 0, .slice none 0 0, .int .i64 0], .bool false]) (by simp [results, Try.results11, go_sem, q0, q1, q2, q3, q4]) rfl ⟨B9, .slice none 0 0, .slice none 0 0, fun _ => (.slice none 0 0, .slice none 0 0), by rw [hN.out, hpf]; rfl, by rw [hN.out]; exact OwnHeap.none _ _⟩
  have hp : progOk ms = true := by simpa using hpf
  clear hpf
  obtain ⟨hl0, ht0, ht4, hte, htn⟩ := first_ok hp
  obtain ⟨b, o, vo, rfl, d0, d1, d2, _⟩ := hc 0 hl0
  have e1 := cell_below (B1.mono (Nat.le_refl _)) d1
  generalize hTe : temps0 ms = t at *
  have HT : Hid (temps0 ms = t) := hTe
  clear hTe
  generalize ms[0].2.1 = tz at *
  subst hte
  obtain ⟨i0, hi, hz0, hz1, hz2⟩ := info_parts Try.infoVal
  have hmk : ∀ w : World, (Instr.makeSlice 31 (.int .i64 (t : Int)) (.int .i64 (t : Int))).run Try.prog w = .ok (.slice (some ⟨w.heap.size, 0, none⟩) t t) (w.alloc (.cells (madeCells #[.int .i64 0, .int .i64 0] (t * 2)) 130)) := by
    intro w
    have := run_make (P := Try.prog) w 31 130 i0 _ Try.underlying31 hi hz0 .i64 .i64 t t (by omega) (Int.le_refl _) (by rw [hz2]; omega) (by omega)
    simpa [hz1, Value.cells] using this
  clear hi hz0 hz1 hz2
  have HN : Hid (newHp ms = ⟨[⟨0, 0, List.replicate t (0, 0), [], -1, false⟩], 0, 1, [], 0⟩) := by rw [← HT.out]; show newHp ms = _; unfold newHp; rw [if_pos hp]
  have N3 : ∀ o1 o2 o3, Below w1.heap.size w1 (((w1.alloc o1).alloc o2).alloc o3) := fun o1 o2 o3 => (((Below.refl _ _).alloc (Nat.le_refl _) _).alloc (by simp) _).alloc (by simp; omega) _
  have R3 : ∀ o1 o2 o3, (((w1.alloc o1).alloc o2).alloc o3).rowIs (w.heap.size + 1) 39 5 (five (.slice none 0 0) (.int .i64 0) (.int .i64 0) (.slice none 0 0) (.int .i64 0)) := fun o1 o2 o3 => row_below (N3 o1 o2 o3) bh1
  have x0' := fun o1 o2 o3 => (five_cells (R3 o1 o2 o3)).1.1
  have x1' := fun o1 o2 o3 => (five_cells (R3 o1 o2 o3)).1.2.1
  have x2' := fun o1 o2 o3 => (five_cells (R3 o1 o2 o3)).1.2.2.1
  have x3' := fun o1 o2 o3 => (five_cells (R3 o1 o2 o3)).1.2.2.2.1
  have x4' := fun o1 o2 o3 => (five_cells (R3 o1 o2 o3)).1.2.2.2.2
  have f0' := fun o1 o2 o3 => (five_cells (R3 o1 o2 o3)).2.1
  have f1' := fun o1 o2 o3 => (five_cells (R3 o1 o2 o3)).2.2.1
  have f2' := fun o1 o2 o3 => (five_cells (R3 o1 o2 o3)).2.2.2.1
  have f3' := fun o1 o2 o3 => (five_cells (R3 o1 o2 o3)).2.2.2.2.1
  have f4' := fun o1 o2 o3 => (five_cells (R3 o1 o2 o3)).2.2.2.2.2
  have hr3 : Hid _ := R3
  clear R3 x0 x1 x2 x3 x4 f0 f1 f2 f3 f4
  go_wp2_with fail
  have hbz := bh1.lt
  have R3 := hr3.out (.cells (madeCells #[.int .i64 0, .int .i64 0] (t * 2)) 130) (.cells #[.int .i64 0, .int .i64 0, .slice (some ⟨w1.heap.size, 0, none⟩) t t, .slice none 0 0, .int .i64 (-1), .bool false] 88) (.cells #[.int .i64 0, .int .i64 0, .slice (some ⟨w1.heap.size, 0, none⟩) t t, .slice none 0 0, .int .i64 (-1), .bool false] 88)
  have P3 := ((made_pairs (B := w.heap.size) w1 t 130 z1 (by omega)).below ((Below.refl _ _).alloc (Nat.le_refl _) (.cells #[.int .i64 0, .int .i64 0, .slice (some ⟨w1.heap.size, 0, none⟩) t t, .slice none 0 0, .int .i64 (-1), .bool false] 88))).below ((Below.refl _ _).alloc (Nat.le_refl _) (.cells #[.int .i64 0, .int .i64 0, .slice (some ⟨w1.heap.size, 0, none⟩) t t, .slice none 0 0, .int .i64 (-1), .bool false] 88))
  have S3 := six_new ((w1.alloc (.cells (madeCells #[.int .i64 0, .int .i64 0] (t * 2)) 130)).alloc (.cells #[.int .i64 0, .int .i64 0, .slice (some ⟨w1.heap.size, 0, none⟩) t t, .slice none 0 0, .int .i64 (-1), .bool false] 88)) 88 (.int .i64 0) (.int .i64 0) (.slice (some ⟨w1.heap.size, 0, none⟩) t t) (.slice none 0 0) (.int .i64 (-1)) (.bool false)
  simp only [World.size_alloc] at S3
  have B3 := B1.trans ((N3 (.cells (madeCells #[.int .i64 0, .int .i64 0] (t * 2)) 130) (.cells #[.int .i64 0, .int .i64 0, .slice (some ⟨w1.heap.size, 0, none⟩) t t, .slice none 0 0, .int .i64 (-1), .bool false] 88) (.cells #[.int .i64 0, .int .i64 0, .slice (some ⟨w1.heap.size, 0, none⟩) t t, .slice none 0 0, .int .i64 (-1), .bool false] 88)).mono z1)
  clear x0' x1' x2' x3' x4' f0' f1' f2' f3' f4' hr3 hmk N3
  generalize ((w1.alloc (.cells (madeCells #[.int .i64 0, .int .i64 0] (t * 2)) 130)).alloc (.cells #[.int .i64 0, .int .i64 0, .slice (some ⟨w1.heap.size, 0, none⟩) t t, .slice none 0 0, .int .i64 (-1), .bool false] 88)).alloc (.cells #[.int .i64 0, .int .i64 0, .slice (some ⟨w1.heap.size, 0, none⟩) t t, .slice none 0 0, .int .i64 (-1), .bool false] 88) = W3 at *
  have hne : (Value.slice (some ⟨w1.heap.size, 0, none⟩) t t).ownBlock ≠ some (w.heap.size + 1) := fun e => by simp [Value.ownBlock] at e; omega
  have R9 := five_set4 (five_set3 (five_set2 (five_set1 (five_set0 R3 (.slice (some ⟨w1.heap.size + 1 + 1, 0, none⟩) 1 1)) (.int .i64 0)) (.int .i64 1)) (.slice none 0 0)) (.int .i64 0)
  have B9 := ((((B3.setCell (p := ⟨w.heap.size + 1, 0, none⟩) (Nat.le_succ _) (.slice (some ⟨w1.heap.size + 1 + 1, 0, none⟩) 1 1)).setCell (p := ⟨w.heap.size + 1, 1, none⟩) (Nat.le_succ _) (.int .i64 0)).setCell (p := ⟨w.heap.size + 1, 2, none⟩) (Nat.le_succ _) (.int .i64 1)).setCell (p := ⟨w.heap.size + 1, 3, none⟩) (Nat.le_succ _) (.slice none 0 0)).setCell (p := ⟨w.heap.size + 1, 4, none⟩) (Nat.le_succ _) (.int .i64 0)
  have P9 := ((((P3.set_other (p := ⟨w.heap.size + 1, 0, none⟩) (.slice (some ⟨w1.heap.size + 1 + 1, 0, none⟩) 1 1) hne).set_other (p := ⟨w.heap.size + 1, 1, none⟩) (.int .i64 0) hne).set_other (p := ⟨w.heap.size + 1, 2, none⟩) (.int .i64 1) hne).set_other (p := ⟨w.heap.size + 1, 3, none⟩) (.slice none 0 0) hne).set_other (p := ⟨w.heap.size + 1, 4, none⟩) (.int .i64 0) hne
  have S9 := row_set (k := w.heap.size + 1) (o := 4) (row_set (k := w.heap.size + 1) (o := 3) (row_set (k := w.heap.size + 1) (o := 2) (row_set (k := w.heap.size + 1) (o := 1) (row_set (k := w.heap.size + 1) (o := 0) S3 (by omega) (.slice (some ⟨w1.heap.size + 1 + 1, 0, none⟩) 1 1)) (by omega) (.int .i64 0)) (by omega) (.int .i64 1)) (by omega) (.slice none 0 0)) (by omega) (.int .i64 0)
  generalize ((((W3.setCell ⟨w.heap.size + 1, 0, none⟩ (.slice (some ⟨w1.heap.size + 1 + 1, 0, none⟩) 1 1)).setCell ⟨w.heap.size + 1, 1, none⟩ (.int .i64 0)).setCell ⟨w.heap.size + 1, 2, none⟩ (.int .i64 1)).setCell ⟨w.heap.size + 1, 3, none⟩ (.slice none 0 0)).setCell ⟨w.heap.size + 1, 4, none⟩ (.int .i64 0) = W9 at *
  obtain ⟨⟨q0, q1, q2, q3, q4⟩, _⟩ := five_cells R9
  have O9 := own_one (B := w.heap.size) (by omega) (by omega) P9 S9
  exact bodyPost_ret (v := .tuple #[.agg #[.slice (some ⟨w1.heap.size + 1 + 1, 0, none⟩) 1 1, .int .i64 0, .int .i64 1, .slice none 0 0, .int .i64 0], .bool true]) (by simp [results, Try.results11, go_sem, q0, q1, q2, q3, q4]) rfl ⟨B9, _, _, _, by rw [HN.out, hp]; rfl, by rw [HN.out]; exact O9⟩
end Go.Proofs.Ytldiccheboipeaa

/-
  Small pieces of the program's MachOk: where a number stands, how many calls there are, the order, what runs. (Written by mkmo.py.)
-/
namespace Go.Proofs.Ytldiccheboipeaa
open Go.RowKit
theorem ret_int {a b : Int} (h : a = b) : Ending.returned (.int .i64 a) = Ending.returned (.int .i64 b) := by rw [h]
def idxI (xs : List Int) (v : Int) : Int := match xs.findIdx? (fun x => x == v) with | some i => (i : Int) | none => -1
theorem idxI_found {xs : List Int} {v : Int} {k : Nat} (hk : k < xs.length) (he : xs[k] = v) (hno : ∀ j, (hj : j < xs.length) → j < k → xs[j] ≠ v) : idxI xs v = (k : Int) := by
  have : xs.findIdx? (fun x => x == v) = some k := by
    rw [List.findIdx?_eq_some_iff_getElem]
    exact ⟨hk, by simp [he], fun j hj => by simp [hno j (by omega) hj]⟩
  unfold idxI
  rw [this]
theorem idxI_none {xs : List Int} {v : Int} (hno : ∀ j, (hj : j < xs.length) → xs[j] ≠ v) : idxI xs v = -1 := by
  have : xs.findIdx? (fun x => x == v) = none := by
    rw [List.findIdx?_eq_none_iff]
    intro x hx
    obtain ⟨j, hj, rfl⟩ := List.getElem_of_mem hx
    simp [hno j hj]
  unfold idxI
  rw [this]
theorem idxI_mem {xs : List Int} {v : Int} : decide (0 ≤ idxI xs v) = decide (v ∈ xs) := by
  by_cases h : v ∈ xs
  · obtain ⟨j, hj, e⟩ := List.getElem_of_mem h
    have hs : (xs.findIdx? (fun x => x == v)).isSome = true := by
      rw [List.findIdx?_isSome]
      exact List.any_eq_true.2 ⟨v, h, by simp⟩
    obtain ⟨i, hi⟩ := Option.isSome_iff_exists.1 hs
    unfold idxI
    rw [hi]
    simp [h]
  · have := idxI_none (xs := xs) (v := v) (fun j hj e => h (e ▸ List.getElem_mem hj))
    rw [this]
    simp [h]
set_option maxRecDepth 100000 in
set_option maxHeartbeats 4000000 in
theorem slicesIndex_any (v : Value) (xs : List Int) (x : Int) (w : World) (h : IntsAt w v xs) :
    Calls Try.prog 127 #[v, .int .i64 x] w fun e w' => e = .returned (.int .i64 (idxI xs x)) ∧ w' = w := by
  obtain ⟨a, cap, rfl, hl, hc⟩ := h
  unfold maxLen at hl
  go_enter Try.func127, Try.ntmps127
  go_wp2
  go_loopg [5, 8] xs.length (fun g _ i wr => ∃ k : Nat, k ≤ xs.length ∧ g = xs.length - k ∧ i = .int .i64 k ∧ wr = w ∧ ∀ j, (hj : j < xs.length) → j < k → xs[j] ≠ x)
  case atStart => exact ⟨0, Nat.zero_le _, rfl, rfl, rfl, fun j _ h => absurd h (Nat.not_lt_zero _)⟩
  case round =>
    obtain ⟨k, hk, rfl, rfl, hw, hall⟩ := hrel
    obtain rfl := hw.symm
    have H : Hid (∀ j, (hj : j < xs.length) → j < k → xs[j] ≠ x) := hall
    clear hall hw
    by_cases hlt : k < xs.length
    · obtain ⟨b, o, rfl, c0⟩ := hc k hlt
      have hkz : (k : Int) < (xs.length : Int) := by omega
      by_cases he : xs[k] = x
      · have HE : Hid (idxI xs x = (k : Int)) := idxI_found hlt he H.out
        rw [he] at c0
        go_wp2
        go_ret
        exact ⟨ret_int HE.out.symm, rfl⟩
      · have hne : (x == xs[k]) = false := by simp; exact fun e => he e.symm
        have HN : Hid (∀ j, (hj : j < xs.length) → j < k + 1 → xs[j] ≠ x) := fun j hj hjk => by
          by_cases e : j = k
          · subst e; exact he
          · exact H.out j hj (by omega)
        have hne2 : ¬ (x = xs[k]) := fun e => he e.symm
        clear H
        go_wp2
        go_roundg (xs.length - (k + 1))
        case measure => omega
        case rel => exact ⟨k + 1, by omega, rfl, by go_num, rfl, HN.out⟩
    · obtain rfl : k = xs.length := by omega
      have HE : Hid (idxI xs x = -1) := idxI_none fun j hj => H.out j hj hj
      go_wp2
      go_ret
      exact ⟨ret_int HE.out.symm, rfl⟩
theorem slicesContains_any (v : Value) (xs : List Int) (x : Int) (w : World) (h : IntsAt w v xs) :
    Calls Try.prog 88 #[v, .int .i64 x] w fun e w' => e = .returned (.bool (decide (x ∈ xs))) ∧ w' = w := by
  obtain ⟨a, cap, hv⟩ := h.shape
  subst hv
  go_enter Try.func88, Try.ntmps88
  go_wp2_with (go_at_call 127; refine (slicesIndex_any _ xs _ _ h).mono ?_; rintro e w' ⟨rfl, hw⟩; obtain rfl := hw.symm)
  go_ret
  exact ⟨ret_bool idxI_mem, rfl⟩
def offTo (ts : List Tw) (k : Nat) : Nat := ((ts.take k).filter fun t => t.page == -1).length
theorem offTo_succ {ts : List Tw} {k : Nat} (h : k < ts.length) : offTo ts (k + 1) = offTo ts k + (if ts[k].page = -1 then 1 else 0) := by
  unfold offTo
  rw [List.take_add_one, List.getElem?_eq_getElem h, List.filter_append]
  simp only [Option.toList_some, List.length_append]
  by_cases e : ts[k].page = -1 <;> simp [e]
theorem offTo_le (ts : List Tw) (k : Nat) : offTo ts k ≤ k := by
  unfold offTo
  exact Nat.le_trans (List.length_filter_le _ _) (by simp; omega)
def callsN (m : Mc) : Nat := framesN m.pages + offTo m.twins m.twins.length
set_option maxRecDepth 100000 in
set_option maxHeartbeats 4000000 in
theorem callsOf_any (vp vo vt vs : Value) (m : Mc) (w : World) (h : MachAt w vp vo vt vs m) (hn : m.pages.length ≤ 1048576) (hf : framesN m.pages ≤ 1099511627776) (htn : m.twins.length ≤ 1099511627776) :
    Calls Try.prog 45 #[.agg (mcCells vp vo vt vs m).toArray] w fun e w' => e = .returned (.int .i64 (callsN m : Int)) ∧ Below w.heap.size w w' := by
  obtain ⟨ap, cp, hvp, hlp, hcp⟩ := id h.p
  obtain ⟨ao, co, hvo, hlo, hco⟩ := id h.o
  obtain ⟨at', ct, hvt, hlt', hct⟩ := id h.t
  obtain ⟨as', cs, hvs⟩ := h.s.shape
  subst hvp hvo hvt hvs
  unfold mcCells
  go_enter Try.func45, Try.ntmps45
  go_upto_region 1 with fail
  refine wp_gen (fun W => Below w.heap.size w W ∧ Bx W w.heap.size 33 [.int .i64 m.cells, .slice ap m.pages.length cp, .slice ao m.order.length co, .int .i64 m.now, .slice at' m.twins.length ct, .int .i64 m.born, .slice as' m.said.length cs, .int .i64 m.code]) ⟨(Below.refl _ _).alloc (Nat.le_refl _) _, Bx.new w _ _⟩ ?_
  rintro W ⟨hb, hm⟩
  obtain ⟨⟨m0, m1, m2, m3, m4, m5, m6, m7⟩, _⟩ := bx8 hm
  have HF := implMachFrames_any _ _ _ _ m W (h.below hb) hn hf
  unfold mcCells at HF
  have zb := hb.size
  go_wp2_with fail
  refine HF.mono ?_
  rintro e W1 ⟨rfl, t1⟩
  have hb1 := hb.trans (t1.mono zb)
  have hm1 := hm.below t1
  have z1 := hb1.size
  have HC : Hid (callsN m = framesN m.pages + offTo m.twins m.twins.length) := rfl
  clear HF t1 hm hb zb m0 m1 m2 m3 m4 m5 m6 m7
  obtain ⟨⟨_, _, _, _, m4, _, _, _⟩, _⟩ := bx8 hm1
  go_wp2_with fail
  go_loopg [3, 5, 11] m.twins.length (fun g n _ i wr => ∃ k : Nat, k ≤ m.twins.length ∧ g = m.twins.length - k ∧ i = .int .i64 k ∧ n = .int .i64 ((framesN m.pages + offTo m.twins k : Nat) : Int) ∧ Below w.heap.size w wr)
  case atStart => exact ⟨0, Nat.zero_le _, rfl, rfl, by simp [offTo], hb1⟩
  case round =>
    clear m4 hm1 hb1 z1
    obtain ⟨k, hk, rfl, rfl, rfl, hb⟩ := hrel
    by_cases hlt : k < m.twins.length
    · obtain ⟨b, o, vt, vs, rfl, htw⟩ := hct k hlt
      obtain ⟨d0, d1, d2, d3, d4, d5, d6, d7, dt, ds⟩ := htw.below hb
      obtain ⟨a1, k1, e1⟩ := dt.shape
      obtain ⟨a2, k2, e2⟩ := ds.shape
      rw [e1] at d4
      rw [e2] at d5
      have hkz : (k : Int) < (m.twins.length : Int) := by omega
      have hof := offTo_succ hlt
      have hol := offTo_le m.twins k
      have zb := hb.size
      have HB2 : Hid (∀ o, Below w.heap.size w (wr.alloc o)) := fun o => hb.alloc zb _
      clear e1 e2 dt ds htw hct
      obtain ⟨n, hn'⟩ : ∃ n, framesN m.pages + offTo m.twins k = n := ⟨_, rfl⟩
      have hnb : n ≤ 2199023255552 := by omega
      by_cases hp : m.twins[k].page = -1
      · rw [if_pos hp] at hof
        have HN : Hid (framesN m.pages + offTo m.twins (k + 1) = n + 1) := by show _ = _; omega
        rw [hp] at d0
        rw [hn']
        clear hof hn' hol hb
        go_wp2
        go_roundg (m.twins.length - (k + 1))
        case measure => omega
        case rel => exact ⟨k + 1, by omega, rfl, by go_num, by rw [HN.out]; simp, HB2.out _⟩
      · rw [if_neg hp] at hof
        have HN : Hid (framesN m.pages + offTo m.twins (k + 1) = n) := by show _ = _; omega
        have hpe : (m.twins[k].page == -1) = false := by simpa using hp
        rw [hn']
        clear hof hn' hol hb
        go_wp2
        go_roundg (m.twins.length - (k + 1))
        case measure => omega
        case rel => exact ⟨k + 1, by omega, rfl, by go_num, by rw [HN.out], HB2.out _⟩
    · obtain rfl : k = m.twins.length := by omega
      go_wp2
      go_ret
      exact ⟨ret_int (by rw [HC.out]), hb⟩
def orderB (m : Mc) : Bool := decide (m.order.length = m.pages.length) && (List.range m.pages.length).all fun i => decide ((i : Int) ∈ m.order)
theorem orderB_no {m : Mc} {k : Nat} (hk : k < m.pages.length) (h : ¬ ((k : Int) ∈ m.order)) : orderB m = false := by
  unfold orderB
  rw [Bool.and_eq_false_iff]
  right
  rw [List.all_eq_false]
  exact ⟨k, List.mem_range.2 hk, by simpa using h⟩
theorem orderB_yes {m : Mc} (hl : m.order.length = m.pages.length) (h : ∀ k, k < m.pages.length → (k : Int) ∈ m.order) : orderB m = true := by
  unfold orderB
  rw [Bool.and_eq_true_iff]
  exact ⟨by simpa using hl, List.all_eq_true.2 fun k hk => by simpa using h k (List.mem_range.1 hk)⟩
set_option maxRecDepth 100000 in
set_option maxHeartbeats 4000000 in
theorem orderOk_any (vp vo vt vs : Value) (m : Mc) (w : World) (h : MachAt w vp vo vt vs m) :
    Calls Try.prog 42 #[.agg (mcCells vp vo vt vs m).toArray] w fun e w' => e = .returned (.bool (orderB m)) ∧ Below w.heap.size w w' := by
  obtain ⟨ap, cp, hvp, hlp, hcp⟩ := id h.p
  obtain ⟨ao, co, hvo, hlo, hco⟩ := id h.o
  obtain ⟨at', ct, hvt, hlt', hct⟩ := id h.t
  obtain ⟨as', cs, hvs⟩ := h.s.shape
  subst hvp hvo hvt hvs
  unfold mcCells
  unfold maxLen at hlp hlo
  have HO := h.o
  go_enter Try.func42, Try.ntmps42
  go_upto_region 1 with fail
  refine wp_gen (fun W => Below w.heap.size w W ∧ Bx W w.heap.size 33 [.int .i64 m.cells, .slice ap m.pages.length cp, .slice ao m.order.length co, .int .i64 m.now, .slice at' m.twins.length ct, .int .i64 m.born, .slice as' m.said.length cs, .int .i64 m.code]) ⟨(Below.refl _ _).alloc (Nat.le_refl _) _, Bx.new w _ _⟩ ?_
  rintro W ⟨hb, hm⟩
  obtain ⟨⟨m0, m1, m2, m3, m4, m5, m6, m7⟩, _⟩ := bx8 hm
  have HOW : Hid (IntsAt W (.slice ao m.order.length co) m.order) := HO.below hb
  by_cases hle : m.order.length = m.pages.length
  case neg =>
    have HE : Hid (orderB m = false) := by show _ = _; unfold orderB; simp [hle]
    have hlz : ¬ ((m.order.length : Int) = (m.pages.length : Int)) := by omega
    go_wp2
    go_ret
    exact ⟨ret_bool HE.out.symm, hb⟩
  have HLE : Hid (m.order.length = m.pages.length) := hle
  rw [hle] at m2 HOW
  clear hle
  go_wp2_with fail
  go_loopg [3, 14] m.pages.length (fun g _ i wr => ∃ k : Nat, k ≤ m.pages.length ∧ g = m.pages.length - k ∧ i = .int .i64 k ∧ wr = W ∧ ∀ j, j < k → (j : Int) ∈ m.order)
  case atStart => exact ⟨0, Nat.zero_le _, rfl, rfl, rfl, fun j h => absurd h (Nat.not_lt_zero _)⟩
  case round =>
    obtain ⟨k, hk, rfl, rfl, hw, hall⟩ := hrel
    obtain rfl := hw.symm
    have H : Hid (∀ j, j < k → (j : Int) ∈ m.order) := hall
    clear hall hw
    by_cases hlt : k < m.pages.length
    · have hkz : (k : Int) < (m.pages.length : Int) := by omega
      obtain ⟨f, hf⟩ : ∃ f, decide ((k : Int) ∈ m.order) = f := ⟨_, rfl⟩
      have HC := slicesContains_any _ m.order (k : Int) W HOW.out
      rw [hf] at HC
      go_wp2_with fail
      refine HC.mono ?_
      rintro e W1 ⟨rfl, hw⟩
      obtain rfl := hw.symm
      clear hw HC
      cases f
      · have HE : Hid (orderB m = false) := orderB_no hlt (by simpa using hf)
        go_wp2
        go_ret
        exact ⟨ret_bool HE.out.symm, hb⟩
      · have HN : Hid (∀ j, j < k + 1 → (j : Int) ∈ m.order) := fun j hj => by
          by_cases e : j = k
          · subst e; simpa using hf
          · exact H.out j (by omega)
        clear hf H
        go_wp2
        go_roundg (m.pages.length - (k + 1))
        case measure => omega
        case rel => exact ⟨k + 1, by omega, rfl, by go_num, rfl, HN.out⟩
    · obtain rfl : k = m.pages.length := by omega
      have HE : Hid (orderB m = true) := orderB_yes HLE.out H.out
      go_wp2
      go_ret
      exact ⟨ret_bool HE.out.symm, hb⟩
theorem cellsOf_any (a : Option Addr) (n c : Nat) (w : World) (hn : n ≤ 1099511627776) : Calls Try.prog 91 #[.slice a n c] w fun e w' => e = .returned (.int .i64 ((10 + n : Nat) : Int)) ∧ w' = w := by
  go_enter Try.func91, Try.ntmps91
  go_wp2
  go_ret
  exact ⟨ret_int (by omega), rfl⟩
end Go.Proofs.Ytldiccheboipeaa
