/-
  HeapNew of the program: the first call of a program that is ok, in memory of its own; else nothing.
-/
import Derived.Test.YthkjgfhheejaoaaGreatDoorHImpl6
import Derived.Test.YthkjgfhheejaoaaGreatDoorTakes2
import Derived.Test.YthkjgfhheejaoaaGreatDoorVals
namespace Go.Proofs.YthkjgfhheejaoaaGreatDoor
open Go.RowKit

/-- how many temps the first method has -/
def temps0 (ms : List (Int × Int × List (Int × Int))) : Nat := (ms.getD 0 (0, 0, [])).2.1.toNat

/-- what a program begins with -/
def newHp (ms : List (Int × Int × List (Int × Int))) : Hp :=
  if progOk ms = true then ⟨[⟨0, 0, List.replicate (temps0 ms) (0, 0), [], -1, false⟩], 0, 1, [], 0⟩ else ⟨[], 0, 0, [], 0⟩

theorem first_ok {ms : List (Int × Int × List (Int × Int))} (h : progOk ms = true) : ∃ hl : 0 < ms.length, 0 ≤ ms[0].2.1 ∧ ms[0].2.1 ≤ 4 ∧ (temps0 ms : Int) = ms[0].2.1 ∧ temps0 ms ≤ 4 := by
  unfold progOk at h
  simp only [Bool.and_eq_true] at h
  have hl := inR_true.1 h.1.1
  have h0 : 0 < ms.length := by omega
  have ha := List.all_eq_true.1 h.2 _ (List.getElem_mem h0)
  unfold methOk at ha
  simp only [Bool.and_eq_true] at ha
  have a1 := inR_true.1 ha.1.1.1
  have a2 := inR_true.1 ha.1.1.2
  have e : temps0 ms = (ms[0].2.1).toNat := by simp [temps0, h0]
  exact ⟨h0, by omega, by omega, by rw [e]; omega, by rw [e]; omega⟩

theorem OwnHeap.none (B : Nat) (w : World) : OwnHeap B w (.slice none 0 0) (.slice none 0 0) ⟨[], 0, 0, [], 0⟩ (fun _ => (.slice none 0 0, .slice none 0 0)) :=
  ⟨⟨.inl ⟨rfl, rfl⟩, fun i hi => absurd hi (Nat.not_lt_zero _), fun q hq => by simp at hq⟩, PairRow.nil _ _, fun g e => by simp [Value.ownBlock] at e⟩

/-- one call in memory of its own -/
theorem own_one {B gc gt n c : Nat} {w : World} {ty : TypeId} {m pc s : Int} {d : Bool} {ts : List (Int × Int)} (hB : B ≤ gc) (hne : gt ≠ gc) (ht : PairRow B w (.slice (some ⟨gt, 0, none⟩) n c) ts)
    (hrow : w.rowIs gc ty 6 (six (.int .i64 m) (.int .i64 pc) (.slice (some ⟨gt, 0, none⟩) n c) (.slice none 0 0) (.int .i64 s) (.bool d))) :
    OwnHeap B w (.slice (some ⟨gc, 0, none⟩) 1 1) (.slice none 0 0) ⟨[⟨m, pc, ts, [], s, d⟩], 0, 1, [], 0⟩ (fun _ => (.slice (some ⟨gt, 0, none⟩) n c, .slice none 0 0)) := by
  obtain ⟨⟨q0, q1, q2, q3, q4, q5⟩, k0, k1, k2, k3, k4, k5⟩ := six_cells hrow
  have hap : ∀ q, q < 2 → ∀ g, (lst (fun _ => (Value.slice (some ⟨gt, 0, none⟩) n c, Value.slice none 0 0)) q).ownBlock = some g → q = 0 ∧ g = gt := by
    intro q hq g e
    unfold lst at e
    split at e
    · simp [Value.ownBlock] at e
      omega
    · simp [Value.ownBlock] at e
  refine ⟨⟨.inr ⟨gc, 0, 1, rfl, hB, hrow.lt, Nat.le_refl _, by unfold maxLen; omega, fun i hi => ?_, fun i hi => ?_⟩, fun i hi => ?_, fun q hq g e => ?_⟩, PairRow.nil _ _, fun g e => by simp [Value.ownBlock] at e⟩
  · have h6 : i = 0 ∨ i = 1 ∨ i = 2 ∨ i = 3 ∨ i = 4 ∨ i = 5 := by omega
    rcases h6 with rfl | rfl | rfl | rfl | rfl | rfl
    · exact ⟨by rw [q0]; rfl, k0⟩
    · exact ⟨by rw [q1]; rfl, k1⟩
    · exact ⟨by rw [q2]; rfl, k2⟩
    · exact ⟨by rw [q3]; rfl, k3⟩
    · exact ⟨by rw [q4]; rfl, k4⟩
    · exact ⟨by rw [q5]; rfl, k5⟩
  · obtain rfl : i = 0 := by simpa using hi
    exact ⟨q0, q1, q2, q3, q4, q5⟩
  · obtain rfl : i = 0 := by simpa using hi
    exact ⟨ht, PairRow.nil _ _⟩
  · obtain ⟨rfl, rfl⟩ := hap q (by simpa using hq) g e
    refine ⟨fun e2 => by simp [Value.ownBlock] at e2; omega, fun q' hq' hne' e2 => ?_⟩
    exact hne' (hap q' (by simpa using hq') g e2).1

/-- values that were just made -/
theorem made_pairs {B : Nat} (w : World) (t : Nat) (ty : TypeId) (hB : B ≤ w.heap.size) (ht : t ≤ 1000) : PairRow B (w.alloc (.cells (madeCells #[.int .i64 0, .int .i64 0] (t * 2)) ty)) (.slice (some ⟨w.heap.size, 0, none⟩) t t) (List.replicate t (0, 0)) := by
  have h := ops_row_start w (t * 2) ty []
  refine .inr ⟨w.heap.size, 0, t, by simp, hB, h.lt, by simp, by unfold maxLen; omega, fun i hi => ?_, fun i hi => ?_⟩
  · rw [Nat.zero_add]
    exact ⟨by rw [h.cell hi]; rfl, h.frozen i⟩
  · simp at hi
    rw [Nat.zero_add]
    have h1 := h.cell (i := i * 2) (by omega)
    have h2 := h.cell (i := i * 2 + 1) (by omega)
    simp only [List.getElem_replicate]
    rw [h1, h2, if_neg (by omega), if_neg (by omega)]
    exact ⟨rfl, rfl⟩

set_option maxRecDepth 100000 in
set_option maxHeartbeats 2000000 in
theorem specHeapNew_kept (vp : Value) (ms : List (Int × Int × List (Int × Int))) (w : World) (h : MethsAt w vp ms) :
    Calls Tryz.prog 51 #[.agg #[vp]] w fun e w' => Below w.heap.size w w' ∧ ∃ vc vs, e = .returned (.tuple #[.agg (hpCells vc vs (newHp ms)), .bool (progOk ms)]) ∧ ∀ w'' : World, w'.heap.size ≤ w''.heap.size → (∀ g, w.heap.size ≤ g → g < w'.heap.size → w''.heap[g]? = w'.heap[g]?) → HeapAt w'' vc vs (newHp ms) := by
  obtain ⟨a, cap, rfl, hl, hc⟩ := id h
  have hA : Below w.heap.size w ((w.alloc (.cells #[.slice a ms.length cap] 25)).alloc (.cells #[.slice none 0 0, .int .i64 0, .int .i64 0, .slice none 0 0, .int .i64 0] 29)) := ((Below.refl _ _).alloc (Nat.le_refl _) _).alloc (by simp) _
  have bp : ((w.alloc (.cells #[.slice a ms.length cap] 25)).alloc (.cells #[.slice none 0 0, .int .i64 0, .int .i64 0, .slice none 0 0, .int .i64 0] 29)).cell? ⟨w.heap.size, 0, none⟩ = some (.slice a ms.length cap) := by simp [go_sem]
  have bh := five_new (w.alloc (.cells #[.slice a ms.length cap] 25)) 29 (.slice none 0 0) (.int .i64 0) (.int .i64 0) (.slice none 0 0) (.int .i64 0)
  simp only [World.size_alloc] at bh
  go_enter Tryz.func51, Tryz.ntmps51
  go_wp2_with fail
  generalize (w.alloc (.cells #[.slice a ms.length cap] 25)).alloc (.cells #[.slice none 0 0, .int .i64 0, .int .i64 0, .slice none 0 0, .int .i64 0] 29) = W0 at *
  have z0 := hA.size
  refine (specProgOk_any _ ms _ (h.below hA)).mono ?_
  rintro e w1 ⟨rfl, hb1⟩
  have B1 : Below w.heap.size w w1 := hA.trans (hb1.mono z0)
  have bp1 := cell_below hb1 bp
  have bh1 := row_below hb1 bh
  have z1 := B1.size
  have hbz := bh1.lt
  clear hb1 bp bh hA z0
  obtain ⟨⟨x0, x1, x2, x3, x4⟩, ⟨f0, f1, f2, f3, f4⟩⟩ := five_cells bh1
  by_cases hpf : progOk ms = false
  · have hN : Hid (newHp ms = ⟨[], 0, 0, [], 0⟩) := by show newHp ms = _; simp [newHp, hpf]
    have R9 := five_set4 (five_set3 (five_set2 (five_set1 (five_set0 bh1 (.slice none 0 0)) (.int .i64 0)) (.int .i64 0)) (.slice none 0 0)) (.int .i64 0)
    have B9 := ((((B1.setCell (p := ⟨w.heap.size + 1, 0, none⟩) (Nat.le_succ _) (.slice none 0 0)).setCell (p := ⟨w.heap.size + 1, 1, none⟩) (Nat.le_succ _) (.int .i64 0)).setCell (p := ⟨w.heap.size + 1, 2, none⟩) (Nat.le_succ _) (.int .i64 0)).setCell (p := ⟨w.heap.size + 1, 3, none⟩) (Nat.le_succ _) (.slice none 0 0)).setCell (p := ⟨w.heap.size + 1, 4, none⟩) (Nat.le_succ _) (.int .i64 0)
    go_wp2
    generalize ((((w1.setCell ⟨w.heap.size + 1, 0, none⟩ (.slice none 0 0)).setCell ⟨w.heap.size + 1, 1, none⟩ (.int .i64 0)).setCell ⟨w.heap.size + 1, 2, none⟩ (.int .i64 0)).setCell ⟨w.heap.size + 1, 3, none⟩ (.slice none 0 0)).setCell ⟨w.heap.size + 1, 4, none⟩ (.int .i64 0) = W9 at *
    obtain ⟨⟨q0, q1, q2, q3, q4⟩, _⟩ := five_cells R9
    exact bodyPost_ret (v := .tuple #[.agg #[.slice none 0 0, .int .i64 0, .int .i64 0, .slice none 0 0, .int .i64 0], .bool false]) (by simp [results, Tryz.results51, go_sem, q0, q1, q2, q3, q4]) rfl ⟨B9, .slice none 0 0, .slice none 0 0, by rw [hN.out, hpf]; rfl, fun _ _ _ => by rw [hN.out]; exact (OwnHeap.none 0 _).at⟩
  have hp : progOk ms = true := by simpa using hpf
  clear hpf
  obtain ⟨hl0, ht0, ht4, hte, htn⟩ := first_ok hp
  have hm1 := h.below B1
  have HN : Hid (newHp ms = ⟨[⟨0, 0, List.replicate (temps0 ms) (0, 0), [], -1, false⟩], 0, 1, [], 0⟩) := by show newHp ms = _; unfold newHp; rw [if_pos hp]
  have hm2 := hm1.below ((Below.refl _ _).alloc (Nat.le_refl _) (.cells #[] 43))
  have mk := (PairRow.made (B := 0) (w := w1) (e := 43) (Nat.zero_le _)).at
  have bh2 := row_below ((Below.refl _ _).alloc (Nat.le_refl _) (.cells #[] 43)) bh1
  have B2 := B1.alloc z1 (.cells #[] 43)
  have z2 := B2.size
  have hz12 : w1.heap.size ≤ (w1.alloc (.cells #[] 43)).heap.size := by simp
  clear x0 x1 x2 x3 x4 f0 f1 f2 f3 f4
  go_wp2_with fail
  generalize w1.alloc (.cells #[] 43) = w2 at *
  refine (l11Call_any _ _ ms 0 [] (-1) (temps0 ms) _ hm2 hl0 hte.symm (by omega) mk (by simp)).mono ?_
  rintro e w3 ⟨vt, vs, rfl, ht3, hs3, _, hb3⟩
  obtain ⟨at', ct', hvt, _⟩ := ht3.slice
  obtain ⟨as', cs', hvs, _⟩ := hs3.slice
  subst hvt hvs
  unfold clCells
  simp only [List.nil_append, List.length_nil, Nat.sub_zero, List.length_replicate] at ht3 hs3 ⊢
  generalize temps0 ms = t at *
  have B3 : Below w.heap.size w w3 := B2.trans (hb3.mono z2)
  have bh3 := row_below hb3 bh2
  have z3 := B3.size
  have hz23 := hb3.size
  have N5 : ∀ o1 o2, Below w3.heap.size w3 ((w3.alloc o1).alloc o2) := fun o1 o2 => ((Below.refl _ _).alloc (Nat.le_refl _) _).alloc (by simp) _
  have R5 : Hid (∀ o1 o2, ((w3.alloc o1).alloc o2).rowIs (w.heap.size + 1) 29 5 (five (.slice none 0 0) (.int .i64 0) (.int .i64 0) (.slice none 0 0) (.int .i64 0))) := fun o1 o2 => row_below (N5 o1 o2) bh3
  have x0' := fun o1 o2 => (five_cells (R5.out o1 o2)).1.1
  have x1' := fun o1 o2 => (five_cells (R5.out o1 o2)).1.2.1
  have x2' := fun o1 o2 => (five_cells (R5.out o1 o2)).1.2.2.1
  have x3' := fun o1 o2 => (five_cells (R5.out o1 o2)).1.2.2.2.1
  have x4' := fun o1 o2 => (five_cells (R5.out o1 o2)).1.2.2.2.2
  have f0' := fun o1 o2 => (five_cells (R5.out o1 o2)).2.1
  have f1' := fun o1 o2 => (five_cells (R5.out o1 o2)).2.2.1
  have f2' := fun o1 o2 => (five_cells (R5.out o1 o2)).2.2.2.1
  have f3' := fun o1 o2 => (five_cells (R5.out o1 o2)).2.2.2.2.1
  have f4' := fun o1 o2 => (five_cells (R5.out o1 o2)).2.2.2.2.2
  clear hb3 bh2 B2 z2 mk hm1 hm2 hc bh1
  go_wp2_with fail
  have R3 := R5.out (.cells #[.int .i64 0, .int .i64 0, .slice at' t ct', .slice as' 0 cs', .int .i64 (-1), .bool false] 48) (.cells #[] 43)
  have N3 := N5 (.cells #[.int .i64 0, .int .i64 0, .slice at' t ct', .slice as' 0 cs', .int .i64 (-1), .bool false] 48) (.cells #[] 43)
  have S3 := (six_new w3 48 (.int .i64 0) (.int .i64 0) (.slice at' t ct') (.slice as' 0 cs') (.int .i64 (-1)) (.bool false)).alloc (.cells #[] 43)
  have M3 := PairRow.made (B := w2.heap.size) (w := w3.alloc (.cells #[.int .i64 0, .int .i64 0, .slice at' t ct', .slice as' 0 cs', .int .i64 (-1), .bool false] 48)) (e := 43) (by simp; omega)
  simp only [World.size_alloc] at M3
  have P3 := ht3.below N3
  have Q3 := hs3.below N3
  have B5 := B3.trans (N3.mono z3)
  clear x0' x1' x2' x3' x4' f0' f1' f2' f3' f4' R5 N5
  generalize (w3.alloc (.cells #[.int .i64 0, .int .i64 0, .slice at' t ct', .slice as' 0 cs', .int .i64 (-1), .bool false] 48)).alloc (.cells #[] 43) = W3 at *
  have hne : ∀ {v : Value} {xs : List (Int × Int)}, PairRow w2.heap.size W3 v xs → v.ownBlock ≠ some (w.heap.size + 1) := fun hv e => by have := (hv.lt _ e).1; omega
  have nt := hne P3
  have ns := hne Q3
  have nm := hne M3
  have keep : ∀ {v : Value} {xs : List (Int × Int)}, PairRow w2.heap.size W3 v xs → PairRow w2.heap.size (((((W3.setCell ⟨w.heap.size + 1, 0, none⟩ (.slice (some ⟨w3.heap.size, 0, none⟩) 1 1)).setCell ⟨w.heap.size + 1, 1, none⟩ (.int .i64 0)).setCell ⟨w.heap.size + 1, 2, none⟩ (.int .i64 1)).setCell ⟨w.heap.size + 1, 3, none⟩ (.slice (some ⟨w3.heap.size + 1, 0, none⟩) 0 0)).setCell ⟨w.heap.size + 1, 4, none⟩ (.int .i64 0)) v xs := fun hv =>
    ((((hv.set_other (p := ⟨w.heap.size + 1, 0, none⟩) _ (hne hv)).set_other (p := ⟨w.heap.size + 1, 1, none⟩) _ (hne hv)).set_other (p := ⟨w.heap.size + 1, 2, none⟩) _ (hne hv)).set_other (p := ⟨w.heap.size + 1, 3, none⟩) _ (hne hv)).set_other (p := ⟨w.heap.size + 1, 4, none⟩) _ (hne hv)
  have P9 := keep P3
  have Q9 := keep Q3
  have M9 := keep M3
  have R9 := five_set4 (five_set3 (five_set2 (five_set1 (five_set0 R3 (.slice (some ⟨w3.heap.size, 0, none⟩) 1 1)) (.int .i64 0)) (.int .i64 1)) (.slice (some ⟨w3.heap.size + 1, 0, none⟩) 0 0)) (.int .i64 0)
  have B9 := ((((B5.setCell (p := ⟨w.heap.size + 1, 0, none⟩) (Nat.le_succ _) (.slice (some ⟨w3.heap.size, 0, none⟩) 1 1)).setCell (p := ⟨w.heap.size + 1, 1, none⟩) (Nat.le_succ _) (.int .i64 0)).setCell (p := ⟨w.heap.size + 1, 2, none⟩) (Nat.le_succ _) (.int .i64 1)).setCell (p := ⟨w.heap.size + 1, 3, none⟩) (Nat.le_succ _) (.slice (some ⟨w3.heap.size + 1, 0, none⟩) 0 0)).setCell (p := ⟨w.heap.size + 1, 4, none⟩) (Nat.le_succ _) (.int .i64 0)
  have hw3 := bh3.lt
  have S9 := row_set (k := w.heap.size + 1) (o := 4) (row_set (k := w.heap.size + 1) (o := 3) (row_set (k := w.heap.size + 1) (o := 2) (row_set (k := w.heap.size + 1) (o := 1) (row_set (k := w.heap.size + 1) (o := 0) S3 (by omega) (.slice (some ⟨w3.heap.size, 0, none⟩) 1 1)) (by omega) (.int .i64 0)) (by omega) (.int .i64 1)) (by omega) (.slice (some ⟨w3.heap.size + 1, 0, none⟩) 0 0)) (by omega) (.int .i64 0)
  clear keep hne
  generalize ((((W3.setCell ⟨w.heap.size + 1, 0, none⟩ (.slice (some ⟨w3.heap.size, 0, none⟩) 1 1)).setCell ⟨w.heap.size + 1, 1, none⟩ (.int .i64 0)).setCell ⟨w.heap.size + 1, 2, none⟩ (.int .i64 1)).setCell ⟨w.heap.size + 1, 3, none⟩ (.slice (some ⟨w3.heap.size + 1, 0, none⟩) 0 0)).setCell ⟨w.heap.size + 1, 4, none⟩ (.int .i64 0) = W9 at *
  obtain ⟨⟨q0, q1, q2, q3, q4⟩, _⟩ := five_cells R9
  have O9 : ∀ W : World, W9.heap.size ≤ W.heap.size → (∀ g, w.heap.size ≤ g → g < W9.heap.size → W.heap[g]? = W9.heap[g]?) → HeapAt W (.slice (some ⟨w3.heap.size, 0, none⟩) 1 1) (.slice (some ⟨w3.heap.size + 1, 0, none⟩) 0 0) ⟨[⟨0, 0, List.replicate t (0, 0), [], -1, false⟩], 0, 1, [], 0⟩ := by
    intro W hz hk
    obtain ⟨⟨c0, c1, c2, c3, c4, c5⟩, _⟩ := six_cells (S9.of_block (hk _ (by omega) S9.lt))
    have P' := P9.kept hz (fun g e => hk g (by have := (P9.lt g e).1; omega) (P9.lt g e).2)
    have Q' := Q9.kept hz (fun g e => hk g (by have := (Q9.lt g e).1; omega) (Q9.lt g e).2)
    have M' := M9.kept hz (fun g e => hk g (by have := (M9.lt g e).1; omega) (M9.lt g e).2)
    exact ⟨⟨_, 1, rfl, by unfold maxLen; simp, fun i hi => by
      obtain rfl : i = 0 := by simpa using hi
      exact ⟨w3.heap.size, 0, _, _, rfl, c0, c1, c2, c3, c4, c5, P'.at, Q'.at⟩⟩, M'.at⟩
  exact bodyPost_ret (v := .tuple #[.agg #[.slice (some ⟨w3.heap.size, 0, none⟩) 1 1, .int .i64 0, .int .i64 1, .slice (some ⟨w3.heap.size + 1, 0, none⟩) 0 0, .int .i64 0], .bool true]) (by simp [results, Tryz.results51, go_sem, q0, q1, q2, q3, q4]) rfl ⟨B9, _, _, by rw [HN.out, hp]; rfl, by rw [HN.out]; exact O9⟩

theorem specHeapNew_any (vp : Value) (ms : List (Int × Int × List (Int × Int))) (w : World) (h : MethsAt w vp ms) :
    Calls Tryz.prog 51 #[.agg #[vp]] w fun e w' => Below w.heap.size w w' ∧ ∃ vc vs, e = .returned (.tuple #[.agg (hpCells vc vs (newHp ms)), .bool (progOk ms)]) ∧ HeapAt w' vc vs (newHp ms) :=
  (specHeapNew_kept vp ms w h).mono fun _ w' ⟨h1, vc, vs, h2, h3⟩ => ⟨h1, vc, vs, h2, h3 w' (Nat.le_refl _) fun _ _ _ => rfl⟩

end Go.Proofs.YthkjgfhheejaoaaGreatDoor
