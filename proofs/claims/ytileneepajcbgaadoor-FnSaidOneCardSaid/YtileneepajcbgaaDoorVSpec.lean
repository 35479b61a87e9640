/-
  HeapNew of the program: the first call of a program that is ok, in memory of its own; else nothing.
-/
import Derived.Test.YtileneepajcbgaaDoorImplOk3
import Derived.Test.YtileneepajcbgaaDoorVals
import Derived.Test.YtileneepajcbgaaDoorStepP
import Derived.Deep.RegionHeld3
import Derived.Deep.QuietTactic
import Derived.Test.YtileneepajcbgaaDoorStepT
import Derived.Test.YtileneepajcbgaaDoorTakes2

namespace Go.Proofs.YtileneepajcbgaaDoor
open Go.RowKit
def temps0 (ms : List (Int × Int × List (Int × Int))) : Nat := (ms.getD 0 (0, 0, [])).2.1.toNat
def newHp (ms : List (Int × Int × List (Int × Int))) : Hp :=
  if progOk ms = true then ⟨[⟨0, 0, List.replicate (temps0 ms) (0, 0), [], -1, false⟩], 0, 1, [], 0⟩ else ⟨[], 0, 0, [], 0⟩
theorem first_ok {ms : List (Int × Int × List (Int × Int))} (h : progOk ms = true) : ∃ hl : 0 < ms.length, 0 ≤ ms[0].2.1 ∧ ms[0].2.1 ≤ 4 ∧ (temps0 ms : Int) = ms[0].2.1 ∧ temps0 ms ≤ 4 := by
  unfold progOk at h
  simp only [Bool.and_eq_true] at h
  have hl := inR_true.1 h.1.1
  have h0 : 0 < ms.length := by omega
  have ha := List.all_eq_true.1 h.2 _ (List.getElem_mem h0)
  unfold methOk at ha
  simp only [Bool.and_eq_true] at ha
  have a1 := inR_true.1 ha.1.1.1
  have a2 := inR_true.1 ha.1.1.2
  have e : temps0 ms = (ms[0].2.1).toNat := by simp [temps0, h0]
  exact ⟨h0, by omega, by omega, by rw [e]; omega, by rw [e]; omega⟩
theorem OwnHeap.none (B : Nat) (w : World) : OwnHeap B w (.slice none 0 0) (.slice none 0 0) ⟨[], 0, 0, [], 0⟩ (fun _ => (.slice none 0 0, .slice none 0 0)) :=
  ⟨⟨.inl ⟨rfl, rfl⟩, fun i hi => absurd hi (Nat.not_lt_zero _), fun q hq => by simp at hq⟩, PairRow.nil _ _, fun g e => by simp [Value.ownBlock] at e⟩
set_option maxRecDepth 100000 in
set_option maxHeartbeats 2000000 in
theorem specHeapNew_kept (vp : Value) (ms : List (Int × Int × List (Int × Int))) (w : World) (h : MethsAt w vp ms) :
    Calls Tryd.prog 25 #[.agg #[vp]] w fun e w' => Below w.heap.size w w' ∧ ∃ vc vs, e = .returned (.tuple #[.agg (hpCells vc vs (newHp ms)), .bool (progOk ms)]) ∧ ∀ w'' : World, w'.heap.size ≤ w''.heap.size → (∀ g, w.heap.size ≤ g → g < w'.heap.size → w''.heap[g]? = w'.heap[g]?) → HeapAt w'' vc vs (newHp ms) := by
  obtain ⟨a, cap, rfl, hl, hc⟩ := id h
  have hA : Below w.heap.size w ((w.alloc (.cells #[.slice a ms.length cap] 29)).alloc (.cells #[.slice none 0 0, .int .i64 0, .int .i64 0, .slice none 0 0, .int .i64 0] 32)) := ((Below.refl _ _).alloc (Nat.le_refl _) _).alloc (by simp) _
  have bp : ((w.alloc (.cells #[.slice a ms.length cap] 29)).alloc (.cells #[.slice none 0 0, .int .i64 0, .int .i64 0, .slice none 0 0, .int .i64 0] 32)).cell? ⟨w.heap.size, 0, none⟩ = some (.slice a ms.length cap) := by simp [go_sem]
  have bh := five_new (w.alloc (.cells #[.slice a ms.length cap] 29)) 32 (.slice none 0 0) (.int .i64 0) (.int .i64 0) (.slice none 0 0) (.int .i64 0)
  simp only [World.size_alloc] at bh
  go_enter Tryd.func25, Tryd.ntmps25
  go_wp2_with fail
  generalize (w.alloc (.cells #[.slice a ms.length cap] 29)).alloc (.cells #[.slice none 0 0, .int .i64 0, .int .i64 0, .slice none 0 0, .int .i64 0] 32) = W0 at *
  have z0 := hA.size
  refine (specProgOk_any _ ms _ (h.below hA)).mono ?_
  rintro e w1 ⟨rfl, hb1⟩
  have B1 : Below w.heap.size w w1 := hA.trans (hb1.mono z0)
  have bp1 := cell_below hb1 bp
  have bh1 := row_below hb1 bh
  have z1 := B1.size
  have hbz := bh1.lt
  clear hb1 bp bh hA z0
  obtain ⟨⟨x0, x1, x2, x3, x4⟩, ⟨f0, f1, f2, f3, f4⟩⟩ := five_cells bh1
  by_cases hpf : progOk ms = false
  · have hN : Hid (newHp ms = ⟨[], 0, 0, [], 0⟩) := by show newHp ms = _; simp [newHp, hpf]
    have R9 := five_set4 (five_set3 (five_set2 (five_set1 (five_set0 bh1 (.slice none 0 0)) (.int .i64 0)) (.int .i64 0)) (.slice none 0 0)) (.int .i64 0)
    have B9 := ((((B1.setCell (p := ⟨w.heap.size + 1, 0, none⟩) (Nat.le_succ _) (.slice none 0 0)).setCell (p := ⟨w.heap.size + 1, 1, none⟩) (Nat.le_succ _) (.int .i64 0)).setCell (p := ⟨w.heap.size + 1, 2, none⟩) (Nat.le_succ _) (.int .i64 0)).setCell (p := ⟨w.heap.size + 1, 3, none⟩) (Nat.le_succ _) (.slice none 0 0)).setCell (p := ⟨w.heap.size + 1, 4, none⟩) (Nat.le_succ _) (.int .i64 0)
    go_wp2
    generalize ((((w1.setCell ⟨w.heap.size + 1, 0, none⟩ (.slice none 0 0)).setCell ⟨w.heap.size + 1, 1, none⟩ (.int .i64 0)).setCell ⟨w.heap.size + 1, 2, none⟩ (.int .i64 0)).setCell ⟨w.heap.size + 1, 3, none⟩ (.slice none 0 0)).setCell ⟨w.heap.size + 1, 4, none⟩ (.int .i64 0) = W9 at *
    obtain ⟨⟨q0, q1, q2, q3, q4⟩, _⟩ := five_cells R9
    exact bodyPost_ret (v := .tuple #[.agg #[.slice none 0 0, .int .i64 0, .int .i64 0, .slice none 0 0, .int .i64 0], .bool false]) (by simp [results, Tryd.results25, go_sem, q0, q1, q2, q3, q4]) rfl ⟨B9, .slice none 0 0, .slice none 0 0, by rw [hN.out, hpf]; rfl, fun _ _ _ => by rw [hN.out]; exact (OwnHeap.none 0 _).at⟩
  have hp : progOk ms = true := by simpa using hpf
  clear hpf
  obtain ⟨hl0, ht0, ht4, hte, htn⟩ := first_ok hp
  have hm1 := h.below B1
  have HN : Hid (newHp ms = ⟨[⟨0, 0, List.replicate (temps0 ms) (0, 0), [], -1, false⟩], 0, 1, [], 0⟩) := by show newHp ms = _; unfold newHp; rw [if_pos hp]
  have hm2 := hm1.below ((Below.refl _ _).alloc (Nat.le_refl _) (.cells #[] 42))
  have mk := (PairRow.made (B := 0) (w := w1) (e := 42) (Nat.zero_le _)).at
  have bh2 := row_below ((Below.refl _ _).alloc (Nat.le_refl _) (.cells #[] 42)) bh1
  have B2 := B1.alloc z1 (.cells #[] 42)
  have z2 := B2.size
  have hz12 : w1.heap.size ≤ (w1.alloc (.cells #[] 42)).heap.size := by simp
  clear x0 x1 x2 x3 x4 f0 f1 f2 f3 f4
  go_wp2_with fail
  generalize w1.alloc (.cells #[] 42) = w2 at *
  refine (l11Call_any _ _ ms 0 [] (-1) (temps0 ms) _ hm2 hl0 hte.symm (by omega) mk (by simp)).mono ?_
  rintro e w3 ⟨vt, vs, rfl, ht3, hs3, _, hb3⟩
  obtain ⟨at', ct', hvt, _⟩ := ht3.slice
  obtain ⟨as', cs', hvs, _⟩ := hs3.slice
  subst hvt hvs
  unfold clCells
  simp only [List.nil_append, List.length_nil, Nat.sub_zero, List.length_replicate] at ht3 hs3 ⊢
  generalize temps0 ms = t at *
  have B3 : Below w.heap.size w w3 := B2.trans (hb3.mono z2)
  have bh3 := row_below hb3 bh2
  have z3 := B3.size
  have hz23 := hb3.size
  have N5 : ∀ o1 o2, Below w3.heap.size w3 ((w3.alloc o1).alloc o2) := fun o1 o2 => ((Below.refl _ _).alloc (Nat.le_refl _) _).alloc (by simp) _
  have R5 : Hid (∀ o1 o2, ((w3.alloc o1).alloc o2).rowIs (w.heap.size + 1) 32 5 (five (.slice none 0 0) (.int .i64 0) (.int .i64 0) (.slice none 0 0) (.int .i64 0))) := fun o1 o2 => row_below (N5 o1 o2) bh3
  have x0' := fun o1 o2 => (five_cells (R5.out o1 o2)).1.1
  have x1' := fun o1 o2 => (five_cells (R5.out o1 o2)).1.2.1
  have x2' := fun o1 o2 => (five_cells (R5.out o1 o2)).1.2.2.1
  have x3' := fun o1 o2 => (five_cells (R5.out o1 o2)).1.2.2.2.1
  have x4' := fun o1 o2 => (five_cells (R5.out o1 o2)).1.2.2.2.2
  have f0' := fun o1 o2 => (five_cells (R5.out o1 o2)).2.1
  have f1' := fun o1 o2 => (five_cells (R5.out o1 o2)).2.2.1
  have f2' := fun o1 o2 => (five_cells (R5.out o1 o2)).2.2.2.1
  have f3' := fun o1 o2 => (five_cells (R5.out o1 o2)).2.2.2.2.1
  have f4' := fun o1 o2 => (five_cells (R5.out o1 o2)).2.2.2.2.2
  clear hb3 bh2 B2 z2 mk hm1 hm2 hc bh1
  go_wp2_with fail
  have R3 := R5.out (.cells #[.int .i64 0, .int .i64 0, .slice at' t ct', .slice as' 0 cs', .int .i64 (-1), .bool false] 58) (.cells #[] 42)
  have N3 := N5 (.cells #[.int .i64 0, .int .i64 0, .slice at' t ct', .slice as' 0 cs', .int .i64 (-1), .bool false] 58) (.cells #[] 42)
  have S3 := (six_new w3 58 (.int .i64 0) (.int .i64 0) (.slice at' t ct') (.slice as' 0 cs') (.int .i64 (-1)) (.bool false)).alloc (.cells #[] 42)
  have M3 := PairRow.made (B := w2.heap.size) (w := w3.alloc (.cells #[.int .i64 0, .int .i64 0, .slice at' t ct', .slice as' 0 cs', .int .i64 (-1), .bool false] 58)) (e := 42) (by simp; omega)
  simp only [World.size_alloc] at M3
  have P3 := ht3.below N3
  have Q3 := hs3.below N3
  have B5 := B3.trans (N3.mono z3)
  clear x0' x1' x2' x3' x4' f0' f1' f2' f3' f4' R5 N5
  generalize (w3.alloc (.cells #[.int .i64 0, .int .i64 0, .slice at' t ct', .slice as' 0 cs', .int .i64 (-1), .bool false] 58)).alloc (.cells #[] 42) = W3 at *
  have hne : ∀ {v : Value} {xs : List (Int × Int)}, PairRow w2.heap.size W3 v xs → v.ownBlock ≠ some (w.heap.size + 1) := fun hv e => by have := (hv.lt _ e).1; omega
  have nt := hne P3
  have ns := hne Q3
  have nm := hne M3
  have keep : ∀ {v : Value} {xs : List (Int × Int)}, PairRow w2.heap.size W3 v xs → PairRow w2.heap.size (((((W3.setCell ⟨w.heap.size + 1, 0, none⟩ (.slice (some ⟨w3.heap.size, 0, none⟩) 1 1)).setCell ⟨w.heap.size + 1, 1, none⟩ (.int .i64 0)).setCell ⟨w.heap.size + 1, 2, none⟩ (.int .i64 1)).setCell ⟨w.heap.size + 1, 3, none⟩ (.slice (some ⟨w3.heap.size + 1, 0, none⟩) 0 0)).setCell ⟨w.heap.size + 1, 4, none⟩ (.int .i64 0)) v xs := fun hv =>
    ((((hv.set_other (p := ⟨w.heap.size + 1, 0, none⟩) _ (hne hv)).set_other (p := ⟨w.heap.size + 1, 1, none⟩) _ (hne hv)).set_other (p := ⟨w.heap.size + 1, 2, none⟩) _ (hne hv)).set_other (p := ⟨w.heap.size + 1, 3, none⟩) _ (hne hv)).set_other (p := ⟨w.heap.size + 1, 4, none⟩) _ (hne hv)
  have P9 := keep P3
  have Q9 := keep Q3
  have M9 := keep M3
  have R9 := five_set4 (five_set3 (five_set2 (five_set1 (five_set0 R3 (.slice (some ⟨w3.heap.size, 0, none⟩) 1 1)) (.int .i64 0)) (.int .i64 1)) (.slice (some ⟨w3.heap.size + 1, 0, none⟩) 0 0)) (.int .i64 0)
  have B9 := ((((B5.setCell (p := ⟨w.heap.size + 1, 0, none⟩) (Nat.le_succ _) (.slice (some ⟨w3.heap.size, 0, none⟩) 1 1)).setCell (p := ⟨w.heap.size + 1, 1, none⟩) (Nat.le_succ _) (.int .i64 0)).setCell (p := ⟨w.heap.size + 1, 2, none⟩) (Nat.le_succ _) (.int .i64 1)).setCell (p := ⟨w.heap.size + 1, 3, none⟩) (Nat.le_succ _) (.slice (some ⟨w3.heap.size + 1, 0, none⟩) 0 0)).setCell (p := ⟨w.heap.size + 1, 4, none⟩) (Nat.le_succ _) (.int .i64 0)
  have hw3 := bh3.lt
  have S9 := row_set (k := w.heap.size + 1) (o := 4) (row_set (k := w.heap.size + 1) (o := 3) (row_set (k := w.heap.size + 1) (o := 2) (row_set (k := w.heap.size + 1) (o := 1) (row_set (k := w.heap.size + 1) (o := 0) S3 (by omega) (.slice (some ⟨w3.heap.size, 0, none⟩) 1 1)) (by omega) (.int .i64 0)) (by omega) (.int .i64 1)) (by omega) (.slice (some ⟨w3.heap.size + 1, 0, none⟩) 0 0)) (by omega) (.int .i64 0)
  clear keep hne
  generalize ((((W3.setCell ⟨w.heap.size + 1, 0, none⟩ (.slice (some ⟨w3.heap.size, 0, none⟩) 1 1)).setCell ⟨w.heap.size + 1, 1, none⟩ (.int .i64 0)).setCell ⟨w.heap.size + 1, 2, none⟩ (.int .i64 1)).setCell ⟨w.heap.size + 1, 3, none⟩ (.slice (some ⟨w3.heap.size + 1, 0, none⟩) 0 0)).setCell ⟨w.heap.size + 1, 4, none⟩ (.int .i64 0) = W9 at *
  obtain ⟨⟨q0, q1, q2, q3, q4⟩, _⟩ := five_cells R9
  have O9 : ∀ W : World, W9.heap.size ≤ W.heap.size → (∀ g, w.heap.size ≤ g → g < W9.heap.size → W.heap[g]? = W9.heap[g]?) → HeapAt W (.slice (some ⟨w3.heap.size, 0, none⟩) 1 1) (.slice (some ⟨w3.heap.size + 1, 0, none⟩) 0 0) ⟨[⟨0, 0, List.replicate t (0, 0), [], -1, false⟩], 0, 1, [], 0⟩ := by
    intro W hz hk
    obtain ⟨⟨c0, c1, c2, c3, c4, c5⟩, _⟩ := six_cells (S9.of_block (hk _ (by omega) S9.lt))
    have P' := P9.kept hz (fun g e => hk g (by have := (P9.lt g e).1; omega) (P9.lt g e).2)
    have Q' := Q9.kept hz (fun g e => hk g (by have := (Q9.lt g e).1; omega) (Q9.lt g e).2)
    have M' := M9.kept hz (fun g e => hk g (by have := (M9.lt g e).1; omega) (M9.lt g e).2)
    exact ⟨⟨_, 1, rfl, by unfold maxLen; simp, fun i hi => by
      obtain rfl : i = 0 := by simpa using hi
      exact ⟨w3.heap.size, 0, _, _, rfl, c0, c1, c2, c3, c4, c5, P'.at, Q'.at⟩⟩, M'.at⟩
  exact bodyPost_ret (v := .tuple #[.agg #[.slice (some ⟨w3.heap.size, 0, none⟩) 1 1, .int .i64 0, .int .i64 1, .slice (some ⟨w3.heap.size + 1, 0, none⟩) 0 0, .int .i64 0], .bool true]) (by simp [results, Tryd.results25, go_sem, q0, q1, q2, q3, q4]) rfl ⟨B9, _, _, by rw [HN.out, hp]; rfl, by rw [HN.out]; exact O9⟩
end Go.Proofs.YtileneepajcbgaaDoor

/-
  What is seen of a heap, by the model: l11Has, l11Refs, l11Found, l11Names, l11Copy.
-/
namespace Go.Proofs.YtileneepajcbgaaDoor
open Go.RowKit
end Go.Proofs.YtileneepajcbgaaDoor

/-
  What is seen of a heap, by the model: l11Found answers the calls that can be come to.
-/
namespace Go.Proofs.YtileneepajcbgaaDoor
open Go.RowKit
theorem PsOk.nil (n : Nat) : PsOk n [] := ⟨by simp, fun p hp => by cases hp⟩
end Go.Proofs.YtileneepajcbgaaDoor

/-
  Plain facts of the heap that a program begins with: it is ok, one deep, and seen as it is.
-/
namespace Go.Proofs.YtileneepajcbgaaDoor
open Go.RowKit
theorem newHp_yes {ms : List (Int × Int × List (Int × Int))} (h : progOk ms = true) : newHp ms = ⟨[⟨0, 0, List.replicate (temps0 ms) (0, 0), [], -1, false⟩], 0, 1, [], 0⟩ := if_pos h
theorem vals_zero (n : Int) (k : Nat) : valsOk n (List.replicate k (0, 0)) = true := by
  refine valsOk_yes fun i hi => ?_
  simp [valOk]
theorem newHp_ok {ms : List (Int × Int × List (Int × Int))} (h : progOk ms = true) : heapOk ms (newHp ms) = true := by
  obtain ⟨hl, h0, h4, ht, _⟩ := first_ok h
  have hg : ms.getD 0 (0, 0, []) = ms[0] := by simp [hl]
  rw [newHp_yes h]
  have hv := vals_zero 1 (temps0 ms)
  have hz : valsOk 1 [] = true := rfl
  have hz2 : valsOk (ms.length : Int) [] = true := rfl
  have hm : inR 0 0 ((ms.length : Int) - 1) = true := inR_true.2 ⟨by omega, by omega⟩
  have hpc : inR 0 0 (ms[0].2.2.length : Int) = true := inR_true.2 ⟨by omega, by omega⟩
  have hc : clOk ms 1 ⟨0, 0, List.replicate (temps0 ms) (0, 0), [], -1, false⟩ = true := by
    have a2 : inR (-1) (-1) 0 = true := by decide
    have hg2 : ms[0]? = some ms[0] := List.getElem?_eq_getElem hl
    simp [clOk, hg2, ht, hm, hpc, hv, hz, a2]
  have he : endOk ⟨[⟨0, 0, List.replicate (temps0 ms) (0, 0), [], -1, false⟩], 0, 1, [], 0⟩ = true := by
    simp [endOk, chainOf, walkC, liveN, roomP]
  have hd : headOk ms ⟨[⟨0, 0, List.replicate (temps0 ms) (0, 0), [], -1, false⟩], 0, 1, [], 0⟩ = true := by
    have a1 : inR 0 (-1) (1 - 1) = true := by decide
    have a2 : inR 1 1 30 = true := by decide
    have a3 : inR 0 0 3 = true := by decide
    simp [headOk, h, hz2, a2, a3]
    exact a1
  simp only [heapOk, hd, he, List.all_cons, List.all_nil, List.length_cons, List.length_nil, Nat.zero_add, hc, Bool.and_self]
end Go.Proofs.YtileneepajcbgaaDoor

/-
  A piece of a row of values; one operation of a heap, case by case.
-/
namespace Go.Proofs.YtileneepajcbgaaDoor
open Go.RowKit
theorem setH_now {h : Hp} {j : Nat} (hn : h.now = j) (c : Cl) : setH h c = { h with calls := h.calls.set j c } := by
  unfold setH
  rw [hn, Int.toNat_natCast]
theorem val_from (w : World) (a : Option Addr) (n cap k : Nat) (hk : k ≤ n) : (Instr.slice 23 (.slice a n cap) (some (.int .i64 (k : Int))) none none).run Tryd.prog w = .ok (sliced a k n cap 2) w := by
  have hs : ∀ w, (sizeOf (Tryd.prog.elem 23)).run Tryd.prog w = .ok 2 w := fun w => by kernel_rfl
  rw [run_slice_l w 23 a n cap (by kernel_rfl) .i64 k (by omega) (by omega)]
  simp [hs, Result.andThen]
theorem val_to (w : World) (a : Option Addr) (n cap k : Nat) (hk : k ≤ cap) : (Instr.slice 23 (.slice a n cap) none (some (.int .i64 (k : Int))) none).run Tryd.prog w = .ok (sliced a 0 k cap 2) w := by
  have hs : ∀ w, (sizeOf (Tryd.prog.elem 23)).run Tryd.prog w = .ok 2 w := fun w => by kernel_rfl
  rw [run_slice_h w 23 a n cap (by kernel_rfl) .i64 k (by omega) (by omega)]
  simp [hs, Result.andThen]
theorem PairRow.piece {B : Nat} {w : World} {a : Option Addr} {n cap : Nat} {xs : List (Int × Int)} (h : PairRow B w (.slice a n cap) xs) {l k : Nat} (hl : l ≤ k) (hk : k ≤ xs.length) : OpsAt w (sliced a l k cap 2) ((xs.take k).drop l) ∧ k ≤ cap := by
  rcases h with ⟨h0, rfl⟩ | ⟨g, off, cp, hv, hB, hg, hlc, hc, hsp, hx⟩
  · injection h0 with e1 e2 e3
    subst e1 e2 e3
    obtain rfl : k = 0 := by simpa using hk
    obtain rfl : l = 0 := by omega
    exact ⟨⟨_, _, rfl, by simp, fun i hi => absurd hi (by simp)⟩, Nat.le_refl _⟩
  · injection hv with e1 e2 e3
    subst e1 e2 e3
    refine ⟨?_, by omega⟩
    have hlen : ((xs.take k).drop l).length = k - l := by simp; omega
    by_cases e : l = cap
    · have hkl : k - l = 0 := by omega
      have hn : (xs.take k).drop l = [] := List.eq_nil_of_length_eq_zero (by omega)
      rw [hn]
      unfold sliced
      exact ⟨_, _, by rw [List.length_nil, ← hkl], by simp, fun i hi => absurd hi (by simp)⟩
    · unfold sliced
      refine ⟨_, _, by rw [hlen], by rw [hlen]; unfold maxLen at *; omega, fun i hi => ?_⟩
      rw [hlen] at hi
      have hi2 : l + i < xs.length := by omega
      obtain ⟨y0, y1⟩ := hx (l + i) hi2
      refine ⟨g, off + l * 2, ?_, ?_, ?_⟩
      · rw [if_neg (by omega)]
        simp [Addr.add]
      · rw [show off + l * 2 + i * 2 = off + (l + i) * 2 by omega, y0]
        simp
      · rw [show off + l * 2 + i * 2 + 1 = off + (l + i) * 2 + 1 by omega, y1]
        simp
theorem takes_bound {ms : Ms} (hp : progOk ms = true) (kk a : Int) : (0 ≤ (takesOf ms kk a).1 ∧ (takesOf ms kk a).1 ≤ 2) ∧ 0 ≤ (takesOf ms kk a).2 ∧ (takesOf ms kk a).2 ≤ 1 := by
  unfold takesOf
  split
  · split
    · rename_i q
      rw [inR_true] at q
      have hq : a.toNat < ms.length := by omega
      rw [getD_at hq]
      have := (prog_meth hp hq).args
      simp only []
      omega
    · decide
  · simp only []
    unfold tk lv
    refine ⟨?_, ?_⟩
    · split
      · decide
      · split <;> decide
    · split <;> decide
theorem stepH_past {ms : Ms} {h : Hp} {j m pc : Nat} (hn : h.now = j) (hj : j < h.calls.length) (hm : h.calls[j].m = m) (hpc : h.calls[j].pc = pc) (hml : m < ms.length) (hl : ms[m].2.2.length ≤ pc) : stepH ms h = { h with code := 2 } := by
  unfold stepH
  simp only [cur_at hn hj, hm, hpc, Int.toNat_natCast, getD_at hml]
  rw [if_pos (by omega)]
  rfl
theorem opNext_at {ms : Ms} {h : Hp} {j m pc : Nat} (hj : j < h.calls.length) (hm : h.calls[j].m = m) (hpc : h.calls[j].pc = pc) (hml : m < ms.length) (hpl : pc < ms[m].2.2.length) : opNext ms h.calls[j] = ms[m].2.2[pc] := by
  unfold opNext
  rw [hm, hpc, Int.toNat_natCast, Int.toNat_natCast, getD_at hml, getD_at hpl]
theorem stepH_at {ms : Ms} {h : Hp} {j m pc : Nat} (hn : h.now = j) (hj : j < h.calls.length) (hm : h.calls[j].m = m) (hpc : h.calls[j].pc = pc) (hml : m < ms.length) (hpl : pc < ms[m].2.2.length) {kk a t l : Int} (ho : ms[m].2.2[pc] = (kk, a)) (ht : takesOf ms kk a = (t, l)) :
    stepH ms h = if (h.calls[j].stack.length : Int) - t < 0 ∨ 6 < (h.calls[j].stack.length : Int) - t + l then { h with code := 2 }
      else if kindsOk kk (h.calls[j].stack.drop ((h.calls[j].stack.length : Int) - t).toNat) = false then { h with code := 2 }
      else doH ms { h with calls := h.calls.set j { h.calls[j] with stack := h.calls[j].stack.take ((h.calls[j].stack.length : Int) - t).toNat, pc := (pc : Int) + 1 } } kk a (h.calls[j].stack.drop ((h.calls[j].stack.length : Int) - t).toNat) := by
  unfold stepH
  simp only [cur_at hn hj, opNext_at hj hm hpc hml hpl, ho, ht]
  rw [hm, Int.toNat_natCast, getD_at hml, if_neg (by rw [hpc]; omega), setH_now hn, hpc]
  rfl
theorem doing_at {ms : Ms} {h : Hp} {j m pc : Nat} (hg : Good ms h) (hc : h.code = 0) (hn : h.now = j) (hj : j < h.calls.length) (hm : h.calls[j].m = m) (hpc : h.calls[j].pc = pc) (hml : m < ms.length) (hpl : pc < ms[m].2.2.length) {kk a t l : Int} (ho : ms[m].2.2[pc] = (kk, a)) (ht : takesOf ms kk a = (t, l))
    (h2 : ¬ ((h.calls[j].stack.length : Int) - t < 0 ∨ 6 < (h.calls[j].stack.length : Int) - t + l)) (h3 : kindsOk kk (h.calls[j].stack.drop ((h.calls[j].stack.length : Int) - t).toNat) = true) :
    Doing ms { h with calls := h.calls.set j { h.calls[j] with stack := h.calls[j].stack.take ((h.calls[j].stack.length : Int) - t).toNat, pc := (pc : Int) + 1 } } j kk a (h.calls[j].stack.drop ((h.calls[j].stack.length : Int) - t).toNat) := by
  have h1 : ¬ ((ms.getD (curC h).m.toNat (0, 0, [])).2.2.length : Int) ≤ (curC h).pc := by
    rw [cur_at hn hj, hm, Int.toNat_natCast, getD_at hml, hpc]
    omega
  have e : opNext ms (curC h) = (kk, a) := by rw [cur_at hn hj, opNext_at hj hm hpc hml hpl, ho]
  obtain ⟨j', d⟩ := hg.doing hc h1 (by rw [e]; simp only []; rw [ht, cur_at hn hj]; exact h2) (by rw [e]; simp only []; rw [ht, cur_at hn hj]; exact h3)
  rw [e] at d
  simp only [] at d
  rw [ht, cur_at hn hj, setH_now hn, hpc] at d
  have hjj : j' = j := by have := d.now; simp only [] at this; omega
  subst hjj
  exact d
end Go.Proofs.YtileneepajcbgaaDoor
