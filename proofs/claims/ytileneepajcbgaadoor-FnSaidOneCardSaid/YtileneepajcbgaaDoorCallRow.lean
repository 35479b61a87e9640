/-
  Rows of calls of their own: a call is appended to them.
-/
import Derived.Test.YtileneepajcbgaaDoorVals

namespace Go.Proofs.YtileneepajcbgaaDoor
open Go.RowKit
def cells6 (x : Cl × Value × Value) : List Value := [.int .i64 x.1.m, .int .i64 x.1.pc, x.2.1, x.2.2, .int .i64 x.1.sender, .bool x.1.dead]
def rowC (L : List (Cl × Value × Value)) : List Value := L.flatMap cells6
theorem rowC_append (a b : List (Cl × Value × Value)) : rowC (a ++ b) = rowC a ++ rowC b := by simp [rowC]
theorem rowC_length (a : List (Cl × Value × Value)) : (rowC a).length = a.length * 6 := by
  induction a with
  | nil => rfl
  | cons x l ih => simp [rowC, cells6] at ih ⊢; omega
theorem rowC_at (a : List (Cl × Value × Value)) : ∀ (i : Nat) (h : i < a.length), (rowC a)[i * 6]? = some (.int .i64 a[i].1.m) ∧ (rowC a)[i * 6 + 1]? = some (.int .i64 a[i].1.pc) ∧ (rowC a)[i * 6 + 2]? = some a[i].2.1 ∧ (rowC a)[i * 6 + 3]? = some a[i].2.2 ∧ (rowC a)[i * 6 + 4]? = some (.int .i64 a[i].1.sender) ∧ (rowC a)[i * 6 + 5]? = some (.bool a[i].1.dead) := by
  induction a with
  | nil => intro i h; exact absurd h (Nat.not_lt_zero _)
  | cons x l ih =>
    intro i h
    cases i with
    | zero => exact ⟨rfl, rfl, rfl, rfl, rfl, rfl⟩
    | succ i =>
      have := ih i (by simpa using h)
      rw [show (i + 1) * 6 = i * 6 + 6 by omega]
      exact this
def CallRow (B : Nat) (w : World) (v : Value) (L : List (Cl × Value × Value)) : Prop := CRow B 6 w v L.length (rowC L)
theorem CallRow.nil (B : Nat) (w : World) : CallRow B w (.slice none 0 0) [] := CRow.nil B 6 w
theorem CallRow.made {B : Nat} {w : World} {e : TypeId} (hB : B ≤ w.heap.size) : CallRow B (w.alloc (.cells #[] e)) (.slice (some ⟨w.heap.size, 0, none⟩) 0 0) [] := CRow.made hB
theorem CallRow.lt {B : Nat} {w : World} {v : Value} {L : List (Cl × Value × Value)} (h : CallRow B w v L) : ∀ k, v.ownBlock = some k → B ≤ k ∧ k < w.heap.size := CRow.lt h
theorem CallRow.kept {B : Nat} {w w' : World} {v : Value} {L : List (Cl × Value × Value)} (h : CallRow B w v L) (hsz : w.heap.size ≤ w'.heap.size) (hb : ∀ g, v.ownBlock = some g → w'.heap[g]? = w.heap[g]?) : CallRow B w' v L := CRow.kept h hsz hb
theorem CallRow.below {B : Nat} {w w' : World} {v : Value} {L : List (Cl × Value × Value)} (h : CallRow B w v L) (hb : Below w.heap.size w w') : CallRow B w' v L := CRow.below h hb
theorem CallRow.slice {B : Nat} {w : World} {v : Value} {L : List (Cl × Value × Value)} (h : CallRow B w v L) : ∃ a cap, v = .slice a L.length cap ∧ L.length ≤ maxLen := by
  rcases h.2 with ⟨rfl, e⟩ | ⟨g, off, cap, hv, hB, hg, hl, hc, _⟩
  · exact ⟨none, 0, by rw [e], by rw [e]; omega⟩
  · exact ⟨_, cap, hv, by omega⟩
theorem run_append_call {ty : TypeId} {B : Nat} {w : World} {v : Value} {L : List (Cl × Value × Value)} (hown : CallRow B w v L) (x : Cl × Value × Value) (h1 : x.2.1.oneCell' = true) (h2 : x.2.2.oneCell' = true) (H c : Nat)
    (hx : ∀ j u, (cells6 x)[j]? = some u → w.cell? ⟨H, j, none⟩ = some u) (hL : L.length ≤ 900000) (hB : B ≤ w.heap.size) :
    ∃ v' w', (Builtin.append_ #[30, 30] ty #[v, .slice (some ⟨H, 0, none⟩) 1 c]).run Tryd.prog w = .ok v' w' ∧ CallRow B w' v' (L ++ [x]) ∧ w.grownBy w' v.ownBlock ∧ (v'.ownBlock = v.ownBlock ∨ v'.ownBlock = some w.heap.size) := by
  obtain ⟨i0, hi, hz0, hz1, hz2⟩ := info_parts Tryd.infoCall
  have hs : Src Tryd.prog 6 30 (.slice (some ⟨H, 0, none⟩) 1 c) 1 (cells6 x) w := Src.ofSlice w Tryd.underlying30 ⟨H, 0, none⟩ 1 c (cells6 x) rfl (fun j u hu => by rw [Addr.add_lit, Nat.zero_add]; exact hx j u hu) (fun u hu => by
    simp only [cells6, List.mem_cons, List.not_mem_nil, or_false] at hu
    rcases hu with rfl | rfl | rfl | rfl | rfl | rfl
    · rfl
    · rfl
    · exact h1
    · exact h2
    · rfl
    · rfl)
  have ho : CRow B 6 w v L.length (rowC L) := hown
  rw [← hz1] at hs ho
  obtain ⟨v', w', hr, hc, hg, hb⟩ := run_append_rows (P := Tryd.prog) (ty := ty) Tryd.underlying30 hi hz0 (by rw [hz1]; rfl) (by rw [hz2]; omega) ho _ 1 (cells6 x) hs (by omega) hB
  refine ⟨v', w', hr, ?_, hg, hb⟩
  rw [hz1] at hc
  unfold CallRow
  rw [rowC_append, List.length_append]
  simpa [rowC] using hc
theorem cells6_of {w : World} {g : Nat} {t : TypeId} {x : Cl × Value × Value} (h : w.rowIs g t 6 (six (.int .i64 x.1.m) (.int .i64 x.1.pc) x.2.1 x.2.2 (.int .i64 x.1.sender) (.bool x.1.dead))) : ∀ j u, (cells6 x)[j]? = some u → w.cell? ⟨g, j, none⟩ = some u := by
  obtain ⟨⟨q0, q1, q2, q3, q4, q5⟩, _⟩ := six_cells h
  intro j u hu
  have hj : j < 6 := by
    by_cases h : j < 6
    · exact h
    · rw [List.getElem?_eq_none (by simp [cells6]; omega)] at hu; cases hu
  have h6 : j = 0 ∨ j = 1 ∨ j = 2 ∨ j = 3 ∨ j = 4 ∨ j = 5 := by omega
  rcases h6 with rfl | rfl | rfl | rfl | rfl | rfl <;> (simp [cells6] at hu; subst hu; assumption)
theorem CallRow.at {B : Nat} {w : World} {v : Value} {L : List (Cl × Value × Value)} (h : CallRow B w v L) (hl : ∀ i, (hi : i < L.length) → OpsAt w L[i].2.1 L[i].1.temps ∧ OpsAt w L[i].2.2 L[i].1.stack) : CallsAt w v (L.map (·.1)) := by
  rcases h.2 with ⟨rfl, e⟩ | ⟨g, off, cap, rfl, hB, hg, hlc, hc, hsp, hx⟩
  · obtain rfl := List.eq_nil_of_length_eq_zero e
    exact CallsAt.nil w
  · refine ⟨some ⟨g, off, none⟩, cap, by simp, by simp; omega, fun i hi => ?_⟩
    have hi' : i < L.length := by simpa using hi
    obtain ⟨r0, r1, r2, r3, r4, r5⟩ := rowC_at L i hi'
    have hrl := rowC_length L
    have hget : ∀ (j : Nat) (u : Value), (rowC L)[j]? = some u → w.cell? ⟨g, off + j, none⟩ = some u := fun j u hu => by
      have hj : j < (rowC L).length := by
        by_cases h : j < (rowC L).length
        · exact h
        · rw [List.getElem?_eq_none (by omega)] at hu; cases hu
      rw [hx j hj, ← List.getElem?_eq_getElem, hu]
    obtain ⟨ht, hs⟩ := hl i hi'
    refine ⟨g, off, L[i].2.1, L[i].2.2, rfl, ?_, ?_, ?_, ?_, ?_, ?_, ?_, ?_⟩
    · simpa using hget _ _ r0
    · simpa [Nat.add_assoc] using hget _ _ r1
    · simpa [Nat.add_assoc] using hget _ _ r2
    · simpa [Nat.add_assoc] using hget _ _ r3
    · simpa [Nat.add_assoc] using hget _ _ r4
    · simpa [Nat.add_assoc] using hget _ _ r5
    · simpa using ht
    · simpa using hs
end Go.Proofs.YtileneepajcbgaaDoor

/-
  Calls in a row with their lists: no two lists share a block. Nothing of the translation is used here.
-/
namespace Go.Proofs.YtileneepajcbgaaDoor
open Go.RowKit
def ApartL (L : List (Cl × Value × Value)) (o : Value) : Prop := ∀ q, q < L.length * 2 → ∀ g, (lst (fun i => (L.getD i (Cl.none, .slice none 0 0, .slice none 0 0)).2) q).ownBlock = some g →
  o.ownBlock ≠ some g ∧ ∀ q', q' < L.length * 2 → q' ≠ q → (lst (fun i => (L.getD i (Cl.none, .slice none 0 0, .slice none 0 0)).2) q').ownBlock ≠ some g
theorem lst_snoc_left {L : List (Cl × Value × Value)} {x : Cl × Value × Value} {q : Nat} (h : q < L.length * 2) : lst (fun i => ((L ++ [x]).getD i (Cl.none, .slice none 0 0, .slice none 0 0)).2) q = lst (fun i => (L.getD i (Cl.none, .slice none 0 0, .slice none 0 0)).2) q := by
  unfold lst
  have h2 : q / 2 < L.length := by omega
  simp [List.getElem?_append_left h2]
theorem lst_snoc_0 {L : List (Cl × Value × Value)} {x : Cl × Value × Value} : lst (fun i => ((L ++ [x]).getD i (Cl.none, .slice none 0 0, .slice none 0 0)).2) (L.length * 2) = x.2.1 := by
  rw [lst_0]; simp
theorem lst_snoc_1 {L : List (Cl × Value × Value)} {x : Cl × Value × Value} : lst (fun i => ((L ++ [x]).getD i (Cl.none, .slice none 0 0, .slice none 0 0)).2) (L.length * 2 + 1) = x.2.2 := by
  rw [lst_1]; simp
theorem apart_snoc {L : List (Cl × Value × Value)} {x : Cl × Value × Value} {o o' : Value} {S S' : Nat} (h : ApartL L o) (hlt : ∀ q, q < L.length * 2 → ∀ g, (lst (fun i => (L.getD i (Cl.none, .slice none 0 0, .slice none 0 0)).2) q).ownBlock = some g → g < S)
    (hx1 : ∀ g, x.2.1.ownBlock = some g → S ≤ g ∧ g < S') (hx2 : ∀ g, x.2.2.ownBlock = some g → S ≤ g ∧ g < S') (hx : ∀ g, x.2.1.ownBlock = some g → x.2.2.ownBlock ≠ some g) (ho : ∀ g, o.ownBlock = some g → g < S) (ho' : ∀ g, o'.ownBlock = some g → o.ownBlock = some g ∨ S' ≤ g) (hS : S ≤ S') :
    ApartL (L ++ [x]) o' := by
  intro q hq g hg
  rw [List.length_append, List.length_singleton] at hq
  have key : ∀ q', q' < (L.length + 1) * 2 → (q' < L.length * 2 ∧ lst (fun i => ((L ++ [x]).getD i (Cl.none, .slice none 0 0, .slice none 0 0)).2) q' = lst (fun i => (L.getD i (Cl.none, .slice none 0 0, .slice none 0 0)).2) q') ∨ (q' = L.length * 2 ∧ lst (fun i => ((L ++ [x]).getD i (Cl.none, .slice none 0 0, .slice none 0 0)).2) q' = x.2.1) ∨ (q' = L.length * 2 + 1 ∧ lst (fun i => ((L ++ [x]).getD i (Cl.none, .slice none 0 0, .slice none 0 0)).2) q' = x.2.2) := fun q' h' => by
    by_cases e : q' < L.length * 2
    · exact .inl ⟨e, lst_snoc_left e⟩
    · by_cases e2 : q' = L.length * 2
      · exact .inr (.inl ⟨e2, by rw [e2]; exact lst_snoc_0⟩)
      · have e3 : q' = L.length * 2 + 1 := by omega
        exact .inr (.inr ⟨e3, by rw [e3]; exact lst_snoc_1⟩)
  refine ⟨fun eo => ?_, fun q' hq' hne e' => ?_⟩
  · rcases key q hq with ⟨k1, k2⟩ | ⟨k1, k2⟩ | ⟨k1, k2⟩
    · rw [k2] at hg
      rcases ho' g eo with h1 | h1
      · exact (h q k1 g hg).1 h1
      · have := hlt q k1 g hg; omega
    · rw [k2] at hg
      have h2 := hx1 g hg
      rcases ho' g eo with h1 | h1
      · have := ho g h1; omega
      · omega
    · rw [k2] at hg
      have h2 := hx2 g hg
      rcases ho' g eo with h1 | h1
      · have := ho g h1; omega
      · omega
  · rw [List.length_append, List.length_singleton] at hq'
    rcases key q hq with ⟨k1, k2⟩ | ⟨k1, k2⟩ | ⟨k1, k2⟩ <;> rcases key q' hq' with ⟨m1, m2⟩ | ⟨m1, m2⟩ | ⟨m1, m2⟩ <;> rw [k2] at hg <;> rw [m2] at e'
    · exact (h q k1 g hg).2 q' m1 hne e'
    · have h1 := hlt q k1 g hg; have h2 := hx1 g e'; omega
    · have h1 := hlt q k1 g hg; have h2 := hx2 g e'; omega
    · have h1 := hlt q' m1 g e'; have h2 := hx1 g hg; omega
    · omega
    · exact hx g hg e'
    · have h1 := hlt q' m1 g e'; have h2 := hx2 g hg; omega
    · exact hx g e' hg
    · omega
theorem CallRow.own {B : Nat} {w : World} {v : Value} {L : List (Cl × Value × Value)} (h : CallRow B w v L) (hl : ∀ j, (hj : j < L.length) → PairRow B w L[j].2.1 L[j].1.temps ∧ PairRow B w L[j].2.2 L[j].1.stack) (ha : ApartL L v) :
    OwnCalls B w v (L.map (·.1)) (fun i => (L.getD i (Cl.none, .slice none 0 0, .slice none 0 0)).2) := by
  have hget : ∀ i, (hi : i < L.length) → L.getD i (Cl.none, .slice none 0 0, .slice none 0 0) = L[i] := fun i hi => by simp [hi]
  refine ⟨?_, fun i hi => ?_, fun q hq g hg => ?_⟩
  · rcases h.2 with ⟨rfl, e⟩ | ⟨g, off, cap, rfl, hB, hg, hlc, hc, hsp, hx⟩
    · exact .inl ⟨rfl, by rw [List.eq_nil_of_length_eq_zero e]; rfl⟩
    · refine .inr ⟨g, off, cap, by simp, hB, hg, by simpa using hlc, hc, hsp, fun i hi => ?_⟩
      have hi' : i < L.length := by simpa using hi
      obtain ⟨r0, r1, r2, r3, r4, r5⟩ := rowC_at L i hi'
      have hgt : ∀ (j : Nat) (u : Value), (rowC L)[j]? = some u → w.cell? ⟨g, off + j, none⟩ = some u := fun j u hu => by
        have hj : j < (rowC L).length := by
          by_cases h : j < (rowC L).length
          · exact h
          · rw [List.getElem?_eq_none (by omega)] at hu; cases hu
        rw [hx j hj, ← List.getElem?_eq_getElem, hu]
      rw [hget i hi']
      refine ⟨?_, ?_, ?_, ?_, ?_, ?_⟩
      · simpa using hgt _ _ r0
      · simpa [Nat.add_assoc] using hgt _ _ r1
      · simpa [Nat.add_assoc] using hgt _ _ r2
      · simpa [Nat.add_assoc] using hgt _ _ r3
      · simpa [Nat.add_assoc] using hgt _ _ r4
      · simpa [Nat.add_assoc] using hgt _ _ r5
  · have hi' : i < L.length := by simpa using hi
    rw [hget i hi']
    simpa using hl i hi'
  · rw [List.length_map] at hq ⊢
    exact ha q hq g hg
theorem lists_lt {B : Nat} {w : World} {L : List (Cl × Value × Value)} (hl : ∀ j, (hj : j < L.length) → PairRow B w L[j].2.1 L[j].1.temps ∧ PairRow B w L[j].2.2 L[j].1.stack) : ∀ q, q < L.length * 2 → ∀ g, (lst (fun i => (L.getD i (Cl.none, .slice none 0 0, .slice none 0 0)).2) q).ownBlock = some g → g < w.heap.size := fun q hq g hg => by
  have hi : q / 2 < L.length := by omega
  have hget : L.getD (q / 2) (Cl.none, .slice none 0 0, .slice none 0 0) = L[q / 2] := by simp [hi]
  rcases Nat.mod_two_eq_zero_or_one q with hm | hm
  · rw [show q = q / 2 * 2 by omega, lst_0, hget] at hg
    exact ((hl _ hi).1.lt g hg).2
  · rw [show q = q / 2 * 2 + 1 by omega, lst_1, hget] at hg
    exact ((hl _ hi).2.lt g hg).2
end Go.Proofs.YtileneepajcbgaaDoor
