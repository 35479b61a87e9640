/-
  Calls in a row with their lists: no two lists share a block. Nothing of the translation is used here.
-/
import Derived.Test.YtldiccheboipeaaCallRow
namespace Go.Proofs.Ytldiccheboipeaa
open Go.RowKit

/-- no two lists of calls in a row share a block, nor any the row's -/
def ApartL (L : List (Cl × Value × Value)) (o : Value) : Prop := ∀ q, q < L.length * 2 → ∀ g, (lst (fun i => (L.getD i (Cl.none, .slice none 0 0, .slice none 0 0)).2) q).ownBlock = some g →
  o.ownBlock ≠ some g ∧ ∀ q', q' < L.length * 2 → q' ≠ q → (lst (fun i => (L.getD i (Cl.none, .slice none 0 0, .slice none 0 0)).2) q').ownBlock ≠ some g

theorem lst_snoc_left {L : List (Cl × Value × Value)} {x : Cl × Value × Value} {q : Nat} (h : q < L.length * 2) : lst (fun i => ((L ++ [x]).getD i (Cl.none, .slice none 0 0, .slice none 0 0)).2) q = lst (fun i => (L.getD i (Cl.none, .slice none 0 0, .slice none 0 0)).2) q := by
  unfold lst
  have h2 : q / 2 < L.length := by omega
  simp [List.getElem?_append_left h2]
theorem lst_snoc_0 {L : List (Cl × Value × Value)} {x : Cl × Value × Value} : lst (fun i => ((L ++ [x]).getD i (Cl.none, .slice none 0 0, .slice none 0 0)).2) (L.length * 2) = x.2.1 := by
  rw [lst_0]; simp
theorem lst_snoc_1 {L : List (Cl × Value × Value)} {x : Cl × Value × Value} : lst (fun i => ((L ++ [x]).getD i (Cl.none, .slice none 0 0, .slice none 0 0)).2) (L.length * 2 + 1) = x.2.2 := by
  rw [lst_1]; simp

theorem apart_snoc {L : List (Cl × Value × Value)} {x : Cl × Value × Value} {o o' : Value} {S S' : Nat} (h : ApartL L o) (hlt : ∀ q, q < L.length * 2 → ∀ g, (lst (fun i => (L.getD i (Cl.none, .slice none 0 0, .slice none 0 0)).2) q).ownBlock = some g → g < S)
    (hx1 : ∀ g, x.2.1.ownBlock = some g → S ≤ g ∧ g < S') (hx2 : ∀ g, x.2.2.ownBlock = some g → S ≤ g ∧ g < S') (hx : ∀ g, x.2.1.ownBlock = some g → x.2.2.ownBlock ≠ some g) (ho : ∀ g, o.ownBlock = some g → g < S) (ho' : ∀ g, o'.ownBlock = some g → o.ownBlock = some g ∨ S' ≤ g) (hS : S ≤ S') :
    ApartL (L ++ [x]) o' := by
  intro q hq g hg
  rw [List.length_append, List.length_singleton] at hq
  have key : ∀ q', q' < (L.length + 1) * 2 → (q' < L.length * 2 ∧ lst (fun i => ((L ++ [x]).getD i (Cl.none, .slice none 0 0, .slice none 0 0)).2) q' = lst (fun i => (L.getD i (Cl.none, .slice none 0 0, .slice none 0 0)).2) q') ∨ (q' = L.length * 2 ∧ lst (fun i => ((L ++ [x]).getD i (Cl.none, .slice none 0 0, .slice none 0 0)).2) q' = x.2.1) ∨ (q' = L.length * 2 + 1 ∧ lst (fun i => ((L ++ [x]).getD i (Cl.none, .slice none 0 0, .slice none 0 0)).2) q' = x.2.2) := fun q' h' => by
    by_cases e : q' < L.length * 2
    · exact .inl ⟨e, lst_snoc_left e⟩
    · by_cases e2 : q' = L.length * 2
      · exact .inr (.inl ⟨e2, by rw [e2]; exact lst_snoc_0⟩)
      · have e3 : q' = L.length * 2 + 1 := by omega
        exact .inr (.inr ⟨e3, by rw [e3]; exact lst_snoc_1⟩)
  refine ⟨fun eo => ?_, fun q' hq' hne e' => ?_⟩
  · rcases key q hq with ⟨k1, k2⟩ | ⟨k1, k2⟩ | ⟨k1, k2⟩
    · rw [k2] at hg
      rcases ho' g eo with h1 | h1
      · exact (h q k1 g hg).1 h1
      · have := hlt q k1 g hg; omega
    · rw [k2] at hg
      have h2 := hx1 g hg
      rcases ho' g eo with h1 | h1
      · have := ho g h1; omega
      · omega
    · rw [k2] at hg
      have h2 := hx2 g hg
      rcases ho' g eo with h1 | h1
      · have := ho g h1; omega
      · omega
  · rw [List.length_append, List.length_singleton] at hq'
    rcases key q hq with ⟨k1, k2⟩ | ⟨k1, k2⟩ | ⟨k1, k2⟩ <;> rcases key q' hq' with ⟨m1, m2⟩ | ⟨m1, m2⟩ | ⟨m1, m2⟩ <;> rw [k2] at hg <;> rw [m2] at e'
    · exact (h q k1 g hg).2 q' m1 hne e'
    · have h1 := hlt q k1 g hg; have h2 := hx1 g e'; omega
    · have h1 := hlt q k1 g hg; have h2 := hx2 g e'; omega
    · have h1 := hlt q' m1 g e'; have h2 := hx1 g hg; omega
    · omega
    · exact hx g hg e'
    · have h1 := hlt q' m1 g e'; have h2 := hx2 g hg; omega
    · exact hx g e' hg
    · omega

/-- a row of calls with its lists is calls in memory of their own -/
theorem CallRow.own {B : Nat} {w : World} {v : Value} {L : List (Cl × Value × Value)} (h : CallRow B w v L) (hl : ∀ j, (hj : j < L.length) → PairRow B w L[j].2.1 L[j].1.temps ∧ PairRow B w L[j].2.2 L[j].1.stack) (ha : ApartL L v) :
    OwnCalls B w v (L.map (·.1)) (fun i => (L.getD i (Cl.none, .slice none 0 0, .slice none 0 0)).2) := by
  have hget : ∀ i, (hi : i < L.length) → L.getD i (Cl.none, .slice none 0 0, .slice none 0 0) = L[i] := fun i hi => by simp [hi]
  refine ⟨?_, fun i hi => ?_, fun q hq g hg => ?_⟩
  · rcases h.2 with ⟨rfl, e⟩ | ⟨g, off, cap, rfl, hB, hg, hlc, hc, hsp, hx⟩
    · exact .inl ⟨rfl, by rw [List.eq_nil_of_length_eq_zero e]; rfl⟩
    · refine .inr ⟨g, off, cap, by simp, hB, hg, by simpa using hlc, hc, hsp, fun i hi => ?_⟩
      have hi' : i < L.length := by simpa using hi
      obtain ⟨r0, r1, r2, r3, r4, r5⟩ := rowC_at L i hi'
      have hgt : ∀ (j : Nat) (u : Value), (rowC L)[j]? = some u → w.cell? ⟨g, off + j, none⟩ = some u := fun j u hu => by
        have hj : j < (rowC L).length := by
          by_cases h : j < (rowC L).length
          · exact h
          · rw [List.getElem?_eq_none (by omega)] at hu; cases hu
        rw [hx j hj, ← List.getElem?_eq_getElem, hu]
      rw [hget i hi']
      refine ⟨?_, ?_, ?_, ?_, ?_, ?_⟩
      · simpa using hgt _ _ r0
      · simpa [Nat.add_assoc] using hgt _ _ r1
      · simpa [Nat.add_assoc] using hgt _ _ r2
      · simpa [Nat.add_assoc] using hgt _ _ r3
      · simpa [Nat.add_assoc] using hgt _ _ r4
      · simpa [Nat.add_assoc] using hgt _ _ r5
  · have hi' : i < L.length := by simpa using hi
    rw [hget i hi']
    simpa using hl i hi'
  · rw [List.length_map] at hq ⊢
    exact ha q hq g hg

theorem lists_lt {B : Nat} {w : World} {L : List (Cl × Value × Value)} (hl : ∀ j, (hj : j < L.length) → PairRow B w L[j].2.1 L[j].1.temps ∧ PairRow B w L[j].2.2 L[j].1.stack) : ∀ q, q < L.length * 2 → ∀ g, (lst (fun i => (L.getD i (Cl.none, .slice none 0 0, .slice none 0 0)).2) q).ownBlock = some g → g < w.heap.size := fun q hq g hg => by
  have hi : q / 2 < L.length := by omega
  have hget : L.getD (q / 2) (Cl.none, .slice none 0 0, .slice none 0 0) = L[q / 2] := by simp [hi]
  rcases Nat.mod_two_eq_zero_or_one q with hm | hm
  · rw [show q = q / 2 * 2 by omega, lst_0, hget] at hg
    exact ((hl _ hi).1.lt g hg).2
  · rw [show q = q / 2 * 2 + 1 by omega, lst_1, hget] at hg
    exact ((hl _ hi).2.lt g hg).2

end Go.Proofs.Ytldiccheboipeaa
