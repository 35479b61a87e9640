/-
  The program's readMethods: whatever runes come in it returns, and the runes of lines that may be are read as they are gathered; it writes to nothing that was there.
-/
import Derived.Test.YtlbkgnmalhidmaaDoorReadImpl5
import Derived.Test.YtlbkgnmalhidmaaDoorReadText
namespace Go.Proofs.YtlbkgnmalhidmaaDoor
open Go.RowKit

/-- the runes of lines that may be, the first a method's -/
structure Valid (items : List (Nat × Nat × Nat)) (rs : List Int) : Prop where
  fine : ∀ i ∈ items, Fine i
  first : ∀ i l, items = i :: l → i.1 = 0
  text : rs = runes (textOf items)

theorem Far.start {items : List (Nat × Nat × Nat)} {rs : List Int} (h : Valid items rs) : Far items rs [] [] items := ⟨rfl, h.text, rfl, .inl rfl⟩

theorem Far.ended {items : List (Nat × Nat × Nat)} {ms : List Meth} {done left : List (Nat × Nat × Nat)} (h : Far items [] ms done left) : ms = gather items := by
  have h1 := h.rst
  cases left with
  | nil => rw [h.all, List.append_nil]; exact h.gat
  | cons i l => rw [textOf_cons] at h1; simp at h1

/-- the next line: it is there, and it is taken -/
theorem Far.line {items : List (Nat × Nat × Nat)} {rs rest : List Int} {ms : List Meth} {done left : List (Nat × Nat × Nat)} (hv : Valid items rs) (h : Far items rest ms done left) (hne : rest ≠ []) :
    ∃ i left' t, left = i :: left' ∧ Fine i ∧ t = runes (textOf left') ∧ rest.takeWhile letter = runes (wordL i) ∧ lineNums (rest.length + 1) (rest.dropWhile letter) [] = some (numsL i, 10 :: t) ∧ (i.1 = 0 ∨ ms ≠ []) := by
  cases left with
  | nil => exact absurd (by rw [h.rst]; rfl) hne
  | cons i l =>
    have hi : Fine i := hv.fine i (by rw [h.all]; simp)
    have hr := h.rst
    rw [textOf_cons] at hr
    have hl := line_len hi
    have := line_read hi (runes (textOf l)) (rest.length + 1) (by rw [hr]; simp [runes]; omega)
    rw [← hr] at this
    refine ⟨i, l, _, rfl, hi, rfl, this.1, this.2, ?_⟩
    rcases h.som with e | e
    · have := hv.first i l (by rw [h.all, e]; rfl)
      exact .inl this
    · exact .inr e

theorem kind_eq {j k : Nat} (hj1 : 1 ≤ j) (hj : j ≤ 18) (hk1 : 1 ≤ k) (hk : k ≤ 18) (h : wordOf (j : Int) = wordOf (k : Int)) : j = k := by
  have := words_apart ⟨j - 1, by omega⟩ ⟨k - 1, by omega⟩ (by
    simp only [show j - 1 + 1 = j by omega, show k - 1 + 1 = k by omega]; exact h)
  have := congrArg Fin.val this
  simp only at this
  omega

theorem meth_ne {j : Nat} (hj1 : 1 ≤ j) (hj : j ≤ 18) : wordOf (j : Int) ≠ methW := by
  have := words_meth ⟨j - 1, by omega⟩
  simp only [show j - 1 + 1 = j by omega] at this
  exact this

/-- what is added is the line's -/
theorem with_add {i : Nat × Nat × Nat} (hi : Fine i) {ms ms' : List Meth} (h : withP ms (wordL i) (numsL i) ms') : ms' = addLine ms i := by
  obtain ⟨k, a, b⟩ := i
  rcases hi with ⟨h0, h1, h2⟩ | ⟨h1, h2, h3, h4, h5⟩
  · simp only at h0
    subst h0
    rcases h with ⟨_, _, e⟩ | ⟨hne, _⟩
    · rw [e]; simp [numsL, addLine]
    · exact absurd (by simp [wordL, methW]) hne
  · simp only at h1 h2 h3 h4 h5
    subst h4
    have hk0 : ¬ k = 0 := by omega
    have hw : wordL (k, a, 0) = wordOf (k : Int) := wordOf_L hk0
    rcases h with ⟨e, _⟩ | ⟨_, k', l, m, hk1, hk2, e1, _, e3, e4⟩
    · rw [hw] at e; exact absurd e (meth_ne h1 h2)
    · rw [hw] at e1
      have := kind_eq hk1 hk2 h1 h2 e1
      subst this
      have ea : (numsL (k', a, 0)).headD 0 = (a : Int) := by
        unfold numsL
        simp only [if_neg hk0]
        cases hh : hasA (k' : Int)
        · rw [h5 hh]; simp
        · simp
      rw [e4, e3, addLine_op hk0, ea]

theorem line_taken {i : Nat × Nat × Nat} (hi : Fine i) {ms : List Meth} (hs : i.1 = 0 ∨ ms ≠ []) (h : NoLine ms (wordL i) (numsL i)) : False := by
  obtain ⟨k, a, b⟩ := i
  rcases hi with ⟨h0, h1, h2⟩ | ⟨h1, h2, h3, h4, h5⟩
  · simp only at h0
    subst h0
    rcases h with ⟨_, e⟩ | ⟨hne, _⟩
    · exact e (by simp [numsL])
    · exact hne (by simp [wordL, methW])
  · simp only at h1 h2 h3 h4 h5 hs
    have hk0 : ¬ k = 0 := by omega
    have hw : wordL (k, a, b) = wordOf (k : Int) := wordOf_L hk0
    rcases h with ⟨e, _⟩ | ⟨_, e | e | e⟩
    · rw [hw] at e; exact meth_ne h1 h2 e
    · exact e k h1 h2 hw.symm
    · unfold numsL at e
      simp only [if_neg hk0] at e
      split at e <;> simp at e
    · rcases hs with hs | hs
      · exact hk0 hs
      · exact hs e

theorem Far.next {items : List (Nat × Nat × Nat)} {rs rest : List Int} {ms ms' : List Meth} {done left left' : List (Nat × Nat × Nat)} {i : Nat × Nat × Nat} {t : List Int} (h : Far items rest ms done left) (e : left = i :: left') (ht : t = runes (textOf left')) (hs : i.1 = 0 ∨ ms ≠ []) (hm : ms' = addLine ms i) (_ : Valid items rs) : Far items t ms' (done ++ [i]) left' := by
  refine ⟨by rw [h.all, e]; simp, ht, ?_, .inr ?_⟩
  · rw [hm, gather_snoc, h.gat]
  · rw [hm]; exact addLine_some hs

end Go.Proofs.YtlbkgnmalhidmaaDoor
