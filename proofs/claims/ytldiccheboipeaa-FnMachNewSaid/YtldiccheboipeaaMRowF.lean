/-
  Pages in a row of cells: bases and frames, the first page alone with frames.
-/
import Derived.Test.YtldiccheboipeaaMNew
namespace Go.Proofs.Ytldiccheboipeaa
open Go.RowKit

/-- the cells of pages with such bases; the first has the frames vf, the others none -/
def rowF (f : Nat → Int) (vf : Value) (n : Nat) : List Value := (List.range n).flatMap fun i => [.int .i64 (f i), if i = 0 then vf else .slice none 0 0]

theorem rowF_succ (f : Nat → Int) (vf : Value) (n : Nat) : rowF f vf (n + 1) = rowF f vf n ++ [.int .i64 (f n), if n = 0 then vf else .slice none 0 0] := by simp [rowF, List.range_succ]
theorem rowF_length (f : Nat → Int) (vf : Value) : ∀ n, (rowF f vf n).length = n * 2
  | 0 => rfl
  | n + 1 => by rw [rowF_succ, List.length_append, rowF_length f vf n]; simp; omega
theorem rowF_at (f : Nat → Int) (vf : Value) : ∀ (n i : Nat), i < n → (rowF f vf n)[i * 2]? = some (.int .i64 (f i)) ∧ (rowF f vf n)[i * 2 + 1]? = some (if i = 0 then vf else .slice none 0 0)
  | 0, i, h => absurd h (Nat.not_lt_zero _)
  | n + 1, i, h => by
    rw [rowF_succ]
    by_cases e : i = n
    · subst e
      have hl := rowF_length f vf i
      refine ⟨?_, ?_⟩
      · rw [List.getElem?_append_right (by omega), hl]; simp
      · rw [List.getElem?_append_right (by omega), hl]; simp
    · have ih := rowF_at f vf n i (by omega)
      have hl := rowF_length f vf n
      rw [List.getElem?_append_left (by omega), List.getElem?_append_left (by omega)]
      exact ih
theorem two_ext {a b : List Value} {n : Nat} (ha : a.length = n * 2) (hb : b.length = n * 2) (h : ∀ i, i < n → a[i * 2]? = b[i * 2]? ∧ a[i * 2 + 1]? = b[i * 2 + 1]?) : a = b := by
  refine List.ext_getElem? fun j => ?_
  by_cases hj : j < n * 2
  · have e : j = (j / 2) * 2 ∨ j = (j / 2) * 2 + 1 := by omega
    rcases e with e | e
    · rw [e]; exact (h (j / 2) (by omega)).1
    · rw [e]; exact (h (j / 2) (by omega)).2
  · rw [List.getElem?_eq_none (by omega), List.getElem?_eq_none (by omega)]
theorem rowF_set (f : Nat → Int) (vf : Value) (n i : Nat) (h : i < n) (x : Int) : (rowF f vf n).set (i * 2) (.int .i64 x) = rowF (fun j => if j = i then x else f j) vf n := by
  refine two_ext (n := n) (by rw [List.length_set, rowF_length]) (rowF_length _ _ _) fun j hj => ?_
  obtain ⟨a1, a2⟩ := rowF_at f vf n j hj
  obtain ⟨b1, b2⟩ := rowF_at (fun j => if j = i then x else f j) vf n j hj
  have hl := rowF_length f vf n
  refine ⟨?_, ?_⟩
  · rw [b1]
    by_cases e : j = i
    · subst e; simp [hl, h]
    · rw [List.getElem?_set_ne (by omega), a1, if_neg e]
  · rw [b2, List.getElem?_set_ne (by omega), a2]
theorem rowF_congr {f g : Nat → Int} {vf : Value} {n : Nat} (h : ∀ i, i < n → f i = g i) : rowF f vf n = rowF g vf n :=
  two_ext (n := n) (rowF_length _ _ _) (rowF_length _ _ _) fun j hj => by
    obtain ⟨a1, a2⟩ := rowF_at f vf n j hj
    obtain ⟨b1, b2⟩ := rowF_at g vf n j hj
    rw [a1, a2, b1, b2, h j hj]
    exact ⟨rfl, rfl⟩
theorem rowE_length (vf : Value) : ∀ n, (rowE vf n).length = n * 2
  | 0 => rfl
  | n + 1 => by rw [rowE_succ, List.length_append, rowE_length vf n]; simp; omega
theorem rowF_new (vf : Value) (n : Nat) (h : 1 ≤ n) : .int .i64 (-1) :: vf :: rowE (.slice none 0 0) (n - 1) = rowF (fun _ => -1) vf n := by
  refine two_ext (n := n) (by simp [rowE_length]; omega) (rowF_length _ _ _) fun j hj => ?_
  obtain ⟨b1, b2⟩ := rowF_at (fun _ => -1) vf n j hj
  cases j with
  | zero => exact ⟨b1.symm, b2.symm⟩
  | succ j =>
    have a := rowE_at (.slice none 0 0) (n - 1) j (by omega)
    rw [b1, b2, show (j + 1) * 2 = j * 2 + 1 + 1 by omega]
    exact ⟨a.1, a.2⟩

end Go.Proofs.Ytldiccheboipeaa
