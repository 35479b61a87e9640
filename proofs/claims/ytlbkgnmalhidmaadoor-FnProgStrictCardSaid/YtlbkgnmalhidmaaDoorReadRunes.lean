/-
  A Go string as runes: they are numbers, no more than its bytes; of ASCII bytes they are these. Nothing of the translation is used here.
-/
import Derived.Test.YtlbkgnmalhidmaaDoorReadText
import Derived.Laws.IdiomStrings
namespace Go.Proofs.YtlbkgnmalhidmaaDoor
open Go.RowKit

def runeCells (l : List Int) : Array Value := (l.map (Value.int .i32)).toArray

theorem runesFrom_some (s : ByteArray) : ∀ (bound i : Nat) (l : List Int), ∃ m, Conv.runesFrom s bound i (runeCells l) = runeCells m
  | 0, _, l => ⟨l, rfl⟩
  | bound + 1, i, l => by
    unfold Conv.runesFrom
    split
    · have e : (runeCells l).push (.int .i32 (Int.ofNat (Utf8.decode s i).1)) = runeCells (l ++ [Int.ofNat (Utf8.decode s i).1]) := by simp [runeCells]
      simp only
      rw [e]
      exact runesFrom_some s bound _ _
    · exact ⟨l, rfl⟩

theorem decode_ascii {s : ByteArray} {i : Nat} (hi : i < s.size) (h : (s.data[i]'hi).toNat < 128) : Utf8.decode s i = ((s.data[i]'hi).toNat, 1) := by
  have e : s.get! (i + 0) = s.data[i]'hi := by
    show s.data[i + 0]! = _
    rw [Nat.add_zero]
    exact getElem!_pos s.data i hi
  unfold Utf8.decode
  simp only [e]
  rw [if_pos h]

theorem runesFrom_ascii (s : ByteArray) (h : ∀ i, (hi : i < s.size) → (s.data[i]'hi).toNat < 128) : ∀ (bound i : Nat) (l : List Int), s.size - i ≤ bound → i ≤ s.size → Conv.runesFrom s bound i (runeCells l) = runeCells (l ++ runes (s.data.toList.drop i))
  | 0, i, l, hb, hi => by
    have : s.data.toList.drop i = [] := List.drop_of_length_le (by simp only [Array.length_toList]; show s.size ≤ i; omega)
    rw [this]
    simp [Conv.runesFrom, runes]
  | bound + 1, i, l, hb, hi => by
    unfold Conv.runesFrom
    split
    · rename_i hlt
      rw [decode_ascii hlt (h i hlt)]
      have e : (runeCells l).push (.int .i32 (Int.ofNat (s.data[i]'hlt).toNat)) = runeCells (l ++ [((s.data[i]'hlt).toNat : Int)]) := by simp [runeCells]
      simp only
      rw [e, runesFrom_ascii s h bound (i + 1) _ (by omega) (by omega)]
      have hd : s.data.toList.drop i = s.data[i]'hlt :: s.data.toList.drop (i + 1) := by
        rw [List.drop_eq_getElem_cons (by simpa using hlt)]
        simp
      rw [hd]
      simp [runes]
    · have : s.data.toList.drop i = [] := List.drop_of_length_le (by simp only [Array.length_toList]; show s.size ≤ i; omega)
      rw [this]
      simp [runes]

theorem ascii_op : ∀ k : Fin 18, ∀ a : Fin 100, ∀ c ∈ lineOf (k.val + 1, a.val, 0), c.toNat < 128 := by decide +kernel
theorem ascii_head : ∀ x : Fin 10, ∀ t : Fin 10, ∀ c ∈ lineOf (0, x.val, t.val), c.toNat < 128 := by decide +kernel

theorem fine_ascii {i : Nat × Nat × Nat} (h : Fine i) : ∀ c ∈ lineOf i, c.toNat < 128 := by
  obtain ⟨k, a, b⟩ := i
  rcases h with ⟨h0, h1, h2⟩ | ⟨h1, h2, h3, h4, h5⟩
  · simp only at h0 h1 h2
    subst h0
    exact ascii_head ⟨a, h1⟩ ⟨b, h2⟩
  · simp only at h1 h2 h3 h4 h5
    subst h4
    have h := ascii_op ⟨k - 1, by omega⟩ ⟨a, h3⟩
    simp only [show k - 1 + 1 = k by omega] at h
    exact h

theorem text_ascii {l : List (Nat × Nat × Nat)} (h : ∀ i ∈ l, Fine i) : ∀ c ∈ textOf l, c.toNat < 128 := by
  intro c hc
  obtain ⟨i, hi, hc⟩ := List.mem_flatMap.1 hc
  rcases List.mem_append.1 hc with hc | hc
  · exact fine_ascii (h i hi) c hc
  · simp at hc; subst hc; decide

/-- the runes of a string -/
theorem runes_of (s : ByteArray) : ∃ l : List Int, Conv.runesFrom s s.size 0 #[] = runeCells l ∧ l.length ≤ s.size ∧ ((∀ c ∈ s.toList, c.toNat < 128) → l = runes s.toList) := by
  obtain ⟨l, hl⟩ := runesFrom_some s s.size 0 []
  have hl' : Conv.runesFrom s s.size 0 #[] = runeCells l := hl
  refine ⟨l, hl', ?_, fun h => ?_⟩
  · have := size_runesFrom s s.size 0 #[]
    rw [hl'] at this
    simpa [runeCells] using this
  · have := runesFrom_ascii s (fun i hi => h _ (by rw [ByteArray.toList_eq]; simp)) s.size 0 [] (by omega) (by omega)
    have e : runeCells l = runeCells ([] ++ runes (s.data.toList.drop 0)) := hl.symm.trans this
    have e2 : l.map (Value.int .i32) = (runes s.data.toList).map (Value.int .i32) := by
      have := congrArg Array.toList e
      simpa [runeCells] using this
    have inj : ∀ {a b : List Int}, a.map (Value.int .i32) = b.map (Value.int .i32) → a = b := by
      intro a
      induction a with
      | nil => intro b hb; cases b <;> simp_all
      | cons x a ih => intro b hb; cases b with
        | nil => simp at hb
        | cons y b => simp at hb; rw [hb.1, ih (by simpa using hb.2)]
    rw [ByteArray.toList_eq]
    exact inj e2

end Go.Proofs.YtlbkgnmalhidmaaDoor
