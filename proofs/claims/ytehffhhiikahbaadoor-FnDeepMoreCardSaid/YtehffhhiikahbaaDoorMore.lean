/-
  A method more: when the program is ok then, and how it lies in memory.
-/
import Derived.Test.YtehffhhiikahbaaDoorDraw13
import Derived.Test.YtehffhhiikahbaaDoorPlain
namespace Go.Proofs.YtehffhhiikahbaaDoor
open Go.RowKit

theorem opOk_more {nm no : Nat} {t k a : Int} (h : opOk nm no t k a = true) : opOk (nm + 1) no t k a = true := by
  unfold opOk at h ⊢
  split
  · rw [if_pos (by assumption)] at h; exact h
  · rw [if_neg (by assumption)] at h
    split
    · rw [if_pos (by assumption)] at h; exact h
    · rw [if_neg (by assumption)] at h
      split
      · rw [if_pos (by assumption)] at h; exact h
      · rw [if_neg (by assumption)] at h
        split
        · rw [if_pos (by assumption)] at h
          rw [inR_true] at h ⊢
          omega
        · rw [if_neg (by assumption)] at h; exact h

/-- a method without anything is one more -/
theorem progOk_more {ms : List (Int × Int × List (Int × Int))} (h : progOk ms = true) : progOk (ms ++ [(0, 0, [])]) = decide (ms.length < 4) := by
  unfold progOk at h
  simp only [Bool.and_eq_true, inR_true] at h
  obtain ⟨⟨⟨h1, h4⟩, h0⟩, ha⟩ := h
  by_cases hl : ms.length < 4
  · rw [decide_eq_true hl]
    unfold progOk
    simp only [Bool.and_eq_true, inR_true]
    refine ⟨⟨⟨by simp; omega, by simp; omega⟩, ?_⟩, ?_⟩
    · obtain ⟨m, l, rfl⟩ : ∃ m l, ms = m :: l := by
        cases ms with
        | nil => simp at h1
        | cons m l => exact ⟨m, l, rfl⟩
      simpa using h0
    · rw [List.all_eq_true] at ha ⊢
      intro m hm
      have hlen : (ms ++ [((0, 0, []) : Int × Int × List (Int × Int))]).length = ms.length + 1 := by simp
      rw [hlen]
      rcases List.mem_append.1 hm with hm | hm
      · have := ha m hm
        unfold methOk at this ⊢
        simp only [Bool.and_eq_true] at this ⊢
        refine ⟨this.1, ?_⟩
        have h2 := this.2
        unfold opsOk at h2 ⊢
        rw [List.all_eq_true] at h2 ⊢
        exact fun o ho => opOk_more (h2 o ho)
      · simp at hm
        subst hm
        rfl
  · rw [decide_eq_false hl]
    unfold progOk
    have : inR ((ms ++ [((0, 0, []) : Int × Int × List (Int × Int))]).length : Int) 1 4 = false := by
      rw [inR_false]; simp; omega
    rw [this]
    rfl

theorem plainOf_length (ms : List MM) : (plainOf ms).length = ms.length := by simp [plainOf]

/-- a copy of methods, and one more that has nothing -/
theorem more_meths {w w' : World} {B : Nat} {v v' : Value} {ms : List MM} (h : Drawn B w v ms) (hb : Below w.heap.size w w') {B' : Nat} (hr : MRow B' w' v' (ms.map MM.tri ++ [(0, 0, .slice none 0 0)])) : MethsAt w' v' (plainOf ms ++ [(0, 0, [])]) := by
  have hD := h.below hb
  have hf := h.few
  rcases hr.2 with ⟨rfl, hn⟩ | ⟨g, cap, cur, hv, _⟩
  · simp at hn
  · subst hv
    refine ⟨some ⟨g, 0, none⟩, cap, by simp [plainOf], by simp [plainOf]; unfold maxLen; omega, fun i hi => ?_⟩
    have hi' : i < ms.length + 1 := by simpa [plainOf] using hi
    have c := hr.cell i (by simpa using hi')
    by_cases e : i < ms.length
    · have e1 : (ms.map MM.tri ++ [((0, 0, .slice none 0 0) : Int × Int × Value)])[i]'(by simp; omega) = (ms[i].1, ms[i].2.1, ms[i].2.2.1) := by
        rw [List.getElem_append_left (by simpa using e)]; simp [MM.tri]
      have e2 : (plainOf ms ++ [((0, 0, []) : Int × Int × List (Int × Int))])[i]'hi = (ms[i].1, ms[i].2.1, ms[i].2.2.2) := by
        rw [List.getElem_append_left (by simpa [plainOf] using e)]; simp [plainOf]
      rw [e1] at c
      rw [e2]
      refine ⟨g, 0, ms[i].2.2.1, rfl, by simpa using c.1, by simpa using c.2.1, by simpa using c.2.2, ?_⟩
      exact (hD.row.ops _ (List.getElem_mem e)).at (by have := h.ops _ (List.getElem_mem e); unfold maxLen; omega)
    · obtain rfl : i = ms.length := by omega
      have e1 : (ms.map MM.tri ++ [((0, 0, .slice none 0 0) : Int × Int × Value)])[ms.length]'(by simp) = (0, 0, .slice none 0 0) := by
        rw [List.getElem_append_right (by simp)]; simp
      have e2 : (plainOf ms ++ [((0, 0, []) : Int × Int × List (Int × Int))])[ms.length]'hi = (0, 0, []) := by
        rw [List.getElem_append_right (by simp [plainOf])]; simp [plainOf]
      rw [e1] at c
      rw [e2]
      exact ⟨g, 0, .slice none 0 0, rfl, by simpa using c.1, by simpa using c.2.1, by simpa using c.2.2, none, 0, rfl, Nat.zero_le _, fun j hj => absurd hj (Nat.not_lt_zero _)⟩

end Go.Proofs.YtehffhhiikahbaaDoor
