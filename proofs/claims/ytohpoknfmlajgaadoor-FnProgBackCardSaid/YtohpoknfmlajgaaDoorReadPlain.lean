/-
  How a text is read, in plain words: runes are numbers; words, numbers, lines. And runes in memory. Nothing of the translation is used here.
-/
import Derived.Test.YtohpoknfmlajgaaDoorTextInj
import Derived.Laws.Cover4
namespace Go.Proofs.YtohpoknfmlajgaaDoor
open Go.RowKit

def letter (r : Int) : Bool := decide (97 ≤ r) && decide (r ≤ 122)
def digit (r : Int) : Bool := decide (48 ≤ r) && decide (r ≤ 57)

theorem letter_true {r : Int} : letter r = true ↔ 97 ≤ r ∧ r ≤ 122 := by simp [letter]
theorem digit_true {r : Int} : digit r = true ↔ 48 ≤ r ∧ r ≤ 57 := by simp [digit]

/-- the digits that come first, behind a number that was read -/
def numP : Int → List Int → Option (Int × List Int)
  | n, [] => some (n, [])
  | n, r :: rs => if digit r then (if 99 < n * 10 + (r - 48) then none else numP (n * 10 + (r - 48)) rs) else some (n, r :: rs)

theorem numP_stop {n : Int} {rs : List Int} (h : ∀ r l, rs = r :: l → digit r = false) : numP n rs = some (n, rs) := by
  cases rs with
  | nil => rfl
  | cons r l => simp [numP, h r l rfl]
theorem numP_big {n r : Int} {rs : List Int} (h : digit r = true) (h' : 99 < n * 10 + (r - 48)) : numP n (r :: rs) = none := by simp [numP, h, h']
theorem numP_next {n r : Int} {rs : List Int} (h : digit r = true) (h' : ¬ 99 < n * 10 + (r - 48)) : numP n (r :: rs) = numP (n * 10 + (r - 48)) rs := by simp only [numP, h, if_true, if_neg h']

theorem numP_len : ∀ {rs : List Int} {n m : Int} {l : List Int}, numP n rs = some (m, l) → l.length ≤ rs.length
  | [], _, _, _, h => by simp [numP] at h; simp [h.2]
  | r :: rs, n, m, l, h => by
    unfold numP at h
    split at h
    · split at h
      · cases h
      · have := numP_len h; simp; omega
    · simp at h; rw [← h.2]; simp

theorem drop_at {α : Type} {l : List α} {k : Nat} (h : k < l.length) : l.drop k = l[k] :: l.drop (k + 1) := List.drop_eq_getElem_cons h

theorem take_while_at {rs : List Int} {p : Int → Bool} {k : Nat} (hk : k ≤ rs.length) (h : ∀ i, (hi : i < rs.length) → i < k → p rs[i] = true) (he : ∀ hk : k < rs.length, p rs[k] = false) : rs.takeWhile p = rs.take k ∧ rs.dropWhile p = rs.drop k := by
  induction rs generalizing k with
  | nil => simp
  | cons r rs ih =>
    cases k with
    | zero =>
      have := he (by simp)
      simp at this
      simp [this]
    | succ k =>
      have h0 := h 0 (by simp) (by omega)
      simp at h0
      simp at hk
      have := ih (k := k) hk (fun i hi hik => by have := h (i + 1) (by simp; omega) (by omega); simpa using this) (fun hk => by have := he (by simp; omega); simpa using this)
      simp [h0, this.1, this.2]

/-- the numbers of a line, and what is behind them -/
def lineNums : Nat → List Int → List Int → Option (List Int × List Int)
  | 0, _, _ => none
  | f + 1, rest, nums => match rest with
    | 32 :: r => match numP 0 r with
      | some (n, l) => if l.length < r.length then lineNums f l (nums ++ [n]) else none
      | none => none
    | _ => some (nums, rest)

theorem lineNums_stop {f : Nat} {rest nums : List Int} (h : ∀ r l, rest = r :: l → r ≠ 32) : lineNums (f + 1) rest nums = some (nums, rest) := by
  unfold lineNums
  split
  · exact absurd rfl (h 32 _ rfl)
  · rfl
theorem lineNums_next {f : Nat} {r nums l : List Int} {n : Int} (h : numP 0 r = some (n, l)) (hl : l.length < r.length) : lineNums (f + 1) (32 :: r) nums = lineNums f l (nums ++ [n]) := by
  simp only [lineNums, h, hl, if_true]
theorem lineNums_none {f : Nat} {r nums : List Int} (h : numP 0 r = none) : lineNums (f + 1) (32 :: r) nums = none := by
  simp only [lineNums, h]
theorem lineNums_same {f : Nat} {r nums : List Int} (h : numP 0 r = some (0, r)) : lineNums (f + 1) (32 :: r) nums = none := by
  simp only [lineNums, h, Nat.lt_irrefl, if_false]

/-! runes in memory -/

def RunesAt (w : World) (v : Value) (rs : List Int) : Prop :=
  ∃ (a : Option Addr) (cap : Nat), v = .slice a rs.length cap ∧ rs.length ≤ cap ∧ rs.length ≤ 700 ∧
    ∀ i, (h : i < rs.length) → ∃ b o, a = some ⟨b, o, none⟩ ∧ w.cell? ⟨b, o + i, none⟩ = some (.int .i32 rs[i])

theorem RunesAt.below {w w' : World} {v : Value} {rs : List Int} (h : RunesAt w v rs) (hb : Below w.heap.size w w') : RunesAt w' v rs := by
  obtain ⟨a, cap, hv, hl, hm, hc⟩ := h
  refine ⟨a, cap, hv, hl, hm, fun i hi => ?_⟩
  obtain ⟨b, o, ha, h0⟩ := hc i hi
  exact ⟨b, o, ha, cell_below hb h0⟩

theorem RunesAt.cut {w : World} {a : Option Addr} {n cap : Nat} {rs : List Int} (h : RunesAt w (.slice a n cap) rs) {k : Nat} (hk : k ≤ rs.length) : RunesAt w (sliced a k n cap 1) (rs.drop k) := by
  obtain ⟨a', cap', hv, hl, hm, hc⟩ := h
  cases hv
  unfold sliced
  refine ⟨if cap = k then a else a.map (·.add (k * 1)), cap - k, by simp, by simp; omega, by simp; omega, fun i hi => ?_⟩
  · simp at hi
    obtain ⟨b, o, rfl, h0⟩ := hc (k + i) (by omega)
    have hne : ¬ cap = k := by omega
    refine ⟨b, o + k, by simp [hne, Addr.add], ?_⟩
    rw [show o + (k + i) = o + k + i by omega] at h0
    simpa using h0

end Go.Proofs.YtohpoknfmlajgaaDoor
