import Derived.Test.YtlbkgnmalhidmaaDoorTextInj
import Derived.Laws.Cover4

/-
  How a text is read, in plain words: runes are numbers; words, numbers, lines. And runes in memory. Nothing of the translation is used here.
-/
namespace Go.Proofs.YtlbkgnmalhidmaaDoor
open Go.RowKit

def letter (r : Int) : Bool := decide (97 ≤ r) && decide (r ≤ 122)
def digit (r : Int) : Bool := decide (48 ≤ r) && decide (r ≤ 57)

theorem letter_true {r : Int} : letter r = true ↔ 97 ≤ r ∧ r ≤ 122 := by simp [letter]
theorem digit_true {r : Int} : digit r = true ↔ 48 ≤ r ∧ r ≤ 57 := by simp [digit]

/-- the digits that come first, behind a number that was read -/
def numP : Int → List Int → Option (Int × List Int)
  | n, [] => some (n, [])
  | n, r :: rs => if digit r then (if 99 < n * 10 + (r - 48) then none else numP (n * 10 + (r - 48)) rs) else some (n, r :: rs)

theorem numP_stop {n : Int} {rs : List Int} (h : ∀ r l, rs = r :: l → digit r = false) : numP n rs = some (n, rs) := by
  cases rs with
  | nil => rfl
  | cons r l => simp [numP, h r l rfl]
theorem numP_big {n r : Int} {rs : List Int} (h : digit r = true) (h' : 99 < n * 10 + (r - 48)) : numP n (r :: rs) = none := by simp [numP, h, h']
theorem numP_next {n r : Int} {rs : List Int} (h : digit r = true) (h' : ¬ 99 < n * 10 + (r - 48)) : numP n (r :: rs) = numP (n * 10 + (r - 48)) rs := by simp only [numP, h, if_true, if_neg h']

theorem numP_len : ∀ {rs : List Int} {n m : Int} {l : List Int}, numP n rs = some (m, l) → l.length ≤ rs.length
  | [], _, _, _, h => by simp [numP] at h; simp [h.2]
  | r :: rs, n, m, l, h => by
    unfold numP at h
    split at h
    · split at h
      · cases h
      · have := numP_len h; simp; omega
    · simp at h; rw [← h.2]; simp

theorem drop_at {α : Type} {l : List α} {k : Nat} (h : k < l.length) : l.drop k = l[k] :: l.drop (k + 1) := List.drop_eq_getElem_cons h

theorem take_while_at {rs : List Int} {p : Int → Bool} {k : Nat} (hk : k ≤ rs.length) (h : ∀ i, (hi : i < rs.length) → i < k → p rs[i] = true) (he : ∀ hk : k < rs.length, p rs[k] = false) : rs.takeWhile p = rs.take k ∧ rs.dropWhile p = rs.drop k := by
  induction rs generalizing k with
  | nil => simp
  | cons r rs ih =>
    cases k with
    | zero =>
      have := he (by simp)
      simp at this
      simp [this]
    | succ k =>
      have h0 := h 0 (by simp) (by omega)
      simp at h0
      simp at hk
      have := ih (k := k) hk (fun i hi hik => by have := h (i + 1) (by simp; omega) (by omega); simpa using this) (fun hk => by have := he (by simp; omega); simpa using this)
      simp [h0, this.1, this.2]

/-- the numbers of a line, and what is behind them -/
def lineNums : Nat → List Int → List Int → Option (List Int × List Int)
  | 0, _, _ => none
  | f + 1, rest, nums => match rest with
    | 32 :: r => match numP 0 r with
      | some (n, l) => if l.length < r.length then lineNums f l (nums ++ [n]) else none
      | none => none
    | _ => some (nums, rest)

theorem lineNums_stop {f : Nat} {rest nums : List Int} (h : ∀ r l, rest = r :: l → r ≠ 32) : lineNums (f + 1) rest nums = some (nums, rest) := by
  unfold lineNums
  split
  · exact absurd rfl (h 32 _ rfl)
  · rfl
theorem lineNums_next {f : Nat} {r nums l : List Int} {n : Int} (h : numP 0 r = some (n, l)) (hl : l.length < r.length) : lineNums (f + 1) (32 :: r) nums = lineNums f l (nums ++ [n]) := by
  simp only [lineNums, h, hl, if_true]
theorem lineNums_none {f : Nat} {r nums : List Int} (h : numP 0 r = none) : lineNums (f + 1) (32 :: r) nums = none := by
  simp only [lineNums, h]
theorem lineNums_same {f : Nat} {r nums : List Int} (h : numP 0 r = some (0, r)) : lineNums (f + 1) (32 :: r) nums = none := by
  simp only [lineNums, h, Nat.lt_irrefl, if_false]

/-! runes in memory -/

def RunesAt (w : World) (v : Value) (rs : List Int) : Prop :=
  ∃ (a : Option Addr) (cap : Nat), v = .slice a rs.length cap ∧ rs.length ≤ cap ∧ rs.length ≤ 700 ∧
    ∀ i, (h : i < rs.length) → ∃ b o, a = some ⟨b, o, none⟩ ∧ w.cell? ⟨b, o + i, none⟩ = some (.int .i32 rs[i])

theorem RunesAt.below {w w' : World} {v : Value} {rs : List Int} (h : RunesAt w v rs) (hb : Below w.heap.size w w') : RunesAt w' v rs := by
  obtain ⟨a, cap, hv, hl, hm, hc⟩ := h
  refine ⟨a, cap, hv, hl, hm, fun i hi => ?_⟩
  obtain ⟨b, o, ha, h0⟩ := hc i hi
  exact ⟨b, o, ha, cell_below hb h0⟩

theorem RunesAt.cut {w : World} {a : Option Addr} {n cap : Nat} {rs : List Int} (h : RunesAt w (.slice a n cap) rs) {k : Nat} (hk : k ≤ rs.length) : RunesAt w (sliced a k n cap 1) (rs.drop k) := by
  obtain ⟨a', cap', hv, hl, hm, hc⟩ := h
  cases hv
  unfold sliced
  refine ⟨if cap = k then a else a.map (·.add (k * 1)), cap - k, by simp, by simp; omega, by simp; omega, fun i hi => ?_⟩
  · simp at hi
    obtain ⟨b, o, rfl, h0⟩ := hc (k + i) (by omega)
    have hne : ¬ cap = k := by omega
    refine ⟨b, o + k, by simp [hne, Addr.add], ?_⟩
    rw [show o + (k + i) = o + k + i by omega] at h0
    simpa using h0

end Go.Proofs.YtlbkgnmalhidmaaDoor

/-
  What is read of the text of an ok program, line by line, in plain words. Nothing of the translation is used here.
-/
namespace Go.Proofs.YtlbkgnmalhidmaaDoor

/-- bytes as runes -/
def runes (l : List UInt8) : List Int := l.map fun c => (c.toNat : Int)

theorem runes_append (a b : List UInt8) : runes (a ++ b) = runes a ++ runes b := by simp [runes]

/-- the word of a line, and its numbers -/
def wordL (i : Nat × Nat × Nat) : List UInt8 := if i.1 = 0 then [109, 101, 116, 104, 111, 100] else words.getD i.1 []
def numsL (i : Nat × Nat × Nat) : List Int := if i.1 = 0 then [(i.2.1 : Int), (i.2.2 : Int)] else if hasA i.1 then [(i.2.1 : Int)] else []

/-- what is behind the word -/
def behindW (i : Nat × Nat × Nat) : List UInt8 := if i.1 = 0 then (32 :: dec2 i.2.1) ++ (32 :: dec2 i.2.2) else if hasA i.1 then 32 :: dec2 i.2.1 else []

theorem line_parts (i : Nat × Nat × Nat) : lineOf i = wordL i ++ behindW i := by
  unfold lineOf wordL behindW
  split
  · simp
  · split <;> simp

theorem word_letters : ∀ k : Fin 19, (∀ c ∈ words.getD k.val [], letter (c.toNat : Int) = true) := by decide +kernel

theorem wordL_letters {i : Nat × Nat × Nat} (h : Fine i) : ∀ c ∈ wordL i, letter (c.toNat : Int) = true := by
  unfold wordL
  rcases h with ⟨h0, _⟩ | ⟨h1, h2, _⟩
  · rw [if_pos h0]; decide
  · rw [if_neg (by omega)]
    exact word_letters ⟨i.1, by omega⟩

/-- digits that are followed by something else -/
theorem numP_dec2 : ∀ n : Fin 100, ∀ c : Int, digit c = false → ∀ t, numP 0 (runes (dec2 n.val) ++ c :: t) = some ((n.val : Int), c :: t) := by
  intro n c hc t
  have h1 : ∀ d : Fin 10, digit ((UInt8.ofNat (48 + d.val)).toNat : Int) = true ∧ ((UInt8.ofNat (48 + d.val)).toNat : Int) - 48 = d.val := by decide +kernel
  have hn := n.isLt
  unfold dec2
  by_cases h : n.val < 10
  · rw [if_pos h]
    have := h1 ⟨n.val, h⟩
    simp only at this
    simp only [runes, List.map_cons, List.map_nil, List.cons_append, List.nil_append]
    rw [numP_next this.1 (by rw [this.2]; omega), numP_stop (fun r l e => by cases e; exact hc), this.2]
    simp
  · rw [if_neg h]
    have a1 := h1 ⟨n.val / 10, by omega⟩
    have a2 := h1 ⟨n.val % 10, by omega⟩
    simp only at a1 a2
    simp only [runes, List.map_cons, List.map_nil, List.cons_append, List.nil_append]
    rw [numP_next a1.1 (by rw [a1.2]; omega), numP_next a2.1 (by rw [a1.2, a2.2]; omega), numP_stop (fun r l e => by cases e; exact hc), a1.2, a2.2]
    congr 2
    omega

theorem take_word {a : List UInt8} {t : List Int} (h : ∀ c ∈ a, letter (c.toNat : Int) = true) (ht : ∀ r l, t = r :: l → letter r = false) : (runes a ++ t).takeWhile letter = runes a ∧ (runes a ++ t).dropWhile letter = t := by
  induction a with
  | nil =>
    simp only [runes, List.map_nil, List.nil_append]
    cases t with
    | nil => simp
    | cons r l => simp [ht r l rfl]
  | cons c a ih =>
    have h0 := h c (by simp)
    have := ih (fun x hx => h x (by simp [hx]))
    simp only [runes, List.map_cons, List.cons_append] at this ⊢
    simp [h0, this.1, this.2]

theorem len_dec2 (n : Nat) : 0 < (runes (dec2 n)).length := by
  unfold dec2 runes
  split <;> simp

/-- a line is read -/
theorem line_read {i : Nat × Nat × Nat} (h : Fine i) (t : List Int) (f : Nat) (hf : 3 ≤ f) :
    (runes (lineOf i) ++ 10 :: t).takeWhile letter = runes (wordL i) ∧ lineNums f ((runes (lineOf i) ++ 10 :: t).dropWhile letter) [] = some (numsL i, 10 :: t) := by
  have hnl : ∀ r l, runes (behindW i) ++ 10 :: t = r :: l → letter r = false := by
    intro r l e
    unfold behindW at e
    split at e
    · simp [runes] at e; rw [← e.1]; decide
    · split at e
      · simp [runes] at e; rw [← e.1]; decide
      · simp [runes] at e; rw [← e.1]; decide
  have hw := take_word (wordL_letters h) hnl
  rw [line_parts, runes_append, List.append_assoc]
  refine ⟨hw.1, ?_⟩
  rw [hw.2]
  obtain ⟨f, rfl⟩ : ∃ f', f = f' + 3 := ⟨f - 3, by omega⟩
  unfold behindW numsL
  rcases h with ⟨h0, h1, h2⟩ | ⟨h1, h2, h3, h4, h5⟩
  · rw [if_pos h0, if_pos h0]
    have e : runes ((32 :: dec2 i.2.1) ++ (32 :: dec2 i.2.2)) ++ 10 :: t = 32 :: (runes (dec2 i.2.1) ++ 32 :: (runes (dec2 i.2.2) ++ 10 :: t)) := by simp [runes]
    rw [e, lineNums_next (numP_dec2 ⟨i.2.1, by omega⟩ 32 (by decide) _) (by have := len_dec2 i.2.1; simp; omega),
      lineNums_next (numP_dec2 ⟨i.2.2, by omega⟩ 10 (by decide) _) (by have := len_dec2 i.2.2; simp; omega), lineNums_stop (fun r l e => by cases e; decide)]
    rfl
  · have hne : ¬ i.1 = 0 := by omega
    simp only [if_neg hne]
    cases hk : hasA i.1
    · simp only [Bool.false_eq_true, if_false]
      rw [show runes [] ++ 10 :: t = 10 :: t from rfl, lineNums_stop (fun r l e => by cases e; decide)]
    · simp only [if_true]
      have e : runes (32 :: dec2 i.2.1) ++ 10 :: t = 32 :: (runes (dec2 i.2.1) ++ 10 :: t) := by simp [runes]
      rw [e, lineNums_next (numP_dec2 ⟨i.2.1, h3⟩ 10 (by decide) _) (by have := len_dec2 i.2.1; simp; omega), lineNums_stop (fun r l e => by cases e; decide)]
      rfl

/-! lines are gathered -/

abbrev Meth := Int × Int × List (Int × Int)

def addLine (ms : List Meth) (i : Nat × Nat × Nat) : List Meth :=
  if i.1 = 0 then ms ++ [((i.2.1 : Int), (i.2.2 : Int), [])]
  else ms.dropLast ++ (ms.getLast?.map fun m => (m.1, m.2.1, m.2.2 ++ [((i.1 : Int), (i.2.1 : Int))])).toList

def gather (l : List (Nat × Nat × Nat)) : List Meth := l.foldl addLine []

theorem gather_snoc (l : List (Nat × Nat × Nat)) (i : Nat × Nat × Nat) : gather (l ++ [i]) = addLine (gather l) i := by simp [gather, List.foldl_append]

theorem addLine_op {l : List Meth} {m : Meth} {k a : Nat} (hk : ¬ k = 0) : addLine (l ++ [m]) (k, a, 0) = l ++ [(m.1, m.2.1, m.2.2 ++ [((k : Int), (a : Int))])] := by
  unfold addLine
  rw [if_neg hk]
  simp

theorem gather_ops {l : List Meth} {x t : Int} : ∀ {ops done : List (Int × Int)}, (∀ op ∈ ops, 1 ≤ op.1 ∧ 0 ≤ op.2) → (ops.map fun op => (op.1.toNat, op.2.toNat, 0)).foldl addLine (l ++ [(x, t, done)]) = l ++ [(x, t, done ++ ops)]
  | [], done, _ => by simp
  | op :: ops, done, h => by
    have h1 := h op (by simp)
    rw [List.map_cons, List.foldl_cons, addLine_op (by omega), Int.toNat_of_nonneg (by omega), Int.toNat_of_nonneg h1.2]
    rw [gather_ops (fun o ho => h o (by simp [ho]))]
    simp

theorem gather_ms : ∀ {ms l : List Meth}, (∀ m ∈ ms, MethFine m) → (linesMs ms).foldl addLine l = l ++ ms
  | [], l, _ => by simp [linesMs]
  | m :: ms, l, h => by
    have hm := h m (by simp)
    unfold linesMs
    rw [List.flatMap_cons, List.foldl_append]
    unfold linesM
    rw [List.foldl_cons]
    have e : addLine l (0, m.1.toNat, m.2.1.toNat) = l ++ [(m.1, m.2.1, [])] := by
      unfold addLine
      simp [Int.toNat_of_nonneg hm.x0, Int.toNat_of_nonneg hm.t0]
    rw [e, gather_ops (fun op ho => ⟨(hm.kind op ho).1, (hm.a op ho).1⟩)]
    have ih := gather_ms (ms := ms) (l := l ++ [(m.1, m.2.1, [] ++ m.2.2)]) (fun x hx => h x (by simp [hx]))
    unfold linesMs at ih
    refine Eq.trans ih ?_
    simp

theorem gather_lines {ms : List Meth} (h : ∀ m ∈ ms, MethFine m) : gather (linesMs ms) = ms := by
  have := gather_ms (l := []) h
  simpa [gather] using this

theorem textOf_append (a b : List (Nat × Nat × Nat)) : textOf (a ++ b) = textOf a ++ textOf b := by simp [textOf]
theorem textOf_cons (i : Nat × Nat × Nat) (b : List (Nat × Nat × Nat)) : runes (textOf (i :: b)) = runes (lineOf i) ++ 10 :: runes (textOf b) := by simp [textOf, runes]

/-- how far the text of some lines was read -/
structure Far (items : List (Nat × Nat × Nat)) (rest : List Int) (ms : List Meth) (done left : List (Nat × Nat × Nat)) : Prop where
  all : items = done ++ left
  rst : rest = runes (textOf left)
  gat : ms = gather done
  som : done = [] ∨ ms ≠ []

theorem addLine_some {ms : List Meth} {i : Nat × Nat × Nat} (h : i.1 = 0 ∨ ms ≠ []) : addLine ms i ≠ [] := by
  unfold addLine
  split
  · simp
  · rcases h with h | h
    · contradiction
    · obtain ⟨m, hm⟩ : ∃ m, ms.getLast? = some m := by
        cases hg : ms.getLast? with
        | none => rw [List.getLast?_eq_none_iff] at hg; exact absurd hg h
        | some m => exact ⟨m, rfl⟩
      simp [hm]

/-! words, as bytes -/

theorem enc_ascii : ∀ c : Fin 128, (Utf8.encode ((c.val : Nat) : Int)).data.toList = [UInt8.ofNat c.val] := by decide +kernel

theorem runesBytes_ascii : ∀ {l : List UInt8} (s : ByteArray), (∀ c ∈ l, c.toNat < 128) → ((runes l).foldl (fun r n => r ++ Utf8.encode n) s).data.toList = s.data.toList ++ l
  | [], s, _ => by simp [runes]
  | c :: l, s, h => by
    have hc := h c (by simp)
    have ih := runesBytes_ascii (l := l) (s ++ Utf8.encode (c.toNat : Int)) (fun x hx => h x (by simp [hx]))
    have e := enc_ascii ⟨c.toNat, hc⟩
    simp only at e
    simp only [runes, List.map_cons, List.foldl_cons] at ih ⊢
    rw [ih]
    simp [ByteArray.data_append, e]

theorem word_back {l : List UInt8} (h : ∀ c ∈ l, letter (c.toNat : Int) = true) : (runesBytes (runes l)).toList = l := by
  rw [ByteArray.toList_eq]
  have := runesBytes_ascii (l := l) ByteArray.empty (fun c hc => by have := letter_true.1 (h c hc); omega)
  simpa [runesBytes] using this

theorem line_len {i : Nat × Nat × Nat} (h : Fine i) : 2 ≤ (lineOf i).length := by
  have hw : ∀ k : Fin 18, 2 ≤ (words.getD (k.val + 1) []).length := by decide +kernel
  rw [line_parts]
  unfold wordL
  rcases h with ⟨h0, _⟩ | ⟨h1, h2, _⟩
  · rw [if_pos h0]; simp
  · rw [if_neg (by omega)]
    have := hw ⟨i.1 - 1, by omega⟩
    simp only [show i.1 - 1 + 1 = i.1 by omega] at this
    simp only [List.length_append]; omega

theorem wordOf_L {i : Nat × Nat × Nat} (h : ¬ i.1 = 0) : wordL i = wordOf (i.1 : Int) := by
  unfold wordL wordOf
  rw [if_neg h]; simp

theorem words_apart : ∀ j k : Fin 18, wordOf ((j.val + 1 : Nat) : Int) = wordOf ((k.val + 1 : Nat) : Int) → j = k := by decide +kernel
theorem words_meth : ∀ j : Fin 18, wordOf ((j.val + 1 : Nat) : Int) ≠ [109, 101, 116, 104, 111, 100] := by decide +kernel

end Go.Proofs.YtlbkgnmalhidmaaDoor
