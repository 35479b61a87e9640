import Derived.Test.YtlbkgnmalhidmaaDoorSRead3
import Derived.Test.YtlbkgnmalhidmaaDoorReadImpl6

/-
  How the model cuts the text of an ok program into lines, and lines into words, in plain words. Nothing of the translation is used here.
-/
namespace Go.Proofs.YtlbkgnmalhidmaaDoor

theorem cutS_none (c : UInt8) : ∀ (l cur : List UInt8), ¬ c ∈ l → cutS c cur l = [cur ++ l]
  | [], cur, _ => by simp [cutS]
  | d :: l, cur, h => by
    simp at h
    unfold cutS
    rw [if_neg (fun e => h.1 e.symm), cutS_none c l _ h.2]
    simp

theorem cutS_at (c : UInt8) : ∀ (l cur t : List UInt8), ¬ c ∈ l → cutS c cur (l ++ c :: t) = (cur ++ l) :: cutS c [] t
  | [], cur, t, _ => by simp [cutS]
  | d :: l, cur, t, h => by
    simp at h
    have e : cutS c cur (d :: (l ++ c :: t)) = cutS c (cur ++ [d]) (l ++ c :: t) := by rw [cutS, if_neg (fun e => h.1 e.symm)]
    rw [List.cons_append, e, cutS_at c l _ t h.2]
    simp

/-- a text of lines, cut -/
theorem cut_text : ∀ {items : List (Nat × Nat × Nat)}, (∀ i ∈ items, Fine i) → cutS 10 [] (textOf items) = items.map lineOf ++ [[]]
  | [], _ => rfl
  | i :: items, h => by
    have hi := h i (by simp)
    have ih := cut_text (items := items) fun x hx => h x (by simp [hx])
    have e : textOf (i :: items) = lineOf i ++ 10 :: textOf items := by simp [textOf]
    rw [e, cutS_at 10 _ _ _ (fine_read hi).2, ih]
    simp

theorem dec2_no : ∀ n : Fin 100, ¬ (32 : UInt8) ∈ dec2 n.val := by decide +kernel
theorem words_no : ∀ k : Fin 19, ¬ (32 : UInt8) ∈ words.getD k.val [] := by decide +kernel
theorem numS_dec2 : ∀ n : Fin 100, numS 0 (dec2 n.val) = (n.val : Int) := by decide +kernel

/-- the bytes of a line's numbers -/
def bytesL (i : Nat × Nat × Nat) : List (List UInt8) := if i.1 = 0 then [dec2 i.2.1, dec2 i.2.2] else if hasA i.1 then [dec2 i.2.1] else []

theorem cut_line' {i : Nat × Nat × Nat} (h : Fine i) : cutS 32 [] (lineOf i) = wordL i :: bytesL i := by
  rw [line_parts]
  unfold wordL behindW bytesL
  rcases h with ⟨h0, h1, h2⟩ | ⟨h1, h2, h3, h4, h5⟩
  · simp only [if_pos h0]
    have e : [109, 101, 116, 104, 111, 100] ++ ((32 :: dec2 i.2.1) ++ (32 :: dec2 i.2.2)) = [109, 101, 116, 104, 111, 100] ++ 32 :: (dec2 i.2.1 ++ 32 :: dec2 i.2.2) := by simp
    rw [e, cutS_at 32 _ _ _ (by decide), cutS_at 32 _ _ _ (dec2_no ⟨i.2.1, by omega⟩), cutS_none 32 _ _ (dec2_no ⟨i.2.2, by omega⟩)]
    simp
  · have hne : ¬ i.1 = 0 := by omega
    simp only [if_neg hne]
    have hw := words_no ⟨i.1, by omega⟩
    cases hk : hasA i.1
    · simp only [Bool.false_eq_true, if_false, List.append_nil]
      rw [cutS_none 32 _ _ hw]
      simp
    · simp only [if_true]
      rw [cutS_at 32 _ _ _ hw, cutS_none 32 _ _ (dec2_no ⟨i.2.1, h3⟩)]
      simp

/-- a line, as the model takes it: a method more, or an operation more of the last one, or nothing -/
def specLine (ms : List Meth) (ws : List (List UInt8)) (ms' : List Meth) : Prop :=
  (ws.getD 0 [] = methW ∧ ws.length = 3 ∧ ms' = ms ++ [(numS 0 (ws.getD 1 []), numS 0 (ws.getD 2 []), [])]) ∨
  (¬ (ws.getD 0 [] = methW ∧ ws.length = 3) ∧ ms = [] ∧ ms' = []) ∨
  (¬ (ws.getD 0 [] = methW ∧ ws.length = 3) ∧ ∃ (l : List Meth) (m : Meth) (q : Nat) (a : Int), ms = l ++ [m] ∧ KindTo 19 (ws.getD 0 []) q ∧ (ws.length = 1 → a = 0) ∧ (1 < ws.length → a = numS 0 (ws.getD 1 [])) ∧ ms' = l ++ [(m.1, m.2.1, m.2.2 ++ [((q : Int), a)])])

theorem spec_add {i : Nat × Nat × Nat} (hi : Fine i) {ms ms' : List Meth} (hs : i.1 = 0 ∨ ms ≠ []) (h : specLine ms (wordL i :: bytesL i) ms') : ms' = addLine ms i := by
  obtain ⟨k, a, b⟩ := i
  rcases hi with ⟨h0, h1, h2⟩ | ⟨h1, h2, h3, h4, h5⟩
  · simp only at h0 h1 h2
    subst h0
    rcases h with ⟨_, _, e⟩ | ⟨hne, _⟩ | ⟨hne, _⟩
    · rw [e]
      have n1 := numS_dec2 ⟨a, by omega⟩
      have n2 := numS_dec2 ⟨b, by omega⟩
      simp only at n1 n2
      simp [bytesL, addLine, n1, n2]
    · exact absurd (by simp [wordL, methW, bytesL]) hne
    · exact absurd (by simp [wordL, methW, bytesL]) hne
  · simp only at h1 h2 h3 h4 h5 hs
    subst h4
    have hk0 : ¬ k = 0 := by omega
    have hw : wordL (k, a, 0) = wordOf (k : Int) := wordOf_L hk0
    rcases h with ⟨e, _⟩ | ⟨_, e, _⟩ | ⟨_, l, m, q, x, e3, hq, hx1, hx2, e4⟩
    · simp only [List.getD_cons_zero] at e
      rw [hw] at e; exact absurd e (meth_ne h1 h2)
    · rcases hs with hs | hs
      · exact absurd hs hk0
      · exact absurd e hs
    · simp only [List.getD_cons_zero] at hq
      rw [hw] at hq
      have hqk : q = k := by
        rcases hq with ⟨_, hq⟩ | ⟨hq1, hq2, hq3⟩
        · exact absurd rfl (hq k h1 (by omega))
        · exact kind_eq hq1 (by omega) h1 h2 hq3
      subst hqk
      have hxa : x = (a : Int) := by
        unfold bytesL at hx1 hx2
        simp only [if_neg hk0] at hx1 hx2
        cases hh : hasA (q : Int)
        · rw [hh] at hx1
          simp at hx1
          rw [hx1, h5 hh]; rfl
        · rw [hh] at hx2
          simp at hx2
          rw [hx2]
          exact numS_dec2 ⟨a, h3⟩
      rw [e4, e3, addLine_op hk0, hxa]

/-- how far the model has come -/
structure FarS (items : List (Nat × Nat × Nat)) (k : Nat) (ms : List Meth) : Prop where
  le : k ≤ items.length
  gat : ms = gather (items.take k)
  som : k = 0 ∨ ms ≠ []

theorem FarS.next {items : List (Nat × Nat × Nat)} {k : Nat} {ms ms' : List Meth} (h : FarS items k ms) (hf : ∀ i ∈ items, Fine i) (hfst : ∀ i l, items = i :: l → i.1 = 0) (hk : k < items.length) {ws : List (List UInt8)} (hw : ws = cutS 32 [] (lineOf items[k])) (hl : specLine ms ws ms') : FarS items (k + 1) ms' := by
  have hi := hf items[k] (List.getElem_mem hk)
  have hs : items[k].1 = 0 ∨ ms ≠ [] := by
    rcases h.som with e | e
    · subst e
      cases items with
      | nil => simp at hk
      | cons i l => exact .inl (hfst i l rfl)
    · exact .inr e
  rw [hw, cut_line' hi] at hl
  have e := spec_add hi hs hl
  refine ⟨by omega, ?_, .inr ?_⟩
  · rw [e, h.gat, List.take_add_one, List.getElem?_eq_getElem hk]
    exact (gather_snoc _ _).symm
  · rw [e]; exact addLine_some hs

end Go.Proofs.YtlbkgnmalhidmaaDoor

/-
  Strings, methods and operations in rows of their own beside one another.
-/
namespace Go.Proofs.YtlbkgnmalhidmaaDoor
open Go.RowKit

theorem str_ne_meths {w : World} {B B' : Nat} {v v' : Value} {xs : List ByteArray} {ms : List (Int × Int × Value)} (hr : StrRow B w v xs) (h : MRow B' w v' ms) : ∀ g, v.ownBlock = some g → v'.ownBlock ≠ some g := by
  intro g e e'
  rcases hr.2 with ⟨rfl, _⟩ | ⟨g1, cap, cur, rfl, _, hh, _⟩
  · cases e
  · rcases h.2 with ⟨rfl, _⟩ | ⟨g2, cap', cur', rfl, _, hh', _⟩
    · cases e'
    · simp [Value.ownBlock] at e e'
      subst e; subst e'
      rw [hh] at hh'
      simp at hh'

theorem str_ne_ops {w : World} {B B' : Nat} {v v' : Value} {xs : List ByteArray} {L : List (Int × Int)} (hr : StrRow B w v xs) (h : OpsRow B' w v' L) : ∀ g, v.ownBlock = some g → v'.ownBlock ≠ some g := by
  intro g e e'
  rcases hr.2 with ⟨rfl, _⟩ | ⟨g1, cap, cur, rfl, _, hh, _⟩
  · cases e
  · rcases h.2 with ⟨rfl, _⟩ | ⟨g2, cap', cur', rfl, _, hh', _⟩
    · cases e'
    · simp [Value.ownBlock] at e e'
      subst e; subst e'
      rw [hh] at hh'
      simp at hh'

theorem str_ne_box {w : World} {g : Nat} {n : Nat} {f : Nat → Value} {B : Nat} {v : Value} {xs : List ByteArray} (hr : w.rowIs g 26 n f) (h : StrRow B w v xs) : v.ownBlock ≠ some g := by
  intro e
  obtain ⟨c, hc, _⟩ := hr
  rcases h.2 with ⟨rfl, _⟩ | ⟨g2, cap', cur', rfl, _, hh', _⟩
  · cases e
  · simp [Value.ownBlock] at e
    subst e
    rw [hc] at hh'
    simp at hh'

theorem StrRow.kept {B : Nat} {w w' : World} {v : Value} {xs : List ByteArray} {row : Option Nat} (h : StrRow B w v xs) (hg : w.grownBy w' row) (hne : ∀ g, row = some g → v.ownBlock ≠ some g) : StrRow B w' v xs :=
  World.ownsRow.kept h hg (by
    cases e : v.ownBlock with
    | none => exact .inl rfl
    | some g => exact .inr (fun e' => hne g e'.symm e))

theorem StrRow.below {B : Nat} {w w' : World} {v : Value} {xs : List ByteArray} (h : StrRow B w v xs) (hb : Below w.heap.size w w') : StrRow B w' v xs := h.kept (below_grown hb none) (fun g e => by cases e)

theorem StrRow.mono {B B' : Nat} {w : World} {v : Value} {xs : List ByteArray} (h : StrRow B w v xs) (hB : B' ≤ B) : StrRow B' w v xs := by
  obtain ⟨h1, h2⟩ := h
  refine ⟨h1, ?_⟩
  rcases h2 with h2 | ⟨g, cap, cur, e1, e2, e3⟩
  · exact .inl h2
  · exact .inr ⟨g, cap, cur, e1, by omega, e3⟩

/-- a method is appended, whose operations lie in a row of their own -/
theorem PRow.snocOps {B : Nat} {w w' : World} {v v' : Value} {ms : List MM} (h : PRow B w v ms) (hg : w.grownBy w' v.ownBlock) {x t : Int} {vo : Value} {L : List (Int × Int)} (ho : OpsRow B w vo L) (hd : ∀ m ∈ ms, ∀ k, m.2.2.1.ownBlock = some k → vo.ownBlock ≠ some k) (hrow : MRow B w' v' (ms.map MM.tri ++ [(x, t, vo)])) : PRow B w' v' (ms ++ [(x, t, vo, L)]) := by
  refine ⟨by simpa [MM.tri] using hrow, fun m hm => ?_, ?_⟩
  · rcases List.mem_append.1 hm with hm | hm
    · exact (h.ops m hm).kept hg (fun k e hk => mrow_ne h.row (h.ops m hm) k e hk)
    · simp at hm; subst hm; exact ho.kept hg (fun k e hk => mrow_ne h.row ho k e hk)
  · exact List.pairwise_append.2 ⟨h.dis, by simp, fun m hm n hn => by simp at hn; subst hn; exact hd m hm⟩

theorem cutS_ne (c : UInt8) : ∀ (l cur : List UInt8), 1 ≤ (cutS c cur l).length
  | [], _ => by simp [cutS]
  | d :: l, cur => by
    unfold cutS
    split
    · simp
    · exact cutS_ne c l _

theorem cutS_len (c : UInt8) : ∀ (l cur : List UInt8), (cutS c cur l).length ≤ l.length + 1
  | [], _ => by simp [cutS]
  | d :: l, cur => by
    unfold cutS
    split
    · have := cutS_len c l []; simp; omega
    · have := cutS_len c l (cur ++ [d]); simp; omega

theorem cutS_small (c : UInt8) : ∀ (l cur : List UInt8), ∀ p ∈ cutS c cur l, p.length ≤ cur.length + l.length
  | [], cur, p, hp => by simp [cutS] at hp; simp [hp]
  | d :: l, cur, p, hp => by
    unfold cutS at hp
    split at hp
    · rcases List.mem_cons.1 hp with rfl | hp
      · omega
      · have := cutS_small c l [] p hp; simp at this ⊢; omega
    · have := cutS_small c l _ p hp; simp at this ⊢; omega

/-- what l1Split cut is not longer than what was cut -/
theorem split_small {T : ByteArray} {c : UInt8} {ss : List ByteArray} (h : ss.map ByteArray.toList = cutS c [] T.toList) : (1 ≤ ss.length ∧ ss.length ≤ T.size + 1) ∧ ∀ s ∈ ss, s.size ≤ T.size := by
  have hl : ss.length = (cutS c [] T.toList).length := by rw [← h]; simp
  have hT : T.toList.length = T.size := by rw [ByteArray.toList_eq, Array.length_toList]; rfl
  refine ⟨⟨by rw [hl]; exact cutS_ne c _ _, by rw [hl]; have := cutS_len c T.toList []; omega⟩, fun s hs => ?_⟩
  have hm : s.toList ∈ cutS c [] T.toList := by rw [← h]; exact List.mem_map_of_mem hs
  have := cutS_small c _ _ _ hm
  have hS : s.toList.length = s.size := by rw [ByteArray.toList_eq, Array.length_toList]; rfl
  simp at this
  omega

end Go.Proofs.YtlbkgnmalhidmaaDoor
