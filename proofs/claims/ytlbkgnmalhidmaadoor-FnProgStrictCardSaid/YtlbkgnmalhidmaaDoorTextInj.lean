import Derived.Test.YtlbkgnmalhidmaaDoorPlain
import Derived.Lib.ItoaNum

/-
  The text of a program, in plain words: the one function that both the document's model and the program are held against. Nothing of the translation is used here.
-/
namespace Go.Proofs.YtlbkgnmalhidmaaDoor

/-- bytes as a Go string -/
def bs (l : List UInt8) : ByteArray := ⟨l.toArray⟩

theorem bs_add (x y : List UInt8) : bs x ++ bs y = bs (x ++ y) := by
  unfold bs
  apply ByteArray.ext
  simp [ByteArray.data_append]

theorem bs_size (x : List UInt8) : (bs x).size = x.length := by simp [bs, ByteArray.size]
theorem bs_list (x : List UInt8) : (bs x).toList = x := by
  rw [ByteArray.toList_eq]; rfl
theorem bs_inj {x y : List UInt8} (h : bs x = bs y) : x = y := by
  rw [← bs_list x, h, bs_list]

/-- a number below 100 in decimals -/
def dec (n : Int) : List UInt8 := Lib.decDigits n.toNat

/-- the words of operations, by kind -/
def words : List (List UInt8) := [[], [110, 117, 109], [116, 101, 109, 112], [115, 101, 116], [100, 114, 111, 112], [97, 100, 100], [115, 97, 109, 101], [106, 117, 109, 112], [122, 101, 114, 111], [99, 97, 108, 108],
  [114, 101, 116], [104, 101, 114, 101], [115, 101, 110, 100, 101, 114], [112, 101, 101, 107], [112, 111, 107, 101], [98, 97, 99, 107], [115, 97, 121], [100, 101, 97, 100], [119, 104, 101, 114, 101]]

def wordOf (k : Int) : List UInt8 := words.getD k.toNat []

/-- whether something belongs to operations of a kind -/
def hasA (k : Int) : Bool := decide (k = 1 ∨ k = 2 ∨ k = 3 ∨ k = 7 ∨ k = 8 ∨ k = 9 ∨ k = 13 ∨ k = 14)

/-- what is written behind a word -/
def tail (k a : Int) : List UInt8 := if hasA k then 32 :: dec a else []

def textOp (op : Int × Int) : List UInt8 := wordOf op.1 ++ tail op.1 op.2 ++ [10]

def textHead (x t : Int) : List UInt8 := [109, 101, 116, 104, 111, 100] ++ (32 :: dec x) ++ (32 :: dec t) ++ [10]

def textOps (ops : List (Int × Int)) : List UInt8 := ops.flatMap textOp

def textMeth (m : Int × Int × List (Int × Int)) : List UInt8 := textHead m.1 m.2.1 ++ textOps m.2.2

def textMeths (ms : List (Int × Int × List (Int × Int))) : List UInt8 := ms.flatMap textMeth

def textProg (ms : List (Int × Int × List (Int × Int))) : List UInt8 := if progOk ms then textMeths ms else []

/-! how long texts are -/

theorem dec_le {n : Int} (h1 : n < 100) : (dec n).length ≤ 2 := by
  unfold dec
  by_cases h : n.toNat < 10
  · rw [Lib.decDigits_one h]; simp
  · rw [Lib.decDigits_two h (by omega)]; simp

theorem words_le : ∀ i : Nat, (words.getD i []).length ≤ 6 := by
  intro i
  by_cases h : i < 19
  · have : ∀ j : Fin 19, (words.getD j.val []).length ≤ 6 := by decide +kernel
    exact this ⟨i, h⟩
  · have : words.length ≤ i := by simp [words]; omega
    simp [List.getD, List.getElem?_eq_none this]

theorem wordOf_le (k : Int) : (wordOf k).length ≤ 6 := words_le _

theorem tail_le {k a : Int} (h : a < 100) : (tail k a).length ≤ 3 := by
  unfold tail
  split
  · have := dec_le h; simp; omega
  · simp

theorem textOp_le {op : Int × Int} (h : op.2 < 100) : (textOp op).length ≤ 10 := by
  have h1 := wordOf_le op.1
  have h2 := tail_le (k := op.1) h
  simp [textOp]; omega

theorem textOps_le : ∀ (ops : List (Int × Int)), (∀ op ∈ ops, op.2 < 100) → (textOps ops).length ≤ 10 * ops.length
  | [], _ => by simp [textOps]
  | op :: ops, h => by
    have h1 := textOp_le (h op (by simp))
    have h2 := textOps_le ops fun x hx => h x (by simp [hx])
    simp [textOps] at h2 ⊢
    omega

theorem textHead_le {x t : Int} (h1 : x < 100) (h2 : t < 100) : (textHead x t).length ≤ 13 := by
  have := dec_le h1
  have := dec_le h2
  simp [textHead]; omega

/-! what an ok program gives -/

theorem opOk_kind {nm no : Nat} {t k a : Int} (h : opOk nm no t k a = true) : 1 ≤ k ∧ k ≤ 18 := by
  cases hk : inR k 1 18
  · rw [opOk_noKind hk] at h; cases h
  · exact inR_true.1 hk

theorem opOk_a {nm no : Nat} {t k a : Int} (hn : nm ≤ 4) (ho : no ≤ 14) (ht : t ≤ 4) (h : opOk nm no t k a = true) : 0 ≤ a ∧ a < 100 := by
  unfold opOk at h
  split at h
  · have := inR_true.1 h; omega
  · split at h
    · have := inR_true.1 h; omega
    · split at h
      · have := inR_true.1 h; omega
      · split at h
        · have := inR_true.1 h; omega
        · split at h
          · have := inR_true.1 h; omega
          · simp only [Bool.and_eq_true, beq_iff_eq] at h
            omega

theorem opOk_none {nm no : Nat} {t k a : Int} (h : opOk nm no t k a = true) (hk : hasA k = false) : a = 0 := by
  unfold hasA at hk
  rw [decide_eq_false_iff_not] at hk
  rw [opOk_else nm no t k a (by omega) (by omega) (by omega) (by omega) (by omega) (by omega) (by omega) (by omega)] at h
  simp only [Bool.and_eq_true, beq_iff_eq] at h
  exact h.2

/-- what a method of an ok program is -/
structure MethFine (m : Int × Int × List (Int × Int)) : Prop where
  x0 : 0 ≤ m.1
  x2 : m.1 ≤ 2
  t0 : 0 ≤ m.2.1
  t4 : m.2.1 ≤ 4
  no : m.2.2.length ≤ 14
  kind : ∀ op ∈ m.2.2, 1 ≤ op.1 ∧ op.1 ≤ 18
  a : ∀ op ∈ m.2.2, 0 ≤ op.2 ∧ op.2 < 100
  none : ∀ op ∈ m.2.2, hasA op.1 = false → op.2 = 0

theorem methOk_fine {nm : Nat} (hn : nm ≤ 4) {m : Int × Int × List (Int × Int)} (h : methOk nm m = true) : MethFine m := by
  unfold methOk at h
  simp only [Bool.and_eq_true, decide_eq_true_iff] at h
  obtain ⟨⟨⟨h1, h2⟩, h3⟩, h4⟩ := h
  have h1 := inR_true.1 h1
  have h2 := inR_true.1 h2
  have h5 : ∀ op ∈ m.2.2, opOk nm m.2.2.length m.2.1 op.1 op.2 = true := by
    intro op ho
    exact List.all_eq_true.1 h4 op ho
  exact ⟨by omega, by omega, by omega, by omega, h3, fun op ho => opOk_kind (h5 op ho), fun op ho => opOk_a hn h3 (by omega) (h5 op ho), fun op ho => opOk_none (h5 op ho)⟩

theorem progOk_parts {ms : List (Int × Int × List (Int × Int))} (h : progOk ms = true) : 1 ≤ ms.length ∧ ms.length ≤ 4 ∧ ∀ m ∈ ms, MethFine m := by
  unfold progOk at h
  simp only [Bool.and_eq_true] at h
  obtain ⟨⟨h1, _⟩, h3⟩ := h
  have h1 := inR_true.1 h1
  exact ⟨by omega, by omega, fun m hm => methOk_fine (by omega) (List.all_eq_true.1 h3 m hm)⟩

theorem MethFine.ops_le {m : Int × Int × List (Int × Int)} (h : MethFine m) : (textOps m.2.2).length ≤ 140 := by
  have := textOps_le m.2.2 fun op ho => (h.a op ho).2
  have := h.no
  omega

theorem MethFine.text_le {m : Int × Int × List (Int × Int)} (h : MethFine m) : (textMeth m).length ≤ 153 := by
  have h1 := h.ops_le
  have := h.x2
  have := h.t4
  have := textHead_le (x := m.1) (t := m.2.1) (by omega) (by omega)
  simp [textMeth]; omega

theorem textMeths_le : ∀ (ms : List (Int × Int × List (Int × Int))), (∀ m ∈ ms, MethFine m) → (textMeths ms).length ≤ 153 * ms.length
  | [], _ => by simp [textMeths]
  | m :: ms, h => by
    have h1 := (h m (by simp)).text_le
    have h2 := textMeths_le ms fun x hx => h x (by simp [hx])
    simp [textMeths] at h2 ⊢
    omega

theorem textOps_snoc {ops : List (Int × Int)} {k : Nat} (h : k < ops.length) : textOps (ops.take (k + 1)) = textOps (ops.take k) ++ textOp ops[k] := by
  unfold textOps
  rw [List.take_add_one, List.getElem?_eq_getElem h, List.flatMap_append]
  simp

theorem textMeths_snoc {ms : List (Int × Int × List (Int × Int))} {k : Nat} (h : k < ms.length) : textMeths (ms.take (k + 1)) = textMeths (ms.take k) ++ textMeth ms[k] := by
  unfold textMeths
  rw [List.take_add_one, List.getElem?_eq_getElem h, List.flatMap_append]
  simp

theorem textOps_take_le {ops : List (Int × Int)} (h : ∀ op ∈ ops, op.2 < 100) (hn : ops.length ≤ 14) (k : Nat) : (textOps (ops.take k)).length ≤ 140 := by
  have := textOps_le (ops.take k) fun op ho => h op (List.mem_of_mem_take ho)
  have : (ops.take k).length ≤ ops.length := by simp; omega
  omega

theorem textMeths_take_le {ms : List (Int × Int × List (Int × Int))} (h : ∀ m ∈ ms, MethFine m) (hn : ms.length ≤ 4) (k : Nat) : (textMeths (ms.take k)).length ≤ 612 := by
  have := textMeths_le (ms.take k) fun m hm => h m (List.mem_of_mem_take hm)
  have : (ms.take k).length ≤ ms.length := by simp; omega
  omega

end Go.Proofs.YtlbkgnmalhidmaaDoor

/-
  Two ok programs whose plain texts are the same are the same. Nothing of the translation is used here.
-/
namespace Go.Proofs.YtlbkgnmalhidmaaDoor

/-- a number below 100 in decimals, without recursion -/
def dec2 (n : Nat) : List UInt8 := if n < 10 then [UInt8.ofNat (48 + n)] else [UInt8.ofNat (48 + n / 10), UInt8.ofNat (48 + n % 10)]

theorem dec_dec2 {n : Int} (h : n < 100) : dec n = dec2 n.toNat := by
  unfold dec dec2
  by_cases h' : n.toNat < 10
  · rw [Lib.decDigits_one h', if_pos h']
  · rw [Lib.decDigits_two h' (by omega), if_neg h']

/-- a line, by numbers: (0, x, t) a method's, (k, a, 0) an operation's -/
def lineOf (i : Nat × Nat × Nat) : List UInt8 :=
  if i.1 = 0 then [109, 101, 116, 104, 111, 100] ++ (32 :: dec2 i.2.1) ++ (32 :: dec2 i.2.2)
  else words.getD i.1 [] ++ (if hasA i.1 then 32 :: dec2 i.2.1 else [])

def numOfB (l : List UInt8) : Nat := l.foldl (fun n c => n * 10 + (c.toNat - 48)) 0

def upTo (l : List UInt8) : List UInt8 := l.takeWhile (· != 32)
def behind (l : List UInt8) : List UInt8 := (l.dropWhile (· != 32)).drop 1

/-- the numbers of a line -/
def readLineB (l : List UInt8) : Nat × Nat × Nat :=
  if upTo l == [109, 101, 116, 104, 111, 100] then (0, numOfB (upTo (behind l)), numOfB (behind (behind l)))
  else ((words.findIdx? (· == upTo l)).getD 99, numOfB (behind l), 0)

def numsOf (k a : Nat) : Nat := if hasA k then a else 0

theorem read_op : ∀ k : Fin 18, ∀ a : Fin 100, readLineB (lineOf (k.val + 1, a.val, 0)) = (k.val + 1, numsOf (k.val + 1) a.val, 0) ∧ ¬ (10 : UInt8) ∈ lineOf (k.val + 1, a.val, 0) := by decide +kernel

theorem read_head : ∀ x : Fin 10, ∀ t : Fin 10, readLineB (lineOf (0, x.val, t.val)) = (0, x.val, t.val) ∧ ¬ (10 : UInt8) ∈ lineOf (0, x.val, t.val) := by decide +kernel

/-- numbers of a line that may be -/
def Fine (i : Nat × Nat × Nat) : Prop := (i.1 = 0 ∧ i.2.1 < 10 ∧ i.2.2 < 10) ∨ (1 ≤ i.1 ∧ i.1 ≤ 18 ∧ i.2.1 < 100 ∧ i.2.2 = 0 ∧ (hasA i.1 = false → i.2.1 = 0))

theorem fine_read {i : Nat × Nat × Nat} (h : Fine i) : readLineB (lineOf i) = i ∧ ¬ (10 : UInt8) ∈ lineOf i := by
  obtain ⟨k, a, b⟩ := i
  rcases h with ⟨h0, h1, h2⟩ | ⟨h1, h2, h3, h4, h5⟩
  · simp only at h0 h1 h2
    subst h0
    exact read_head ⟨a, h1⟩ ⟨b, h2⟩
  · simp only at h1 h2 h3 h4 h5
    subst h4
    have h := read_op ⟨k - 1, by omega⟩ ⟨a, h3⟩
    simp only [show k - 1 + 1 = k by omega] at h
    refine ⟨?_, h.2⟩
    rw [h.1]
    unfold numsOf
    cases hk : hasA (k : Int)
    · rw [h5 hk]; rfl
    · simp

theorem fine_inj {i j : Nat × Nat × Nat} (hi : Fine i) (hj : Fine j) (h : lineOf i = lineOf j) : i = j := by
  rw [← (fine_read hi).1, h, (fine_read hj).1]

/-- a text of lines -/
def textOf (l : List (Nat × Nat × Nat)) : List UInt8 := l.flatMap fun i => lineOf i ++ [10]

theorem cut_line : ∀ {x y r s : List UInt8}, ¬ (10 : UInt8) ∈ x → ¬ (10 : UInt8) ∈ y → x ++ 10 :: r = y ++ 10 :: s → x = y ∧ r = s
  | [], [], _, _, _, _, h => by simpa using h
  | [], c :: y, _, _, _, hy, h => by simp at h; exact absurd (by simp [h.1]) hy
  | c :: x, [], _, _, hx, _, h => by simp at h; exact absurd (by simp [h.1]) hx
  | c :: x, d :: y, r, s, hx, hy, h => by
    simp at h
    have := cut_line (x := x) (y := y) (by simp at hx; exact hx.2) (by simp at hy; exact hy.2) h.2
    exact ⟨by rw [h.1, this.1], this.2⟩

theorem textOf_inj : ∀ {l m : List (Nat × Nat × Nat)}, (∀ i ∈ l, Fine i) → (∀ i ∈ m, Fine i) → textOf l = textOf m → l = m
  | [], [], _, _, _ => rfl
  | [], j :: m, _, _, h => by simp [textOf] at h
  | i :: l, [], _, _, h => by simp [textOf] at h
  | i :: l, j :: m, hl, hm, h => by
    have hi := hl i (by simp)
    have hj := hm j (by simp)
    simp only [textOf, List.flatMap_cons, List.append_assoc, List.singleton_append] at h
    obtain ⟨h1, h2⟩ := cut_line (fine_read hi).2 (fine_read hj).2 h
    rw [fine_inj hi hj h1, textOf_inj (l := l) (m := m) (fun x hx => hl x (by simp [hx])) (fun x hx => hm x (by simp [hx])) h2]

/-- the lines of a method, and of methods -/
def linesM (m : Int × Int × List (Int × Int)) : List (Nat × Nat × Nat) := (0, m.1.toNat, m.2.1.toNat) :: m.2.2.map fun op => (op.1.toNat, op.2.toNat, 0)
def linesMs (ms : List (Int × Int × List (Int × Int))) : List (Nat × Nat × Nat) := ms.flatMap linesM

theorem lines_fine {m : Int × Int × List (Int × Int)} (h : MethFine m) : ∀ i ∈ linesM m, Fine i := by
  intro i hi
  unfold linesM at hi
  rcases List.mem_cons.1 hi with rfl | hi
  · have := h.x0; have := h.x2; have := h.t0; have := h.t4
    exact .inl ⟨rfl, by simp only; omega, by simp only; omega⟩
  · obtain ⟨op, ho, rfl⟩ := List.mem_map.1 hi
    have h1 := h.kind op ho
    have h2 := h.a op ho
    refine .inr ⟨by simp only; omega, by simp only; omega, by simp only; omega, rfl, fun hn => ?_⟩
    simp only at hn
    rw [Int.toNat_of_nonneg (by omega)] at hn
    simp only
    rw [h.none op ho hn]
    rfl

theorem line_head {x t : Int} (h1 : x < 100) (h2 : t < 100) : textHead x t = lineOf (0, x.toNat, t.toNat) ++ [10] := by
  unfold textHead lineOf
  rw [dec_dec2 h1, dec_dec2 h2, if_pos rfl]

theorem line_op {op : Int × Int} (h1 : 1 ≤ op.1) (h2 : op.2 < 100) : textOp op = lineOf (op.1.toNat, op.2.toNat, 0) ++ [10] := by
  have hk : ¬ op.1.toNat = 0 := by omega
  have e : ((op.1.toNat : Nat) : Int) = op.1 := Int.toNat_of_nonneg (by omega)
  simp only [textOp, lineOf, tail, wordOf, if_neg hk, dec_dec2 h2, e]

theorem text_lines {m : Int × Int × List (Int × Int)} (h : MethFine m) : textMeth m = textOf (linesM m) := by
  unfold textMeth textOf linesM textOps
  rw [List.flatMap_cons, line_head (by have := h.x2; omega) (by have := h.t4; omega)]
  congr 1
  have key : ∀ l : List (Int × Int), (∀ op ∈ l, op ∈ m.2.2) → l.flatMap textOp = (l.map fun op => (op.1.toNat, op.2.toNat, 0)).flatMap fun i => lineOf i ++ [10] := by
    intro l
    induction l with
    | nil => intro _; rfl
    | cons op l ih =>
      intro hl
      have ho := hl op (by simp)
      rw [List.flatMap_cons, List.map_cons, List.flatMap_cons, ih (fun x hx => hl x (by simp [hx])), line_op (h.kind op ho).1 (h.a op ho).2]
  exact key m.2.2 fun _ h => h

theorem texts_lines : ∀ {ms : List (Int × Int × List (Int × Int))}, (∀ m ∈ ms, MethFine m) → textMeths ms = textOf (linesMs ms)
  | [], _ => rfl
  | m :: ms, h => by
    have ih := texts_lines (ms := ms) fun x hx => h x (by simp [hx])
    unfold textMeths at ih ⊢
    unfold textOf linesMs at ih ⊢
    rw [List.flatMap_cons, List.flatMap_cons, List.flatMap_append, ih, text_lines (h m (by simp))]
    rfl

/-- lines, made into methods again -/
def group (l : List (Nat × Nat × Nat)) : List (Int × Int) × List (Int × Int × List (Int × Int)) :=
  l.foldr (fun i s => if i.1 = 0 then ([], ((i.2.1 : Int), (i.2.2 : Int), s.1) :: s.2) else (((i.1 : Int), (i.2.1 : Int)) :: s.1, s.2)) ([], [])

theorem group_ops (r : List (Nat × Nat × Nat)) : ∀ {ops : List (Int × Int)}, (∀ op ∈ ops, 1 ≤ op.1 ∧ 0 ≤ op.2) → group ((ops.map fun op => (op.1.toNat, op.2.toNat, 0)) ++ r) = (ops ++ (group r).1, (group r).2)
  | [], _ => rfl
  | op :: ops, h => by
    have ih := group_ops r (ops := ops) fun x hx => h x (by simp [hx])
    have h1 := h op (by simp)
    unfold group at ih ⊢
    rw [List.map_cons, List.cons_append, List.foldr_cons, ih]
    simp only
    rw [if_neg (by omega), Int.toNat_of_nonneg (by omega), Int.toNat_of_nonneg h1.2]
    rfl

theorem group_lines : ∀ {ms : List (Int × Int × List (Int × Int))}, (∀ m ∈ ms, MethFine m) → group (linesMs ms) = ([], ms)
  | [], _ => rfl
  | m :: ms, h => by
    have ih := group_lines (ms := ms) fun x hx => h x (by simp [hx])
    have hm := h m (by simp)
    unfold linesMs
    rw [List.flatMap_cons]
    unfold linesM
    rw [List.cons_append]
    have hg := group_ops (linesMs ms) (ops := m.2.2) fun op ho => ⟨(hm.kind op ho).1, (hm.a op ho).1⟩
    rw [ih] at hg
    have e : group ((0, m.1.toNat, m.2.1.toNat) :: (m.2.2.map (fun op => (op.1.toNat, op.2.toNat, 0)) ++ linesMs ms)) = ([], ((m.1.toNat : Int), (m.2.1.toNat : Int), (group (m.2.2.map (fun op => (op.1.toNat, op.2.toNat, 0)) ++ linesMs ms)).1) :: (group (m.2.2.map (fun op => (op.1.toNat, op.2.toNat, 0)) ++ linesMs ms)).2) := rfl
    refine e.trans ?_
    rw [hg, Int.toNat_of_nonneg hm.x0, Int.toNat_of_nonneg hm.t0]
    simp

theorem textMeths_inj {ms ns : List (Int × Int × List (Int × Int))} (hm : ∀ m ∈ ms, MethFine m) (hn : ∀ m ∈ ns, MethFine m) (h : textMeths ms = textMeths ns) : ms = ns := by
  rw [texts_lines hm, texts_lines hn] at h
  have hfine : ∀ {l : List (Int × Int × List (Int × Int))}, (∀ m ∈ l, MethFine m) → ∀ i ∈ linesMs l, Fine i := by
    intro l hl i hi
    obtain ⟨m, hm, hi⟩ := List.mem_flatMap.1 hi
    exact lines_fine (hl m hm) i hi
  have := textOf_inj (hfine hm) (hfine hn) h
  have e := group_lines hm
  rw [this, group_lines hn] at e
  exact (congrArg Prod.snd e).symm

theorem textProg_inj {ms ns : List (Int × Int × List (Int × Int))} (hm : progOk ms = true) (hn : progOk ns = true) (h : textProg ms = textProg ns) : ms = ns := by
  unfold textProg at h
  rw [if_pos hm, if_pos hn] at h
  exact textMeths_inj (progOk_parts hm).2.2 (progOk_parts hn).2.2 h

theorem textProg_some {ms : List (Int × Int × List (Int × Int))} (hm : progOk ms = true) : textProg ms ≠ [] := by
  unfold textProg
  rw [if_pos hm]
  obtain ⟨h1, _, _⟩ := progOk_parts hm
  match ms, h1 with
  | m :: ms, _ => simp [textMeths, textMeth, textHead]

theorem textProg_none {ms : List (Int × Int × List (Int × Int))} (hm : progOk ms = false) : textProg ms = [] := by
  simp [textProg, hm]

end Go.Proofs.YtlbkgnmalhidmaaDoor
