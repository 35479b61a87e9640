/-
  Two ok programs whose plain texts are the same are the same. Nothing of the translation is used here.
-/
import Derived.Test.YtohpoknfmlajgaaDoorTextPlain
namespace Go.Proofs.YtohpoknfmlajgaaDoor

/-- a number below 100 in decimals, without recursion -/
def dec2 (n : Nat) : List UInt8 := if n < 10 then [UInt8.ofNat (48 + n)] else [UInt8.ofNat (48 + n / 10), UInt8.ofNat (48 + n % 10)]

theorem dec_dec2 {n : Int} (h : n < 100) : dec n = dec2 n.toNat := by
  unfold dec dec2
  by_cases h' : n.toNat < 10
  · rw [Lib.decDigits_one h', if_pos h']
  · rw [Lib.decDigits_two h' (by omega), if_neg h']

/-- a line, by numbers: (0, x, t) a method's, (k, a, 0) an operation's -/
def lineOf (i : Nat × Nat × Nat) : List UInt8 :=
  if i.1 = 0 then [109, 101, 116, 104, 111, 100] ++ (32 :: dec2 i.2.1) ++ (32 :: dec2 i.2.2)
  else words.getD i.1 [] ++ (if hasA i.1 then 32 :: dec2 i.2.1 else [])

def numOfB (l : List UInt8) : Nat := l.foldl (fun n c => n * 10 + (c.toNat - 48)) 0

def upTo (l : List UInt8) : List UInt8 := l.takeWhile (· != 32)
def behind (l : List UInt8) : List UInt8 := (l.dropWhile (· != 32)).drop 1

/-- the numbers of a line -/
def readLineB (l : List UInt8) : Nat × Nat × Nat :=
  if upTo l == [109, 101, 116, 104, 111, 100] then (0, numOfB (upTo (behind l)), numOfB (behind (behind l)))
  else ((words.findIdx? (· == upTo l)).getD 99, numOfB (behind l), 0)

def numsOf (k a : Nat) : Nat := if hasA k then a else 0

theorem read_op : ∀ k : Fin 18, ∀ a : Fin 100, readLineB (lineOf (k.val + 1, a.val, 0)) = (k.val + 1, numsOf (k.val + 1) a.val, 0) ∧ ¬ (10 : UInt8) ∈ lineOf (k.val + 1, a.val, 0) := by decide +kernel

theorem read_head : ∀ x : Fin 10, ∀ t : Fin 10, readLineB (lineOf (0, x.val, t.val)) = (0, x.val, t.val) ∧ ¬ (10 : UInt8) ∈ lineOf (0, x.val, t.val) := by decide +kernel

/-- numbers of a line that may be -/
def Fine (i : Nat × Nat × Nat) : Prop := (i.1 = 0 ∧ i.2.1 < 10 ∧ i.2.2 < 10) ∨ (1 ≤ i.1 ∧ i.1 ≤ 18 ∧ i.2.1 < 100 ∧ i.2.2 = 0 ∧ (hasA i.1 = false → i.2.1 = 0))

theorem fine_read {i : Nat × Nat × Nat} (h : Fine i) : readLineB (lineOf i) = i ∧ ¬ (10 : UInt8) ∈ lineOf i := by
  obtain ⟨k, a, b⟩ := i
  rcases h with ⟨h0, h1, h2⟩ | ⟨h1, h2, h3, h4, h5⟩
  · simp only at h0 h1 h2
    subst h0
    exact read_head ⟨a, h1⟩ ⟨b, h2⟩
  · simp only at h1 h2 h3 h4 h5
    subst h4
    have h := read_op ⟨k - 1, by omega⟩ ⟨a, h3⟩
    simp only [show k - 1 + 1 = k by omega] at h
    refine ⟨?_, h.2⟩
    rw [h.1]
    unfold numsOf
    cases hk : hasA (k : Int)
    · rw [h5 hk]; rfl
    · simp

theorem fine_inj {i j : Nat × Nat × Nat} (hi : Fine i) (hj : Fine j) (h : lineOf i = lineOf j) : i = j := by
  rw [← (fine_read hi).1, h, (fine_read hj).1]

/-- a text of lines -/
def textOf (l : List (Nat × Nat × Nat)) : List UInt8 := l.flatMap fun i => lineOf i ++ [10]

theorem cut_line : ∀ {x y r s : List UInt8}, ¬ (10 : UInt8) ∈ x → ¬ (10 : UInt8) ∈ y → x ++ 10 :: r = y ++ 10 :: s → x = y ∧ r = s
  | [], [], _, _, _, _, h => by simpa using h
  | [], c :: y, _, _, _, hy, h => by simp at h; exact absurd (by simp [h.1]) hy
  | c :: x, [], _, _, hx, _, h => by simp at h; exact absurd (by simp [h.1]) hx
  | c :: x, d :: y, r, s, hx, hy, h => by
    simp at h
    have := cut_line (x := x) (y := y) (by simp at hx; exact hx.2) (by simp at hy; exact hy.2) h.2
    exact ⟨by rw [h.1, this.1], this.2⟩

theorem textOf_inj : ∀ {l m : List (Nat × Nat × Nat)}, (∀ i ∈ l, Fine i) → (∀ i ∈ m, Fine i) → textOf l = textOf m → l = m
  | [], [], _, _, _ => rfl
  | [], j :: m, _, _, h => by simp [textOf] at h
  | i :: l, [], _, _, h => by simp [textOf] at h
  | i :: l, j :: m, hl, hm, h => by
    have hi := hl i (by simp)
    have hj := hm j (by simp)
    simp only [textOf, List.flatMap_cons, List.append_assoc, List.singleton_append] at h
    obtain ⟨h1, h2⟩ := cut_line (fine_read hi).2 (fine_read hj).2 h
    rw [fine_inj hi hj h1, textOf_inj (l := l) (m := m) (fun x hx => hl x (by simp [hx])) (fun x hx => hm x (by simp [hx])) h2]

/-- the lines of a method, and of methods -/
def linesM (m : Int × Int × List (Int × Int)) : List (Nat × Nat × Nat) := (0, m.1.toNat, m.2.1.toNat) :: m.2.2.map fun op => (op.1.toNat, op.2.toNat, 0)
def linesMs (ms : List (Int × Int × List (Int × Int))) : List (Nat × Nat × Nat) := ms.flatMap linesM

theorem lines_fine {m : Int × Int × List (Int × Int)} (h : MethFine m) : ∀ i ∈ linesM m, Fine i := by
  intro i hi
  unfold linesM at hi
  rcases List.mem_cons.1 hi with rfl | hi
  · have := h.x0; have := h.x2; have := h.t0; have := h.t4
    exact .inl ⟨rfl, by simp only; omega, by simp only; omega⟩
  · obtain ⟨op, ho, rfl⟩ := List.mem_map.1 hi
    have h1 := h.kind op ho
    have h2 := h.a op ho
    refine .inr ⟨by simp only; omega, by simp only; omega, by simp only; omega, rfl, fun hn => ?_⟩
    simp only at hn
    rw [Int.toNat_of_nonneg (by omega)] at hn
    simp only
    rw [h.none op ho hn]
    rfl

theorem line_head {x t : Int} (h1 : x < 100) (h2 : t < 100) : textHead x t = lineOf (0, x.toNat, t.toNat) ++ [10] := by
  unfold textHead lineOf
  rw [dec_dec2 h1, dec_dec2 h2, if_pos rfl]

theorem line_op {op : Int × Int} (h1 : 1 ≤ op.1) (h2 : op.2 < 100) : textOp op = lineOf (op.1.toNat, op.2.toNat, 0) ++ [10] := by
  have hk : ¬ op.1.toNat = 0 := by omega
  have e : ((op.1.toNat : Nat) : Int) = op.1 := Int.toNat_of_nonneg (by omega)
  simp only [textOp, lineOf, tail, wordOf, if_neg hk, dec_dec2 h2, e]

theorem text_lines {m : Int × Int × List (Int × Int)} (h : MethFine m) : textMeth m = textOf (linesM m) := by
  unfold textMeth textOf linesM textOps
  rw [List.flatMap_cons, line_head (by have := h.x2; omega) (by have := h.t4; omega)]
  congr 1
  have key : ∀ l : List (Int × Int), (∀ op ∈ l, op ∈ m.2.2) → l.flatMap textOp = (l.map fun op => (op.1.toNat, op.2.toNat, 0)).flatMap fun i => lineOf i ++ [10] := by
    intro l
    induction l with
    | nil => intro _; rfl
    | cons op l ih =>
      intro hl
      have ho := hl op (by simp)
      rw [List.flatMap_cons, List.map_cons, List.flatMap_cons, ih (fun x hx => hl x (by simp [hx])), line_op (h.kind op ho).1 (h.a op ho).2]
  exact key m.2.2 fun _ h => h

theorem texts_lines : ∀ {ms : List (Int × Int × List (Int × Int))}, (∀ m ∈ ms, MethFine m) → textMeths ms = textOf (linesMs ms)
  | [], _ => rfl
  | m :: ms, h => by
    have ih := texts_lines (ms := ms) fun x hx => h x (by simp [hx])
    unfold textMeths at ih ⊢
    unfold textOf linesMs at ih ⊢
    rw [List.flatMap_cons, List.flatMap_cons, List.flatMap_append, ih, text_lines (h m (by simp))]
    rfl

/-- lines, made into methods again -/
def group (l : List (Nat × Nat × Nat)) : List (Int × Int) × List (Int × Int × List (Int × Int)) :=
  l.foldr (fun i s => if i.1 = 0 then ([], ((i.2.1 : Int), (i.2.2 : Int), s.1) :: s.2) else (((i.1 : Int), (i.2.1 : Int)) :: s.1, s.2)) ([], [])

theorem group_ops (r : List (Nat × Nat × Nat)) : ∀ {ops : List (Int × Int)}, (∀ op ∈ ops, 1 ≤ op.1 ∧ 0 ≤ op.2) → group ((ops.map fun op => (op.1.toNat, op.2.toNat, 0)) ++ r) = (ops ++ (group r).1, (group r).2)
  | [], _ => rfl
  | op :: ops, h => by
    have ih := group_ops r (ops := ops) fun x hx => h x (by simp [hx])
    have h1 := h op (by simp)
    unfold group at ih ⊢
    rw [List.map_cons, List.cons_append, List.foldr_cons, ih]
    simp only
    rw [if_neg (by omega), Int.toNat_of_nonneg (by omega), Int.toNat_of_nonneg h1.2]
    rfl

theorem group_lines : ∀ {ms : List (Int × Int × List (Int × Int))}, (∀ m ∈ ms, MethFine m) → group (linesMs ms) = ([], ms)
  | [], _ => rfl
  | m :: ms, h => by
    have ih := group_lines (ms := ms) fun x hx => h x (by simp [hx])
    have hm := h m (by simp)
    unfold linesMs
    rw [List.flatMap_cons]
    unfold linesM
    rw [List.cons_append]
    have hg := group_ops (linesMs ms) (ops := m.2.2) fun op ho => ⟨(hm.kind op ho).1, (hm.a op ho).1⟩
    rw [ih] at hg
    have e : group ((0, m.1.toNat, m.2.1.toNat) :: (m.2.2.map (fun op => (op.1.toNat, op.2.toNat, 0)) ++ linesMs ms)) = ([], ((m.1.toNat : Int), (m.2.1.toNat : Int), (group (m.2.2.map (fun op => (op.1.toNat, op.2.toNat, 0)) ++ linesMs ms)).1) :: (group (m.2.2.map (fun op => (op.1.toNat, op.2.toNat, 0)) ++ linesMs ms)).2) := rfl
    refine e.trans ?_
    rw [hg, Int.toNat_of_nonneg hm.x0, Int.toNat_of_nonneg hm.t0]
    simp

theorem textMeths_inj {ms ns : List (Int × Int × List (Int × Int))} (hm : ∀ m ∈ ms, MethFine m) (hn : ∀ m ∈ ns, MethFine m) (h : textMeths ms = textMeths ns) : ms = ns := by
  rw [texts_lines hm, texts_lines hn] at h
  have hfine : ∀ {l : List (Int × Int × List (Int × Int))}, (∀ m ∈ l, MethFine m) → ∀ i ∈ linesMs l, Fine i := by
    intro l hl i hi
    obtain ⟨m, hm, hi⟩ := List.mem_flatMap.1 hi
    exact lines_fine (hl m hm) i hi
  have := textOf_inj (hfine hm) (hfine hn) h
  have e := group_lines hm
  rw [this, group_lines hn] at e
  exact (congrArg Prod.snd e).symm

theorem textProg_inj {ms ns : List (Int × Int × List (Int × Int))} (hm : progOk ms = true) (hn : progOk ns = true) (h : textProg ms = textProg ns) : ms = ns := by
  unfold textProg at h
  rw [if_pos hm, if_pos hn] at h
  exact textMeths_inj (progOk_parts hm).2.2 (progOk_parts hn).2.2 h

theorem textProg_some {ms : List (Int × Int × List (Int × Int))} (hm : progOk ms = true) : textProg ms ≠ [] := by
  unfold textProg
  rw [if_pos hm]
  obtain ⟨h1, _, _⟩ := progOk_parts hm
  match ms, h1 with
  | m :: ms, _ => simp [textMeths, textMeth, textHead]

theorem textProg_none {ms : List (Int × Int × List (Int × Int))} (hm : progOk ms = false) : textProg ms = [] := by
  simp [textProg, hm]

end Go.Proofs.YtohpoknfmlajgaaDoor
