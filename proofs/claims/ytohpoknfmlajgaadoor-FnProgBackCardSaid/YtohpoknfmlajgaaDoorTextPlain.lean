/-
  The text of a program, in plain words: the one function that both the document's model and the program are held against. Nothing of the translation is used here.
-/
import Derived.Test.YtohpoknfmlajgaaDoorPlain
import Derived.Lib.ItoaNum
namespace Go.Proofs.YtohpoknfmlajgaaDoor

/-- bytes as a Go string -/
def bs (l : List UInt8) : ByteArray := ⟨l.toArray⟩

theorem bs_add (x y : List UInt8) : bs x ++ bs y = bs (x ++ y) := by
  unfold bs
  apply ByteArray.ext
  simp [ByteArray.data_append]

theorem bs_size (x : List UInt8) : (bs x).size = x.length := by simp [bs, ByteArray.size]
theorem bs_list (x : List UInt8) : (bs x).toList = x := by
  rw [ByteArray.toList_eq]; rfl
theorem bs_inj {x y : List UInt8} (h : bs x = bs y) : x = y := by
  rw [← bs_list x, h, bs_list]

/-- a number below 100 in decimals -/
def dec (n : Int) : List UInt8 := Lib.decDigits n.toNat

/-- the words of operations, by kind -/
def words : List (List UInt8) := [[], [110, 117, 109], [116, 101, 109, 112], [115, 101, 116], [100, 114, 111, 112], [97, 100, 100], [115, 97, 109, 101], [106, 117, 109, 112], [122, 101, 114, 111], [99, 97, 108, 108],
  [114, 101, 116], [104, 101, 114, 101], [115, 101, 110, 100, 101, 114], [112, 101, 101, 107], [112, 111, 107, 101], [98, 97, 99, 107], [115, 97, 121], [100, 101, 97, 100], [119, 104, 101, 114, 101]]

def wordOf (k : Int) : List UInt8 := words.getD k.toNat []

/-- whether something belongs to operations of a kind -/
def hasA (k : Int) : Bool := decide (k = 1 ∨ k = 2 ∨ k = 3 ∨ k = 7 ∨ k = 8 ∨ k = 9 ∨ k = 13 ∨ k = 14)

/-- what is written behind a word -/
def tail (k a : Int) : List UInt8 := if hasA k then 32 :: dec a else []

def textOp (op : Int × Int) : List UInt8 := wordOf op.1 ++ tail op.1 op.2 ++ [10]

def textHead (x t : Int) : List UInt8 := [109, 101, 116, 104, 111, 100] ++ (32 :: dec x) ++ (32 :: dec t) ++ [10]

def textOps (ops : List (Int × Int)) : List UInt8 := ops.flatMap textOp

def textMeth (m : Int × Int × List (Int × Int)) : List UInt8 := textHead m.1 m.2.1 ++ textOps m.2.2

def textMeths (ms : List (Int × Int × List (Int × Int))) : List UInt8 := ms.flatMap textMeth

def textProg (ms : List (Int × Int × List (Int × Int))) : List UInt8 := if progOk ms then textMeths ms else []

/-! how long texts are -/

theorem dec_le {n : Int} (h1 : n < 100) : (dec n).length ≤ 2 := by
  unfold dec
  by_cases h : n.toNat < 10
  · rw [Lib.decDigits_one h]; simp
  · rw [Lib.decDigits_two h (by omega)]; simp

theorem words_le : ∀ i : Nat, (words.getD i []).length ≤ 6 := by
  intro i
  by_cases h : i < 19
  · have : ∀ j : Fin 19, (words.getD j.val []).length ≤ 6 := by decide +kernel
    exact this ⟨i, h⟩
  · have : words.length ≤ i := by simp [words]; omega
    simp [List.getD, List.getElem?_eq_none this]

theorem wordOf_le (k : Int) : (wordOf k).length ≤ 6 := words_le _

theorem tail_le {k a : Int} (h : a < 100) : (tail k a).length ≤ 3 := by
  unfold tail
  split
  · have := dec_le h; simp; omega
  · simp

theorem textOp_le {op : Int × Int} (h : op.2 < 100) : (textOp op).length ≤ 10 := by
  have h1 := wordOf_le op.1
  have h2 := tail_le (k := op.1) h
  simp [textOp]; omega

theorem textOps_le : ∀ (ops : List (Int × Int)), (∀ op ∈ ops, op.2 < 100) → (textOps ops).length ≤ 10 * ops.length
  | [], _ => by simp [textOps]
  | op :: ops, h => by
    have h1 := textOp_le (h op (by simp))
    have h2 := textOps_le ops fun x hx => h x (by simp [hx])
    simp [textOps] at h2 ⊢
    omega

theorem textHead_le {x t : Int} (h1 : x < 100) (h2 : t < 100) : (textHead x t).length ≤ 13 := by
  have := dec_le h1
  have := dec_le h2
  simp [textHead]; omega

/-! what an ok program gives -/

theorem opOk_kind {nm no : Nat} {t k a : Int} (h : opOk nm no t k a = true) : 1 ≤ k ∧ k ≤ 18 := by
  cases hk : inR k 1 18
  · rw [opOk_noKind hk] at h; cases h
  · exact inR_true.1 hk

theorem opOk_a {nm no : Nat} {t k a : Int} (hn : nm ≤ 4) (ho : no ≤ 14) (ht : t ≤ 4) (h : opOk nm no t k a = true) : 0 ≤ a ∧ a < 100 := by
  unfold opOk at h
  split at h
  · have := inR_true.1 h; omega
  · split at h
    · have := inR_true.1 h; omega
    · split at h
      · have := inR_true.1 h; omega
      · split at h
        · have := inR_true.1 h; omega
        · split at h
          · have := inR_true.1 h; omega
          · simp only [Bool.and_eq_true, beq_iff_eq] at h
            omega

theorem opOk_none {nm no : Nat} {t k a : Int} (h : opOk nm no t k a = true) (hk : hasA k = false) : a = 0 := by
  unfold hasA at hk
  rw [decide_eq_false_iff_not] at hk
  rw [opOk_else nm no t k a (by omega) (by omega) (by omega) (by omega) (by omega) (by omega) (by omega) (by omega)] at h
  simp only [Bool.and_eq_true, beq_iff_eq] at h
  exact h.2

/-- what a method of an ok program is -/
structure MethFine (m : Int × Int × List (Int × Int)) : Prop where
  x0 : 0 ≤ m.1
  x2 : m.1 ≤ 2
  t0 : 0 ≤ m.2.1
  t4 : m.2.1 ≤ 4
  no : m.2.2.length ≤ 14
  kind : ∀ op ∈ m.2.2, 1 ≤ op.1 ∧ op.1 ≤ 18
  a : ∀ op ∈ m.2.2, 0 ≤ op.2 ∧ op.2 < 100
  none : ∀ op ∈ m.2.2, hasA op.1 = false → op.2 = 0

theorem methOk_fine {nm : Nat} (hn : nm ≤ 4) {m : Int × Int × List (Int × Int)} (h : methOk nm m = true) : MethFine m := by
  unfold methOk at h
  simp only [Bool.and_eq_true, decide_eq_true_iff] at h
  obtain ⟨⟨⟨h1, h2⟩, h3⟩, h4⟩ := h
  have h1 := inR_true.1 h1
  have h2 := inR_true.1 h2
  have h5 : ∀ op ∈ m.2.2, opOk nm m.2.2.length m.2.1 op.1 op.2 = true := by
    intro op ho
    exact List.all_eq_true.1 h4 op ho
  exact ⟨by omega, by omega, by omega, by omega, h3, fun op ho => opOk_kind (h5 op ho), fun op ho => opOk_a hn h3 (by omega) (h5 op ho), fun op ho => opOk_none (h5 op ho)⟩

theorem progOk_parts {ms : List (Int × Int × List (Int × Int))} (h : progOk ms = true) : 1 ≤ ms.length ∧ ms.length ≤ 4 ∧ ∀ m ∈ ms, MethFine m := by
  unfold progOk at h
  simp only [Bool.and_eq_true] at h
  obtain ⟨⟨h1, _⟩, h3⟩ := h
  have h1 := inR_true.1 h1
  exact ⟨by omega, by omega, fun m hm => methOk_fine (by omega) (List.all_eq_true.1 h3 m hm)⟩

theorem MethFine.ops_le {m : Int × Int × List (Int × Int)} (h : MethFine m) : (textOps m.2.2).length ≤ 140 := by
  have := textOps_le m.2.2 fun op ho => (h.a op ho).2
  have := h.no
  omega

theorem MethFine.text_le {m : Int × Int × List (Int × Int)} (h : MethFine m) : (textMeth m).length ≤ 153 := by
  have h1 := h.ops_le
  have := h.x2
  have := h.t4
  have := textHead_le (x := m.1) (t := m.2.1) (by omega) (by omega)
  simp [textMeth]; omega

theorem textMeths_le : ∀ (ms : List (Int × Int × List (Int × Int))), (∀ m ∈ ms, MethFine m) → (textMeths ms).length ≤ 153 * ms.length
  | [], _ => by simp [textMeths]
  | m :: ms, h => by
    have h1 := (h m (by simp)).text_le
    have h2 := textMeths_le ms fun x hx => h x (by simp [hx])
    simp [textMeths] at h2 ⊢
    omega

theorem textOps_snoc {ops : List (Int × Int)} {k : Nat} (h : k < ops.length) : textOps (ops.take (k + 1)) = textOps (ops.take k) ++ textOp ops[k] := by
  unfold textOps
  rw [List.take_add_one, List.getElem?_eq_getElem h, List.flatMap_append]
  simp

theorem textMeths_snoc {ms : List (Int × Int × List (Int × Int))} {k : Nat} (h : k < ms.length) : textMeths (ms.take (k + 1)) = textMeths (ms.take k) ++ textMeth ms[k] := by
  unfold textMeths
  rw [List.take_add_one, List.getElem?_eq_getElem h, List.flatMap_append]
  simp

theorem textOps_take_le {ops : List (Int × Int)} (h : ∀ op ∈ ops, op.2 < 100) (hn : ops.length ≤ 14) (k : Nat) : (textOps (ops.take k)).length ≤ 140 := by
  have := textOps_le (ops.take k) fun op ho => h op (List.mem_of_mem_take ho)
  have : (ops.take k).length ≤ ops.length := by simp; omega
  omega

theorem textMeths_take_le {ms : List (Int × Int × List (Int × Int))} (h : ∀ m ∈ ms, MethFine m) (hn : ms.length ≤ 4) (k : Nat) : (textMeths (ms.take k)).length ≤ 612 := by
  have := textMeths_le (ms.take k) fun m hm => h m (List.mem_of_mem_take hm)
  have : (ms.take k).length ≤ ms.length := by simp; omega
  omega

end Go.Proofs.YtohpoknfmlajgaaDoor
