/-
  When a program is ok, in plain words: the one function that both the document's model and the program are held against. Nothing of the translation is used here.
-/
import Derived.Test.YtldiccheboipeaaBase
namespace Go.Proofs.Ytldiccheboipeaa

def inR (n lo hi : Int) : Bool := decide (lo ≤ n) && decide (n ≤ hi)

theorem inR_true {n lo hi : Int} : inR n lo hi = true ↔ lo ≤ n ∧ n ≤ hi := by simp [inR]
theorem inR_false {n lo hi : Int} : inR n lo hi = false ↔ ¬ (lo ≤ n ∧ n ≤ hi) := by
  rw [← inR_true]; simp

/-- an operation k, a of a method with t temps and no operations, among nm methods -/
def opOk (nm no : Nat) (t k a : Int) : Bool :=
  if k = 1 then inR a 0 99
  else if k = 2 ∨ k = 3 then inR a 0 (t - 1)
  else if k = 7 ∨ k = 8 then inR a 0 ((no : Int) - 1)
  else if k = 9 then inR a 0 ((nm : Int) - 1)
  else if k = 13 ∨ k = 14 then inR a 0 3
  else inR k 1 18 && (a == 0)

/-- all operations of a list -/
def opsOk (nm : Nat) (t : Int) (ops : List (Int × Int)) : Bool := ops.all fun op => opOk nm ops.length t op.1 op.2

def methOk (nm : Nat) (m : Int × Int × List (Int × Int)) : Bool :=
  inR m.1 0 2 && inR m.2.1 m.1 4 && decide (m.2.2.length ≤ 14) && opsOk nm m.2.1 m.2.2

def progOk (ms : List (Int × Int × List (Int × Int))) : Bool :=
  inR ms.length 1 4 && ((ms.getD 0 (0, 0, [])).1 == 0) && ms.all (methOk ms.length)

theorem all_of {α : Type} {l : List α} {p : α → Bool} (h : ∀ i, (hi : i < l.length) → p l[i] = true) : l.all p = true := by
  rw [List.all_eq_true]
  intro x hx
  obtain ⟨i, hi, rfl⟩ := List.getElem_of_mem hx
  exact h i hi

theorem all_not {α : Type} {l : List α} {p : α → Bool} {i : Nat} (hi : i < l.length) (h : p l[i] = false) : l.all p = false := by
  rw [List.all_eq_false]
  exact ⟨_, List.getElem_mem hi, by simp [h]⟩

theorem opsOk_yes {nm : Nat} {t : Int} {ops : List (Int × Int)} (h : ∀ i, (hi : i < ops.length) → opOk nm ops.length t ops[i].1 ops[i].2 = true) : opsOk nm t ops = true := all_of h
theorem opsOk_no {nm : Nat} {t : Int} {ops : List (Int × Int)} {i : Nat} (hi : i < ops.length) (h : opOk nm ops.length t ops[i].1 ops[i].2 = false) : opsOk nm t ops = false := all_not hi h

theorem methOk_of {nm : Nat} {x t : Int} {ops : List (Int × Int)} (h1 : inR x 0 2 = true) (h2 : inR t x 4 = true) (h3 : ops.length ≤ 14) {b : Bool} (h4 : opsOk nm t ops = b) : methOk nm (x, t, ops) = b := by
  simp [methOk, h1, h2, h3, h4]
theorem methOk_no1 {nm : Nat} {x t : Int} {ops : List (Int × Int)} (h : inR x 0 2 = false) : methOk nm (x, t, ops) = false := by simp [methOk, h]
theorem methOk_no2 {nm : Nat} {x t : Int} {ops : List (Int × Int)} (h : inR t x 4 = false) : methOk nm (x, t, ops) = false := by simp [methOk, h]
theorem methOk_no3 {nm : Nat} {x t : Int} {ops : List (Int × Int)} (h : ¬ ops.length ≤ 14) : methOk nm (x, t, ops) = false := by simp [methOk, h]

theorem opOk_1 (nm no : Nat) (t a : Int) : opOk nm no t 1 a = inR a 0 99 := rfl
theorem opOk_2 (nm no : Nat) (t a : Int) : opOk nm no t 2 a = inR a 0 (t - 1) := rfl
theorem opOk_3 (nm no : Nat) (t a : Int) : opOk nm no t 3 a = inR a 0 (t - 1) := rfl
theorem opOk_7 (nm no : Nat) (t a : Int) : opOk nm no t 7 a = inR a 0 ((no : Int) - 1) := rfl
theorem opOk_8 (nm no : Nat) (t a : Int) : opOk nm no t 8 a = inR a 0 ((no : Int) - 1) := rfl
theorem opOk_9 (nm no : Nat) (t a : Int) : opOk nm no t 9 a = inR a 0 ((nm : Int) - 1) := rfl
theorem opOk_13 (nm no : Nat) (t a : Int) : opOk nm no t 13 a = inR a 0 3 := rfl
theorem opOk_14 (nm no : Nat) (t a : Int) : opOk nm no t 14 a = inR a 0 3 := rfl
theorem opOk_else (nm no : Nat) (t k a : Int) (h1 : ¬ k = 1) (h2 : ¬ k = 2) (h3 : ¬ k = 3) (h7 : ¬ k = 7) (h8 : ¬ k = 8) (h9 : ¬ k = 9) (h13 : ¬ k = 13) (h14 : ¬ k = 14) : opOk nm no t k a = (inR k 1 18 && (a == 0)) := by
  simp [opOk, h1, h2, h3, h7, h8, h9, h13, h14]

theorem opOk_noKind {nm no : Nat} {t k a : Int} (h : inR k 1 18 = false) : opOk nm no t k a = false := by
  rw [inR_false] at h
  rw [opOk_else nm no t k a (by omega) (by omega) (by omega) (by omega) (by omega) (by omega) (by omega) (by omega), inR_false.2 h]
  rfl

theorem ret_bool {a b : Bool} (h : a = b) : Ending.returned (.bool a) = .returned (.bool b) := by rw [h]

/-- a value that is written in so few letters -/
def Few (v : Int × Int) : Prop := 0 ≤ v.1 ∧ v.1 ≤ 2 ∧ 0 ≤ v.2 ∧ v.2 < 1000

end Go.Proofs.Ytldiccheboipeaa
