/-
  OpTakes, the document's model and the program: both answer the plain function takesOf; they write to nothing that was there. The program reads its table opForms: where that table lies as its text lays it.
-/
import Derived.Test.YtnffknlgaiehdaaSpecOk
import Derived.Test.YtnffknlgaiehdaaImplOk
import Derived.Deep.RegionHeld3
import Derived.BigQuiet
import Derived.Deep.QuietTactic
namespace Go.Proofs.Ytnffknlgaiehdaa
open Go.RowKit

/-- how many values an operation that is no call takes, and leaves -/
def tk (k : Int) : Int := if k = 3 ∨ k = 4 ∨ k = 8 ∨ k = 10 ∨ k = 16 ∨ k = 12 ∨ k = 13 ∨ k = 17 ∨ k = 18 then 1 else if k = 5 ∨ k = 6 ∨ k = 14 ∨ k = 15 then 2 else 0
def lv (k : Int) : Int := if k = 1 ∨ k = 2 ∨ k = 5 ∨ k = 6 ∨ k = 9 ∨ k = 11 ∨ k = 12 ∨ k = 13 ∨ k = 15 ∨ k = 17 ∨ k = 18 then 1 else 0

/-- what an operation takes, and leaves -/
def takesOf (ms : List (Int × Int × List (Int × Int))) (k a : Int) : Int × Int :=
  if k = 9 then (if inR a 0 ((ms.length : Int) - 1) then ((ms.getD a.toNat (0, 0, [])).1, 1) else (0, 0)) else (tk k, lv k)

theorem tk_none {k : Int} (h : ¬ (1 ≤ k ∧ k ≤ 18)) : tk k = 0 := by
  unfold tk
  have h1 : ¬ (k = 3 ∨ k = 4 ∨ k = 8 ∨ k = 10 ∨ k = 16 ∨ k = 12 ∨ k = 13 ∨ k = 17 ∨ k = 18) := by omega
  have h2 : ¬ (k = 5 ∨ k = 6 ∨ k = 14 ∨ k = 15) := by omega
  rw [if_neg h1, if_neg h2]
theorem lv_none {k : Int} (h : ¬ (1 ≤ k ∧ k ≤ 18)) : lv k = 0 := by
  unfold lv
  have h1 : ¬ (k = 1 ∨ k = 2 ∨ k = 5 ∨ k = 6 ∨ k = 9 ∨ k = 11 ∨ k = 12 ∨ k = 13 ∨ k = 15 ∨ k = 17 ∨ k = 18) := by omega
  rw [if_neg h1]

theorem takesOf_call {ms : List (Int × Int × List (Int × Int))} {a : Nat} (h : a < ms.length) : takesOf ms 9 a = (ms[a].1, 1) := by
  simp only [takesOf, if_true]
  rw [inR_true.2 (by omega)]
  simp [h]
theorem takesOf_no {ms : List (Int × Int × List (Int × Int))} {a : Int} (h : inR a 0 ((ms.length : Int) - 1) = false) : takesOf ms 9 a = (0, 0) := by
  simp [takesOf, h]

theorem below_drewN2 {B : Nat} {a w : World} (h : Below B a w) : ∀ n, Below B a (w.drewN n)
  | 0 => h
  | n + 1 => by
    have := below_drewN2 h n
    exact ⟨this.os, this.tape, this.output, this.size, this.block⟩

theorem ret_two {a b : Int} {q : Int × Int} (h : q = (a, b)) : Ending.returned (.tuple #[.int .i64 a, .int .i64 b]) = .returned (.tuple #[.int .i64 q.1, .int .i64 q.2]) := by rw [h]

theorem kinds_of {k : Int} (h1 : 1 ≤ k) (h2 : k ≤ 18) (h9 : ¬ k = 9) : k = 1 ∨ k = 2 ∨ k = 3 ∨ k = 4 ∨ k = 5 ∨ k = 6 ∨ k = 7 ∨ k = 8 ∨ k = 10 ∨ k = 11 ∨ k = 12 ∨ k = 13 ∨ k = 14 ∨ k = 15 ∨ k = 16 ∨ k = 17 ∨ k = 18 := by omega

end Go.Proofs.Ytnffknlgaiehdaa
