/-
  The document's model of HeapOk, its pieces: l11Val, l11Vals, l11Said, l11Form answer the plain functions; they write to nothing that was there.
-/
import Derived.Test.YtdlllpkojphpjaaSpecOk2
import Derived.Test.YtdlllpkojphpjaaHPlain
import Derived.Test.YtdlllpkojphpjaaHCopy2
import Derived.BigQuiet
import Derived.Deep.QuietTactic
namespace Go.Proofs.Ytdlllpkojphpjaa
open Go.RowKit

theorem below_drewN {B : Nat} {a w : World} (h : Below B a w) : ∀ n, Below B a (w.drewN n)
  | 0 => h
  | n + 1 => by
    have := below_drewN h n
    exact ⟨this.os, this.tape, this.output, this.size, this.block⟩

theorem valOk_other {n n' k a : Int} (h : k ≠ 2) : valOk n k a = valOk n' k a := by simp [valOk, h]
theorem valOk_call {n a : Int} : valOk n 2 a = inR a 0 (n - 1) := rfl

theorem clOk_no1 {ms : List (Int × Int × List (Int × Int))} {n : Nat} {c : Cl} (h : inR c.m 0 ((ms.length : Int) - 1) = false) : clOk ms n c = false := by simp [clOk, h]
theorem clOk_no2 {ms : List (Int × Int × List (Int × Int))} {n : Nat} {c : Cl} (h : inR c.pc 0 ((ms.getD c.m.toNat (0, 0, [])).2.2.length : Int) = false) : clOk ms n c = false := by simp only [clOk, h, Bool.and_false, Bool.false_and]
theorem clOk_no3 {ms : List (Int × Int × List (Int × Int))} {n : Nat} {c : Cl} (h : ¬ (c.temps.length : Int) = (ms.getD c.m.toNat (0, 0, [])).2.1) : clOk ms n c = false := by simp only [clOk, decide_eq_false h, Bool.and_false, Bool.false_and]
theorem clOk_no4 {ms : List (Int × Int × List (Int × Int))} {n : Nat} {c : Cl} (h : ¬ c.stack.length ≤ 6) : clOk ms n c = false := by simp only [clOk, decide_eq_false h, Bool.and_false, Bool.false_and]
theorem clOk_of {ms : List (Int × Int × List (Int × Int))} {n : Nat} {c : Cl} (h1 : inR c.m 0 ((ms.length : Int) - 1) = true) (h2 : inR c.pc 0 ((ms.getD c.m.toNat (0, 0, [])).2.2.length : Int) = true) (h3 : (c.temps.length : Int) = (ms.getD c.m.toNat (0, 0, [])).2.1) (h4 : c.stack.length ≤ 6) :
    clOk ms n c = (inR c.sender (-1) ((n : Int) - 1) && valsOk n c.temps && valsOk n c.stack && (!c.dead || (c.sender == -1 && c.stack.length == 0))) := by
  simp only [clOk, h1, h2, decide_eq_true h3, decide_eq_true h4, Bool.true_and]

theorem clOk_mk {ms : List (Int × Int × List (Int × Int))} {n mn : Nat} (hm : mn < ms.length) (pc : Int) (temps stack : List (Int × Int)) (sender : Int) (dead : Bool) :
    clOk ms n ⟨mn, pc, temps, stack, sender, dead⟩ = (inR pc 0 (ms[mn].2.2.length : Int) && decide ((temps.length : Int) = ms[mn].2.1) && decide (stack.length ≤ 6) && (inR sender (-1) ((n : Int) - 1) && valsOk n temps && valsOk n stack && (!dead || (sender == -1 && stack.length == 0)))) := by
  have e : ms.getD ((mn : Int)).toNat (0, 0, []) = ms[mn] := by simp [hm]
  have h1 : inR ((mn : Int)) 0 ((ms.length : Int) - 1) = true := inR_true.2 (by omega)
  simp only [clOk, e, h1, Bool.true_and]

end Go.Proofs.Ytdlllpkojphpjaa
