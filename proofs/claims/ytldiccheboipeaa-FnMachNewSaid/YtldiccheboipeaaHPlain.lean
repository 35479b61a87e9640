/-
  When a value, a call, a heap is in form, in plain words: what both the document's model and the program are held against. Nothing of the translation is used here.
-/
import Derived.Test.YtldiccheboipeaaHBase
import Derived.Test.YtldiccheboipeaaPlain
namespace Go.Proofs.Ytldiccheboipeaa

/-- a value, where there are so many calls -/
def valOk (n : Int) (k a : Int) : Bool := if k = 0 then a == 0 else if k = 1 then inR a 0 999 else if k = 2 then inR a 0 (n - 1) else false

def valsOk (n : Int) (l : List (Int × Int)) : Bool := l.all fun v => valOk n v.1 v.2

theorem valsOk_yes {n : Int} {l : List (Int × Int)} (h : ∀ i, (hi : i < l.length) → valOk n l[i].1 l[i].2 = true) : valsOk n l = true := all_of h
theorem valsOk_no {n : Int} {l : List (Int × Int)} {i : Nat} (hi : i < l.length) (h : valOk n l[i].1 l[i].2 = false) : valsOk n l = false := all_not hi h

/-- a call of a program, where there are so many calls -/
def clOk (ms : List (Int × Int × List (Int × Int))) (n : Nat) (c : Cl) : Bool :=
  inR c.m 0 ((ms.length : Int) - 1) && inR c.pc 0 ((ms.getD c.m.toNat (0, 0, [])).2.2.length : Int) && decide ((c.temps.length : Int) = (ms.getD c.m.toNat (0, 0, [])).2.1) && decide (c.stack.length ≤ 6) &&
  (inR c.sender (-1) ((n : Int) - 1) && valsOk n c.temps && valsOk n c.stack && (!c.dead || (c.sender == -1 && c.stack.length == 0)))

end Go.Proofs.Ytldiccheboipeaa
