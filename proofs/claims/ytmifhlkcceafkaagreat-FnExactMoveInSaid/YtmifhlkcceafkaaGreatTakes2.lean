/-
  OpTakes, the document's model and the program: both answer the plain function takesOf; they write to nothing that was there. The program reads its table opForms: where that table lies as its text lays it.
-/
import Derived.Test.YtmifhlkcceafkaaGreatImplOk
import Derived.Deep.RegionHeld3
import Derived.BigQuiet
import Derived.Deep.QuietTactic

namespace Go.Proofs.YtmifhlkcceafkaaGreat
open Go.RowKit
def tk (k : Int) : Int := if k = 3 ∨ k = 4 ∨ k = 8 ∨ k = 10 ∨ k = 16 ∨ k = 12 ∨ k = 13 ∨ k = 17 ∨ k = 18 then 1 else if k = 5 ∨ k = 6 ∨ k = 14 ∨ k = 15 then 2 else 0
def lv (k : Int) : Int := if k = 1 ∨ k = 2 ∨ k = 5 ∨ k = 6 ∨ k = 9 ∨ k = 11 ∨ k = 12 ∨ k = 13 ∨ k = 15 ∨ k = 17 ∨ k = 18 then 1 else 0
def takesOf (ms : List (Int × Int × List (Int × Int))) (k a : Int) : Int × Int :=
  if k = 9 then (if inR a 0 ((ms.length : Int) - 1) then ((ms.getD a.toNat (0, 0, [])).1, 1) else (0, 0)) else (tk k, lv k)
end Go.Proofs.YtmifhlkcceafkaaGreat
