/-
  From what the statement reads to what the walks ask: an argument that reads as a program lies in memory as methods with their operations. Nothing of the translation is used here.
-/
import Derived.Test.YtbjgjjkgfnfejaaGreatDoorRFV
import Derived.Deep.SlicePairs
import Derived.Deep.Strs
namespace Go.Proofs.YtbjgjjkgfnfejaaGreatDoor
open Go.ChangeShapes Go.WideShapes Go.Deep
section
variable {H:Type} {enc:TypeId × Value->H} {P:Program} {w:World} {base:Nat} {spare:Nat->Bool} {held:Bool}
theorem zem {a:Addr} {v:Value} (h:w.cell? (a.add 0)=some v):∃b o,a=⟨b,o,none⟩:=by
 have hs:=World.cell?_spot h
 obtain⟨b,o,s⟩:=a
 simp[Addr.add] at hs
 exact⟨b,o,by rw[hs]⟩
end
end Go.Proofs.YtbjgjjkgfnfejaaGreatDoor
