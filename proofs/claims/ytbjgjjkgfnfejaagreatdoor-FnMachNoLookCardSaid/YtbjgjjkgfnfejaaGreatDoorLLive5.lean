/-
  The program hands out its calls: list.
-/
import Derived.Test.YtbjgjjkgfnfejaaGreatDoorLWalk14
import Derived.Deep.DrawnRows
namespace Go.Proofs.YtbjgjjkgfnfejaaGreatDoor
open Go.RowKit
attribute [local go_sem ↓] Go.wp_at_zero Go.wp_at_succ
variable {B:Nat} {w w':World} {bl br:Nat} {vp j9 qa:Value} {C D:Nat->Nat} {T:Nat->Value × Value} {h h':Hp}
attribute [local go_sem ↓] Go.wp_at_zero Go.wp_at_succ
variable {B:Nat} {w w':World} {bl br:Nat} {vp j9 qa:Value} {C D:Nat->Nat} {T:Nat->Value × Value} {cs:List Cl} {now:Int}
attribute [local go_sem ↓] Go.wp_at_zero Go.wp_at_succ
end Go.Proofs.YtbjgjjkgfnfejaaGreatDoor
