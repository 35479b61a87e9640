/-
  A heap at work that the program hands out: in memory of its own.
-/
import Derived.Test.YtbjgjjkgfnfejaaGreatDoorLLive5
import Derived.Test.YtbjgjjkgfnfejaaGreatDoorLRun1
import Derived.Test.YtbjgjjkgfnfejaaGreatDoorSView
namespace Go.Proofs.YtbjgjjkgfnfejaaGreatDoor
open Go.RowKit
variable {B:Nat} {w w':World} {bl br:Nat} {vp j9 qa:Value} {C D:Nat->Nat} {T:Nat->Value × Value} {h h':Hp}
set_option maxRecDepth 100000 in
theorem zbs (n:Int) (w:World):Calls Tryz.prog 44 #[zI n] w fun e w'=>e=.returned (.bool (qy n 0 400))/\w'=w:=by
 by_cases h0:0<=n
 ·by_cases h1:n<=400
  ·rw[zx.2 ⟨h0,h1⟩]
   go_enter Tryz.func44,Tryz.ntmps44
   go_wp2
   go_ret
   exact⟨zp (by first | rfl | simp),rfl⟩
  ·rw[qw.2 (by omega)]
   go_enter Tryz.func44,Tryz.ntmps44
   go_wp2
   go_ret
   exact⟨zp (by first | rfl | simp),rfl⟩
 ·rw[qw.2 (by omega)]
  go_enter Tryz.func44,Tryz.ntmps44
  go_wp2
  go_ret
  exact⟨zp (by first | rfl | simp[h0]),rfl⟩
attribute [local go_sem ↓] Go.wp_at_zero Go.wp_at_succ
end Go.Proofs.YtbjgjjkgfnfejaaGreatDoor
