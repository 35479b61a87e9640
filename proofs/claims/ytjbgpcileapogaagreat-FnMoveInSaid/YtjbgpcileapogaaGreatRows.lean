/-
  No cell of these rows narrows 'for every input' (looked for: loops, veiled, ifaces, maps, wideKeys, modest, calm, conditions, laid).
  DERIVED. THE GIVEN ROWS OF THIS SEAT. 5 by the template 'for every input the law returns true; each argument reads behind the call as it read before'; 0 by the template 'total and deterministic' (their statements: YtjbgpcileapogaaGreatTotals.lean).
  GIVEN WITH THE SEED: the statements are not yours to turn. If you find one false, say at which input.
  Laid BY PROGRAM, IN A SANDBOX (cutbox-rows.mjs): the forced cells as the released guide's own fill.sh prints them over the translation 86013f519090d4ea… (all of the seat's roots in one cut). By AI agents, Wed Nov 11 2026. No macro, syntax, notation, axiom, sorry.
-/
import Derived.Test.YtjbgpcileapogaaGreatChecked
import GoSem.Claim
import GoSem.ClaimJoined
import GoSem.ClaimMapViews
import Derived.JoinedTies
import Derived.KernelRfl
namespace Go.Proofs.YtjbgpcileapogaaGreat
/- THE CELL 'sum', in the pinned program and in every row, IS THE sha256 OF THE DUMP (.gsa) THAT YtjbgpcileapogaaGreatProg.lean LOADS. Nothing in Lean hashes anything: it is a label: what it is worth is what the hold of that sum in a sandbox is worth. -/
noncomputable def Tryz.pinned : Pinned := { name := "ytjbgpcileapogaagreat", sum := "86013f519090d4eadfd191834efaa7535413efc67df059ac1d2b70ba1da5a5bd", checked := Tryz.checked }
namespace Rows
def none {H : Type} : Left H := { results := [], args := [] }

/-- 'laws.FnWalkNext': WHATEVER THE INPUT: true; the input reads as it did. -/
def fnWalkNextSpec : ChangeSpec := { name := "fnWalkNext", fn := fun _ => fun
  | [d] => { results := [.lit (.bool true)], args := [d] }
  | _ => none }
def fnWalkNextRow : OpenClaim := { program := "ytjbgpcileapogaagreat", sum := "86013f519090d4eadfd191834efaa7535413efc67df059ac1d2b70ba1da5a5bd", func := "loop.example/gemel/laws.FnWalkNext", spec := "fnWalkNext", unfollowed := true, recurses := true, apart := false }
def FnWalkNextSaid : Prop := fnWalkNextRow.holds Tryz.pinned (OpenSpec.ofChange fnWalkNextSpec)

/-- ITS FALSE NEIGHBOUR: 'it returns false'. Refute it at one input. -/
def fnWalkNextWrong : ChangeSpec := { name := "fnWalkNext", fn := fun _ => fun
  | [d] => { results := [.lit (.bool false)], args := [d] }
  | _ => none }
def FnWalkNextWrongFalsely : Prop := fnWalkNextRow.holds Tryz.pinned (OpenSpec.ofChange fnWalkNextWrong)

/-- 'laws.FnWalkMethods': WHATEVER THE INPUT: true; the input reads as it did. -/
def fnWalkMethodsSpec : ChangeSpec := { name := "fnWalkMethods", fn := fun _ => fun
  | [d] => { results := [.lit (.bool true)], args := [d] }
  | _ => none }
def fnWalkMethodsRow : OpenClaim := { program := "ytjbgpcileapogaagreat", sum := "86013f519090d4eadfd191834efaa7535413efc67df059ac1d2b70ba1da5a5bd", func := "loop.example/gemel/laws.FnWalkMethods", spec := "fnWalkMethods", unfollowed := true, recurses := true, apart := false }
def FnWalkMethodsSaid : Prop := fnWalkMethodsRow.holds Tryz.pinned (OpenSpec.ofChange fnWalkMethodsSpec)

/-- ITS FALSE NEIGHBOUR: 'it returns false'. Refute it at one input. -/
def fnWalkMethodsWrong : ChangeSpec := { name := "fnWalkMethods", fn := fun _ => fun
  | [d] => { results := [.lit (.bool false)], args := [d] }
  | _ => none }
def FnWalkMethodsWrongFalsely : Prop := fnWalkMethodsRow.holds Tryz.pinned (OpenSpec.ofChange fnWalkMethodsWrong)

/-- 'laws.FnMoveIn': WHATEVER THE INPUT: true; the input reads as it did. -/
def fnMoveInSpec : ChangeSpec := { name := "fnMoveIn", fn := fun _ => fun
  | [d] => { results := [.lit (.bool true)], args := [d] }
  | _ => none }
def fnMoveInRow : OpenClaim := { program := "ytjbgpcileapogaagreat", sum := "86013f519090d4eadfd191834efaa7535413efc67df059ac1d2b70ba1da5a5bd", func := "loop.example/gemel/laws.FnMoveIn", spec := "fnMoveIn", unfollowed := true, recurses := true, apart := false }
def FnMoveInSaid : Prop := fnMoveInRow.holds Tryz.pinned (OpenSpec.ofChange fnMoveInSpec)

/-- ITS FALSE NEIGHBOUR: 'it returns false'. Refute it at one input. -/
def fnMoveInWrong : ChangeSpec := { name := "fnMoveIn", fn := fun _ => fun
  | [d] => { results := [.lit (.bool false)], args := [d] }
  | _ => none }
def FnMoveInWrongFalsely : Prop := fnMoveInRow.holds Tryz.pinned (OpenSpec.ofChange fnMoveInWrong)

/-- 'laws.FnMoveBack': WHATEVER THE INPUT: true; the input reads as it did. -/
def fnMoveBackSpec : ChangeSpec := { name := "fnMoveBack", fn := fun _ => fun
  | [d] => { results := [.lit (.bool true)], args := [d] }
  | _ => none }
def fnMoveBackRow : OpenClaim := { program := "ytjbgpcileapogaagreat", sum := "86013f519090d4eadfd191834efaa7535413efc67df059ac1d2b70ba1da5a5bd", func := "loop.example/gemel/laws.FnMoveBack", spec := "fnMoveBack", unfollowed := true, recurses := true, apart := false }
def FnMoveBackSaid : Prop := fnMoveBackRow.holds Tryz.pinned (OpenSpec.ofChange fnMoveBackSpec)

/-- ITS FALSE NEIGHBOUR: 'it returns false'. Refute it at one input. -/
def fnMoveBackWrong : ChangeSpec := { name := "fnMoveBack", fn := fun _ => fun
  | [d] => { results := [.lit (.bool false)], args := [d] }
  | _ => none }
def FnMoveBackWrongFalsely : Prop := fnMoveBackRow.holds Tryz.pinned (OpenSpec.ofChange fnMoveBackWrong)

/-- 'laws.FnExactMoveIn': WHATEVER THE INPUT: true; the input reads as it did. -/
def fnExactMoveInSpec : ChangeSpec := { name := "fnExactMoveIn", fn := fun _ => fun
  | [d1, d2, d3, d4] => { results := [.lit (.bool true)], args := [d1, d2, d3, d4] }
  | _ => none }
def fnExactMoveInRow : OpenClaim := { program := "ytjbgpcileapogaagreat", sum := "86013f519090d4eadfd191834efaa7535413efc67df059ac1d2b70ba1da5a5bd", func := "loop.example/gemel/laws.FnExactMoveIn", spec := "fnExactMoveIn", unfollowed := true, recurses := true, apart := false }
def FnExactMoveInSaid : Prop := fnExactMoveInRow.holds Tryz.pinned (OpenSpec.ofChange fnExactMoveInSpec)

/-- ITS FALSE NEIGHBOUR: 'it returns false'. Refute it at one input. -/
def fnExactMoveInWrong : ChangeSpec := { name := "fnExactMoveIn", fn := fun _ => fun
  | [d1, d2, d3, d4] => { results := [.lit (.bool false)], args := [d1, d2, d3, d4] }
  | _ => none }
def FnExactMoveInWrongFalsely : Prop := fnExactMoveInRow.holds Tryz.pinned (OpenSpec.ofChange fnExactMoveInWrong)

/- THE SECOND FORM. 'bulk': how many values and letters a reading holds, each counted each time it is reached (what is shared counts as often as it is met; a slice's spare places count too). A statement '..UptoSaid' is the law's where the arguments, and the package variables that the reading takes, are together of bulk at most 1048576: NARROWER than '..Said'. Prove '..Said' where nothing that the law and all that it calls make is longer than what came in: it says more and counts as full. Else prove '..UptoSaid'. A law counts once. -/
mutual
def uptoBulk {H : Type} : DataW H → Nat
  | .lit (.string bytes) => bytes.length + 1
  | .lit _ => 1
  | .nil => 1
  | .ptr d => uptoBulk d + 1
  | .slice elems spare => uptoBulkAll elems + uptoBulkAll spare + 1
  | .agg parts => uptoBulkAll parts + 1
  | .iface _ d => uptoBulk d + 1
  | .map entries => uptoBulkEntries entries + 1
  | .held _ => 1
def uptoBulkAll {H : Type} : List (DataW H) → Nat
  | [] => 0
  | d :: r => uptoBulk d + uptoBulkAll r
def uptoBulkEntries {H : Type} : List (Lit × DataW H) → Nat
  | [] => 0
  | x :: r => uptoBulkEntry x + uptoBulkEntries r
def uptoBulkEntry {H : Type} : Lit × DataW H → Nat
  | (.string bytes, d) => bytes.length + uptoBulk d + 1
  | (_, d) => uptoBulk d + 1
 end
def uptoSmall : (H : Type) → List (DataW H) → Bool := fun _ ds => decide (uptoBulkAll ds ≤ 1048576)
def OpenSpec.upto (s : _root_.Go.ChangeSpec) : _root_.Go.OpenSpec := { _root_.Go.OpenSpec.ofChange s with cond := some uptoSmall }

/-- 'laws.FnWalkNext', WHERE WHAT IT READS IS OF BULK AT MOST 1048576: true; the input reads as it did. -/
def fnWalkNextUptoRow : OpenClaim := { program := "ytjbgpcileapogaagreat", sum := "86013f519090d4eadfd191834efaa7535413efc67df059ac1d2b70ba1da5a5bd", func := "loop.example/gemel/laws.FnWalkNext", spec := "fnWalkNext", unfollowed := true, recurses := true, apart := false, narrowed := true }
def FnWalkNextUptoSaid : Prop := fnWalkNextUptoRow.holds Tryz.pinned (OpenSpec.upto fnWalkNextSpec)

/-- 'laws.FnWalkMethods', WHERE WHAT IT READS IS OF BULK AT MOST 1048576: true; the input reads as it did. -/
def fnWalkMethodsUptoRow : OpenClaim := { program := "ytjbgpcileapogaagreat", sum := "86013f519090d4eadfd191834efaa7535413efc67df059ac1d2b70ba1da5a5bd", func := "loop.example/gemel/laws.FnWalkMethods", spec := "fnWalkMethods", unfollowed := true, recurses := true, apart := false, narrowed := true }
def FnWalkMethodsUptoSaid : Prop := fnWalkMethodsUptoRow.holds Tryz.pinned (OpenSpec.upto fnWalkMethodsSpec)

/-- 'laws.FnMoveIn', WHERE WHAT IT READS IS OF BULK AT MOST 1048576: true; the input reads as it did. -/
def fnMoveInUptoRow : OpenClaim := { program := "ytjbgpcileapogaagreat", sum := "86013f519090d4eadfd191834efaa7535413efc67df059ac1d2b70ba1da5a5bd", func := "loop.example/gemel/laws.FnMoveIn", spec := "fnMoveIn", unfollowed := true, recurses := true, apart := false, narrowed := true }
def FnMoveInUptoSaid : Prop := fnMoveInUptoRow.holds Tryz.pinned (OpenSpec.upto fnMoveInSpec)

/-- 'laws.FnMoveBack', WHERE WHAT IT READS IS OF BULK AT MOST 1048576: true; the input reads as it did. -/
def fnMoveBackUptoRow : OpenClaim := { program := "ytjbgpcileapogaagreat", sum := "86013f519090d4eadfd191834efaa7535413efc67df059ac1d2b70ba1da5a5bd", func := "loop.example/gemel/laws.FnMoveBack", spec := "fnMoveBack", unfollowed := true, recurses := true, apart := false, narrowed := true }
def FnMoveBackUptoSaid : Prop := fnMoveBackUptoRow.holds Tryz.pinned (OpenSpec.upto fnMoveBackSpec)

/-- 'laws.FnExactMoveIn', WHERE WHAT IT READS IS OF BULK AT MOST 1048576: true; the input reads as it did. -/
def fnExactMoveInUptoRow : OpenClaim := { program := "ytjbgpcileapogaagreat", sum := "86013f519090d4eadfd191834efaa7535413efc67df059ac1d2b70ba1da5a5bd", func := "loop.example/gemel/laws.FnExactMoveIn", spec := "fnExactMoveIn", unfollowed := true, recurses := true, apart := false, narrowed := true }
def FnExactMoveInUptoSaid : Prop := fnExactMoveInUptoRow.holds Tryz.pinned (OpenSpec.upto fnExactMoveInSpec)

end Rows
end Go.Proofs.YtjbgpcileapogaaGreat
