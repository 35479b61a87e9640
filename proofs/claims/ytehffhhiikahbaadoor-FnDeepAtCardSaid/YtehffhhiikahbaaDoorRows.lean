/-
  NARROWER THAN 'FOR EVERY INPUT', by the rows' own cells (each row's printed sentence says how): FnOpTakes: laid · FnDeepAt: laid · FnDeepMost: laid · FnDeepOk: laid · FnDeepMore: laid.
  DERIVED. THE GIVEN ROWS OF THIS SEAT. 5 by the template 'for every input the law returns true; each argument reads behind the call as it read before'; 0 by the template 'total and deterministic' (their statements: YtehffhhiikahbaaDoorTotals.lean).
  GIVEN WITH THE SEED: the statements are not yours to turn. If you find one false, say at which input.
  Laid BY PROGRAM, IN A SANDBOX (cutbox-rows.mjs): the forced cells as the released guide's own fill.sh prints them over the translation 73d6cbf9c6b720c0… (all of the seat's roots in one cut). By AI agents, Wed Nov 11 2026. No macro, syntax, notation, axiom, sorry.
-/
import Derived.Test.YtehffhhiikahbaaDoorChecked
import GoSem.Claim
import GoSem.ClaimJoined
import GoSem.ClaimMapViews
import Derived.JoinedTies
import Derived.KernelRfl
namespace Go.Proofs.YtehffhhiikahbaaDoor
/- THE CELL 'sum', in the pinned program and in every row, IS THE sha256 OF THE DUMP (.gsa) THAT YtehffhhiikahbaaDoorProg.lean LOADS. Nothing in Lean hashes anything: it is a label: what it is worth is what the hold of that sum in a sandbox is worth. -/
noncomputable def Tryd.pinned : Pinned := { name := "ytehffhhiikahbaadoor", sum := "73d6cbf9c6b720c02f2b1cc6d87fec6fb7c24463fa960bd98b4dffa5088907e2", checked := Tryd.checked }
namespace Rows
def none {H : Type} : Left H := { results := [], args := [] }

/- WHAT THE LISTED PACKAGE-LEVEL VARIABLES READ AS WHEN THE CALL BEGINS. Each datum BY PROGRAM (the guide's laid-datum.mjs) off the statement by which the dump's own 'gosem.cut.vars' lays the variable. In a bare row this is a premise. The card (YtehffhhiikahbaaDoorCards.lean) ties it to the program's text. -/
def laid_loop_example_gemel_impl_opForms {H : Type} : DataW H := .agg [.agg [.lit (.string []), .lit (.int .i64 0), .lit (.int .i64 0)], .agg [.lit (.string [110, 117, 109]), .lit (.int .i64 0), .lit (.int .i64 1)], .agg [.lit (.string [116, 101, 109, 112]), .lit (.int .i64 0), .lit (.int .i64 1)], .agg [.lit (.string [115, 101, 116]), .lit (.int .i64 1), .lit (.int .i64 0)], .agg [.lit (.string [100, 114, 111, 112]), .lit (.int .i64 1), .lit (.int .i64 0)], .agg [.lit (.string [97, 100, 100]), .lit (.int .i64 2), .lit (.int .i64 1)], .agg [.lit (.string [115, 97, 109, 101]), .lit (.int .i64 2), .lit (.int .i64 1)], .agg [.lit (.string [106, 117, 109, 112]), .lit (.int .i64 0), .lit (.int .i64 0)], .agg [.lit (.string [122, 101, 114, 111]), .lit (.int .i64 1), .lit (.int .i64 0)], .agg [.lit (.string [99, 97, 108, 108]), .lit (.int .i64 0), .lit (.int .i64 1)], .agg [.lit (.string [114, 101, 116]), .lit (.int .i64 1), .lit (.int .i64 0)], .agg [.lit (.string [104, 101, 114, 101]), .lit (.int .i64 0), .lit (.int .i64 1)], .agg [.lit (.string [115, 101, 110, 100, 101, 114]), .lit (.int .i64 1), .lit (.int .i64 1)], .agg [.lit (.string [112, 101, 101, 107]), .lit (.int .i64 1), .lit (.int .i64 1)], .agg [.lit (.string [112, 111, 107, 101]), .lit (.int .i64 2), .lit (.int .i64 0)], .agg [.lit (.string [98, 97, 99, 107]), .lit (.int .i64 2), .lit (.int .i64 1)], .agg [.lit (.string [115, 97, 121]), .lit (.int .i64 1), .lit (.int .i64 0)], .agg [.lit (.string [100, 101, 97, 100]), .lit (.int .i64 1), .lit (.int .i64 1)], .agg [.lit (.string [119, 104, 101, 114, 101]), .lit (.int .i64 1), .lit (.int .i64 1)]]

/-- 'laws.FnOpTakes': WHATEVER THE INPUT: true; the input reads as it did. -/
def fnOpTakesSpec : ChangeSpec := { name := "fnOpTakes", vars := ["loop.example/gemel/impl.opForms"], fn := fun _ => fun
  | [d, g1] => { results := [.lit (.bool true)], args := [d], vars := [g1] }
  | _ => none }
def fnOpTakesRow : OpenClaim := { program := "ytehffhhiikahbaadoor", sum := "73d6cbf9c6b720c02f2b1cc6d87fec6fb7c24463fa960bd98b4dffa5088907e2", func := "loop.example/gemel/laws.FnOpTakes", spec := "fnOpTakes", named := ["loop.example/gemel/impl.opForms"], apart := false, laid := [("loop.example/gemel/impl.opForms", laid_loop_example_gemel_impl_opForms)] }
def FnOpTakesSaid : Prop := fnOpTakesRow.holds Tryd.pinned (OpenSpec.ofChange fnOpTakesSpec)

/-- ITS FALSE NEIGHBOUR: 'it returns false'. Refute it at one input. -/
def fnOpTakesWrong : ChangeSpec := { name := "fnOpTakes", vars := ["loop.example/gemel/impl.opForms"], fn := fun _ => fun
  | [d, g1] => { results := [.lit (.bool false)], args := [d], vars := [g1] }
  | _ => none }
def FnOpTakesWrongFalsely : Prop := fnOpTakesRow.holds Tryd.pinned (OpenSpec.ofChange fnOpTakesWrong)

/-- 'laws.FnDeepAt': WHATEVER THE INPUT: true; the input reads as it did. -/
def fnDeepAtSpec : ChangeSpec := { name := "fnDeepAt", vars := ["loop.example/gemel/impl.opForms"], fn := fun _ => fun
  | [d, g1] => { results := [.lit (.bool true)], args := [d], vars := [g1] }
  | _ => none }
def fnDeepAtRow : OpenClaim := { program := "ytehffhhiikahbaadoor", sum := "73d6cbf9c6b720c02f2b1cc6d87fec6fb7c24463fa960bd98b4dffa5088907e2", func := "loop.example/gemel/laws.FnDeepAt", spec := "fnDeepAt", unfollowed := true, recurses := true, named := ["loop.example/gemel/impl.opForms"], apart := false, laid := [("loop.example/gemel/impl.opForms", laid_loop_example_gemel_impl_opForms)] }
def FnDeepAtSaid : Prop := fnDeepAtRow.holds Tryd.pinned (OpenSpec.ofChange fnDeepAtSpec)

/-- ITS FALSE NEIGHBOUR: 'it returns false'. Refute it at one input. -/
def fnDeepAtWrong : ChangeSpec := { name := "fnDeepAt", vars := ["loop.example/gemel/impl.opForms"], fn := fun _ => fun
  | [d, g1] => { results := [.lit (.bool false)], args := [d], vars := [g1] }
  | _ => none }
def FnDeepAtWrongFalsely : Prop := fnDeepAtRow.holds Tryd.pinned (OpenSpec.ofChange fnDeepAtWrong)

/-- 'laws.FnDeepMost': WHATEVER THE INPUT: true; the input reads as it did. -/
def fnDeepMostSpec : ChangeSpec := { name := "fnDeepMost", vars := ["loop.example/gemel/impl.opForms"], fn := fun _ => fun
  | [d, g1] => { results := [.lit (.bool true)], args := [d], vars := [g1] }
  | _ => none }
def fnDeepMostRow : OpenClaim := { program := "ytehffhhiikahbaadoor", sum := "73d6cbf9c6b720c02f2b1cc6d87fec6fb7c24463fa960bd98b4dffa5088907e2", func := "loop.example/gemel/laws.FnDeepMost", spec := "fnDeepMost", unfollowed := true, recurses := true, named := ["loop.example/gemel/impl.opForms"], apart := false, laid := [("loop.example/gemel/impl.opForms", laid_loop_example_gemel_impl_opForms)] }
def FnDeepMostSaid : Prop := fnDeepMostRow.holds Tryd.pinned (OpenSpec.ofChange fnDeepMostSpec)

/-- ITS FALSE NEIGHBOUR: 'it returns false'. Refute it at one input. -/
def fnDeepMostWrong : ChangeSpec := { name := "fnDeepMost", vars := ["loop.example/gemel/impl.opForms"], fn := fun _ => fun
  | [d, g1] => { results := [.lit (.bool false)], args := [d], vars := [g1] }
  | _ => none }
def FnDeepMostWrongFalsely : Prop := fnDeepMostRow.holds Tryd.pinned (OpenSpec.ofChange fnDeepMostWrong)

/-- 'laws.FnDeepOk': WHATEVER THE INPUT: true; the input reads as it did. -/
def fnDeepOkSpec : ChangeSpec := { name := "fnDeepOk", vars := ["loop.example/gemel/impl.opForms"], fn := fun _ => fun
  | [d, g1] => { results := [.lit (.bool true)], args := [d], vars := [g1] }
  | _ => none }
def fnDeepOkRow : OpenClaim := { program := "ytehffhhiikahbaadoor", sum := "73d6cbf9c6b720c02f2b1cc6d87fec6fb7c24463fa960bd98b4dffa5088907e2", func := "loop.example/gemel/laws.FnDeepOk", spec := "fnDeepOk", unfollowed := true, recurses := true, named := ["loop.example/gemel/impl.opForms"], apart := false, laid := [("loop.example/gemel/impl.opForms", laid_loop_example_gemel_impl_opForms)] }
def FnDeepOkSaid : Prop := fnDeepOkRow.holds Tryd.pinned (OpenSpec.ofChange fnDeepOkSpec)

/-- ITS FALSE NEIGHBOUR: 'it returns false'. Refute it at one input. -/
def fnDeepOkWrong : ChangeSpec := { name := "fnDeepOk", vars := ["loop.example/gemel/impl.opForms"], fn := fun _ => fun
  | [d, g1] => { results := [.lit (.bool false)], args := [d], vars := [g1] }
  | _ => none }
def FnDeepOkWrongFalsely : Prop := fnDeepOkRow.holds Tryd.pinned (OpenSpec.ofChange fnDeepOkWrong)

/-- 'laws.FnDeepMore': WHATEVER THE INPUT: true; the input reads as it did. -/
def fnDeepMoreSpec : ChangeSpec := { name := "fnDeepMore", vars := ["loop.example/gemel/impl.opForms"], fn := fun _ => fun
  | [d, g1] => { results := [.lit (.bool true)], args := [d], vars := [g1] }
  | _ => none }
def fnDeepMoreRow : OpenClaim := { program := "ytehffhhiikahbaadoor", sum := "73d6cbf9c6b720c02f2b1cc6d87fec6fb7c24463fa960bd98b4dffa5088907e2", func := "loop.example/gemel/laws.FnDeepMore", spec := "fnDeepMore", unfollowed := true, recurses := true, named := ["loop.example/gemel/impl.opForms"], apart := false, laid := [("loop.example/gemel/impl.opForms", laid_loop_example_gemel_impl_opForms)] }
def FnDeepMoreSaid : Prop := fnDeepMoreRow.holds Tryd.pinned (OpenSpec.ofChange fnDeepMoreSpec)

/-- ITS FALSE NEIGHBOUR: 'it returns false'. Refute it at one input. -/
def fnDeepMoreWrong : ChangeSpec := { name := "fnDeepMore", vars := ["loop.example/gemel/impl.opForms"], fn := fun _ => fun
  | [d, g1] => { results := [.lit (.bool false)], args := [d], vars := [g1] }
  | _ => none }
def FnDeepMoreWrongFalsely : Prop := fnDeepMoreRow.holds Tryd.pinned (OpenSpec.ofChange fnDeepMoreWrong)

/- THE SECOND FORM. 'bulk': how many values and letters a reading holds, each counted each time it is reached (what is shared counts as often as it is met; a slice's spare places count too). A statement '..UptoSaid' is the law's where the arguments, and the package variables that the reading takes, are together of bulk at most 1048576: NARROWER than '..Said'. Prove '..Said' where nothing that the law and all that it calls make is longer than what came in: it says more and counts as full. Else prove '..UptoSaid'. A law counts once. -/
mutual
def uptoBulk {H : Type} : DataW H → Nat
  | .lit (.string bytes) => bytes.length + 1
  | .lit _ => 1
  | .nil => 1
  | .ptr d => uptoBulk d + 1
  | .slice elems spare => uptoBulkAll elems + uptoBulkAll spare + 1
  | .agg parts => uptoBulkAll parts + 1
  | .iface _ d => uptoBulk d + 1
  | .map entries => uptoBulkEntries entries + 1
  | .held _ => 1
def uptoBulkAll {H : Type} : List (DataW H) → Nat
  | [] => 0
  | d :: r => uptoBulk d + uptoBulkAll r
def uptoBulkEntries {H : Type} : List (Lit × DataW H) → Nat
  | [] => 0
  | x :: r => uptoBulkEntry x + uptoBulkEntries r
def uptoBulkEntry {H : Type} : Lit × DataW H → Nat
  | (.string bytes, d) => bytes.length + uptoBulk d + 1
  | (_, d) => uptoBulk d + 1
 end
def uptoSmall : (H : Type) → List (DataW H) → Bool := fun _ ds => decide (uptoBulkAll ds ≤ 1048576)
def OpenSpec.upto (s : _root_.Go.ChangeSpec) : _root_.Go.OpenSpec := { _root_.Go.OpenSpec.ofChange s with cond := some uptoSmall }

/-- 'laws.FnOpTakes', WHERE WHAT IT READS IS OF BULK AT MOST 1048576: true; the input reads as it did. -/
def fnOpTakesUptoRow : OpenClaim := { program := "ytehffhhiikahbaadoor", sum := "73d6cbf9c6b720c02f2b1cc6d87fec6fb7c24463fa960bd98b4dffa5088907e2", func := "loop.example/gemel/laws.FnOpTakes", spec := "fnOpTakes", named := ["loop.example/gemel/impl.opForms"], apart := false, laid := [("loop.example/gemel/impl.opForms", laid_loop_example_gemel_impl_opForms)], narrowed := true }
def FnOpTakesUptoSaid : Prop := fnOpTakesUptoRow.holds Tryd.pinned (OpenSpec.upto fnOpTakesSpec)

/-- 'laws.FnDeepAt', WHERE WHAT IT READS IS OF BULK AT MOST 1048576: true; the input reads as it did. -/
def fnDeepAtUptoRow : OpenClaim := { program := "ytehffhhiikahbaadoor", sum := "73d6cbf9c6b720c02f2b1cc6d87fec6fb7c24463fa960bd98b4dffa5088907e2", func := "loop.example/gemel/laws.FnDeepAt", spec := "fnDeepAt", unfollowed := true, recurses := true, named := ["loop.example/gemel/impl.opForms"], apart := false, laid := [("loop.example/gemel/impl.opForms", laid_loop_example_gemel_impl_opForms)], narrowed := true }
def FnDeepAtUptoSaid : Prop := fnDeepAtUptoRow.holds Tryd.pinned (OpenSpec.upto fnDeepAtSpec)

/-- 'laws.FnDeepMost', WHERE WHAT IT READS IS OF BULK AT MOST 1048576: true; the input reads as it did. -/
def fnDeepMostUptoRow : OpenClaim := { program := "ytehffhhiikahbaadoor", sum := "73d6cbf9c6b720c02f2b1cc6d87fec6fb7c24463fa960bd98b4dffa5088907e2", func := "loop.example/gemel/laws.FnDeepMost", spec := "fnDeepMost", unfollowed := true, recurses := true, named := ["loop.example/gemel/impl.opForms"], apart := false, laid := [("loop.example/gemel/impl.opForms", laid_loop_example_gemel_impl_opForms)], narrowed := true }
def FnDeepMostUptoSaid : Prop := fnDeepMostUptoRow.holds Tryd.pinned (OpenSpec.upto fnDeepMostSpec)

/-- 'laws.FnDeepOk', WHERE WHAT IT READS IS OF BULK AT MOST 1048576: true; the input reads as it did. -/
def fnDeepOkUptoRow : OpenClaim := { program := "ytehffhhiikahbaadoor", sum := "73d6cbf9c6b720c02f2b1cc6d87fec6fb7c24463fa960bd98b4dffa5088907e2", func := "loop.example/gemel/laws.FnDeepOk", spec := "fnDeepOk", unfollowed := true, recurses := true, named := ["loop.example/gemel/impl.opForms"], apart := false, laid := [("loop.example/gemel/impl.opForms", laid_loop_example_gemel_impl_opForms)], narrowed := true }
def FnDeepOkUptoSaid : Prop := fnDeepOkUptoRow.holds Tryd.pinned (OpenSpec.upto fnDeepOkSpec)

/-- 'laws.FnDeepMore', WHERE WHAT IT READS IS OF BULK AT MOST 1048576: true; the input reads as it did. -/
def fnDeepMoreUptoRow : OpenClaim := { program := "ytehffhhiikahbaadoor", sum := "73d6cbf9c6b720c02f2b1cc6d87fec6fb7c24463fa960bd98b4dffa5088907e2", func := "loop.example/gemel/laws.FnDeepMore", spec := "fnDeepMore", unfollowed := true, recurses := true, named := ["loop.example/gemel/impl.opForms"], apart := false, laid := [("loop.example/gemel/impl.opForms", laid_loop_example_gemel_impl_opForms)], narrowed := true }
def FnDeepMoreUptoSaid : Prop := fnDeepMoreUptoRow.holds Tryd.pinned (OpenSpec.upto fnDeepMoreSpec)

end Rows
end Go.Proofs.YtehffhhiikahbaaDoor
