/-
  NARROWER THAN 'FOR EVERY INPUT', by the rows' own cells (each row's printed sentence says how): FnDeepTop: laid · FnDeepStuck: laid · FnHeapRunCut: laid · FnHeapStep: laid · FnHeapRunOk: laid · FnHeapDead: laid · FnHeapTrimRun: laid · FnHeapNum: laid · FnHeapTemp: laid · FnHeapSet: laid · FnHeapDrop: laid · FnHeapAdd: laid.
  DERIVED. THE GIVEN ROWS OF THIS SEAT. 12 by the template 'for every input the law returns true; each argument reads behind the call as it read before'; 0 by the template 'total and deterministic' (their statements: YtoaalcijdcmboaaGreatDoorTotals.lean).
  GIVEN WITH THE SEED: the statements are not yours to turn. If you find one false, say at which input.
  Laid BY PROGRAM, IN A SANDBOX (cutbox-rows.mjs): the forced cells as the released guide's own fill.sh prints them over the translation 4ca466ae765f6413… (all of the seat's roots in one cut). By AI agents, Wed Nov 11 2026. No macro, syntax, notation, axiom, sorry.
-/
import Derived.Test.YtoaalcijdcmboaaGreatDoorChecked
import GoSem.Claim
import GoSem.ClaimJoined
import GoSem.ClaimMapViews
import Derived.JoinedTies
import Derived.KernelRfl
namespace Go.Proofs.YtoaalcijdcmboaaGreatDoor
/- THE CELL 'sum', in the pinned program and in every row, IS THE sha256 OF THE DUMP (.gsa) THAT YtoaalcijdcmboaaGreatDoorProg.lean LOADS. Nothing in Lean hashes anything: it is a label: what it is worth is what the hold of that sum in a sandbox is worth. -/
noncomputable def Tryz.pinned : Pinned := { name := "ytoaalcijdcmboaagreatdoor", sum := "4ca466ae765f641345363c78404f2880624ea9688a41fa77bb2d432460b2c446", checked := Tryz.checked }
namespace Rows
def none {H : Type} : Left H := { results := [], args := [] }

/- WHAT THE LISTED PACKAGE-LEVEL VARIABLES READ AS WHEN THE CALL BEGINS. Each datum BY PROGRAM (the guide's laid-datum.mjs) off the statement by which the dump's own 'gosem.cut.vars' lays the variable. In a bare row this is a premise. The card (YtoaalcijdcmboaaGreatDoorCards.lean) ties it to the program's text. -/
def laid_loop_example_gemel_impl_opForms {H : Type} : DataW H := .agg [.agg [.lit (.string []), .lit (.int .i64 0), .lit (.int .i64 0)], .agg [.lit (.string [110, 117, 109]), .lit (.int .i64 0), .lit (.int .i64 1)], .agg [.lit (.string [116, 101, 109, 112]), .lit (.int .i64 0), .lit (.int .i64 1)], .agg [.lit (.string [115, 101, 116]), .lit (.int .i64 1), .lit (.int .i64 0)], .agg [.lit (.string [100, 114, 111, 112]), .lit (.int .i64 1), .lit (.int .i64 0)], .agg [.lit (.string [97, 100, 100]), .lit (.int .i64 2), .lit (.int .i64 1)], .agg [.lit (.string [115, 97, 109, 101]), .lit (.int .i64 2), .lit (.int .i64 1)], .agg [.lit (.string [106, 117, 109, 112]), .lit (.int .i64 0), .lit (.int .i64 0)], .agg [.lit (.string [122, 101, 114, 111]), .lit (.int .i64 1), .lit (.int .i64 0)], .agg [.lit (.string [99, 97, 108, 108]), .lit (.int .i64 0), .lit (.int .i64 1)], .agg [.lit (.string [114, 101, 116]), .lit (.int .i64 1), .lit (.int .i64 0)], .agg [.lit (.string [104, 101, 114, 101]), .lit (.int .i64 0), .lit (.int .i64 1)], .agg [.lit (.string [115, 101, 110, 100, 101, 114]), .lit (.int .i64 1), .lit (.int .i64 1)], .agg [.lit (.string [112, 101, 101, 107]), .lit (.int .i64 1), .lit (.int .i64 1)], .agg [.lit (.string [112, 111, 107, 101]), .lit (.int .i64 2), .lit (.int .i64 0)], .agg [.lit (.string [98, 97, 99, 107]), .lit (.int .i64 2), .lit (.int .i64 1)], .agg [.lit (.string [115, 97, 121]), .lit (.int .i64 1), .lit (.int .i64 0)], .agg [.lit (.string [100, 101, 97, 100]), .lit (.int .i64 1), .lit (.int .i64 1)], .agg [.lit (.string [119, 104, 101, 114, 101]), .lit (.int .i64 1), .lit (.int .i64 1)]]

/-- 'laws.FnDeepTop': WHATEVER THE INPUT: true; the input reads as it did. -/
def fnDeepTopSpec : ChangeSpec := { name := "fnDeepTop", vars := ["loop.example/gemel/impl.opForms"], fn := fun _ => fun
  | [d1, d2, g1] => { results := [.lit (.bool true)], args := [d1, d2], vars := [g1] }
  | _ => none }
def fnDeepTopRow : OpenClaim := { program := "ytoaalcijdcmboaagreatdoor", sum := "4ca466ae765f641345363c78404f2880624ea9688a41fa77bb2d432460b2c446", func := "loop.example/gemel/laws.FnDeepTop", spec := "fnDeepTop", unfollowed := true, recurses := true, named := ["loop.example/gemel/impl.opForms"], apart := false, laid := [("loop.example/gemel/impl.opForms", laid_loop_example_gemel_impl_opForms)] }
def FnDeepTopSaid : Prop := fnDeepTopRow.holds Tryz.pinned (OpenSpec.ofChange fnDeepTopSpec)

/-- ITS FALSE NEIGHBOUR: 'it returns false'. Refute it at one input. -/
def fnDeepTopWrong : ChangeSpec := { name := "fnDeepTop", vars := ["loop.example/gemel/impl.opForms"], fn := fun _ => fun
  | [d1, d2, g1] => { results := [.lit (.bool false)], args := [d1, d2], vars := [g1] }
  | _ => none }
def FnDeepTopWrongFalsely : Prop := fnDeepTopRow.holds Tryz.pinned (OpenSpec.ofChange fnDeepTopWrong)

/-- 'laws.FnDeepStuck': WHATEVER THE INPUT: true; the input reads as it did. -/
def fnDeepStuckSpec : ChangeSpec := { name := "fnDeepStuck", vars := ["loop.example/gemel/impl.opForms"], fn := fun _ => fun
  | [d, g1] => { results := [.lit (.bool true)], args := [d], vars := [g1] }
  | _ => none }
def fnDeepStuckRow : OpenClaim := { program := "ytoaalcijdcmboaagreatdoor", sum := "4ca466ae765f641345363c78404f2880624ea9688a41fa77bb2d432460b2c446", func := "loop.example/gemel/laws.FnDeepStuck", spec := "fnDeepStuck", unfollowed := true, recurses := true, named := ["loop.example/gemel/impl.opForms"], apart := false, laid := [("loop.example/gemel/impl.opForms", laid_loop_example_gemel_impl_opForms)] }
def FnDeepStuckSaid : Prop := fnDeepStuckRow.holds Tryz.pinned (OpenSpec.ofChange fnDeepStuckSpec)

/-- ITS FALSE NEIGHBOUR: 'it returns false'. Refute it at one input. -/
def fnDeepStuckWrong : ChangeSpec := { name := "fnDeepStuck", vars := ["loop.example/gemel/impl.opForms"], fn := fun _ => fun
  | [d, g1] => { results := [.lit (.bool false)], args := [d], vars := [g1] }
  | _ => none }
def FnDeepStuckWrongFalsely : Prop := fnDeepStuckRow.holds Tryz.pinned (OpenSpec.ofChange fnDeepStuckWrong)

/-- 'laws.FnHeapRunCut': WHATEVER THE INPUT: true; the input reads as it did. -/
def fnHeapRunCutSpec : ChangeSpec := { name := "fnHeapRunCut", vars := ["loop.example/gemel/impl.opForms"], fn := fun _ => fun
  | [d1, d2, g1] => { results := [.lit (.bool true)], args := [d1, d2], vars := [g1] }
  | _ => none }
def fnHeapRunCutRow : OpenClaim := { program := "ytoaalcijdcmboaagreatdoor", sum := "4ca466ae765f641345363c78404f2880624ea9688a41fa77bb2d432460b2c446", func := "loop.example/gemel/laws.FnHeapRunCut", spec := "fnHeapRunCut", unfollowed := true, recurses := true, named := ["loop.example/gemel/impl.opForms"], apart := false, laid := [("loop.example/gemel/impl.opForms", laid_loop_example_gemel_impl_opForms)] }
def FnHeapRunCutSaid : Prop := fnHeapRunCutRow.holds Tryz.pinned (OpenSpec.ofChange fnHeapRunCutSpec)

/-- ITS FALSE NEIGHBOUR: 'it returns false'. Refute it at one input. -/
def fnHeapRunCutWrong : ChangeSpec := { name := "fnHeapRunCut", vars := ["loop.example/gemel/impl.opForms"], fn := fun _ => fun
  | [d1, d2, g1] => { results := [.lit (.bool false)], args := [d1, d2], vars := [g1] }
  | _ => none }
def FnHeapRunCutWrongFalsely : Prop := fnHeapRunCutRow.holds Tryz.pinned (OpenSpec.ofChange fnHeapRunCutWrong)

/-- 'laws.FnHeapStep': WHATEVER THE INPUT: true; the input reads as it did. -/
def fnHeapStepSpec : ChangeSpec := { name := "fnHeapStep", vars := ["loop.example/gemel/impl.opForms"], fn := fun _ => fun
  | [d, g1] => { results := [.lit (.bool true)], args := [d], vars := [g1] }
  | _ => none }
def fnHeapStepRow : OpenClaim := { program := "ytoaalcijdcmboaagreatdoor", sum := "4ca466ae765f641345363c78404f2880624ea9688a41fa77bb2d432460b2c446", func := "loop.example/gemel/laws.FnHeapStep", spec := "fnHeapStep", unfollowed := true, recurses := true, named := ["loop.example/gemel/impl.opForms"], apart := false, laid := [("loop.example/gemel/impl.opForms", laid_loop_example_gemel_impl_opForms)] }
def FnHeapStepSaid : Prop := fnHeapStepRow.holds Tryz.pinned (OpenSpec.ofChange fnHeapStepSpec)

/-- ITS FALSE NEIGHBOUR: 'it returns false'. Refute it at one input. -/
def fnHeapStepWrong : ChangeSpec := { name := "fnHeapStep", vars := ["loop.example/gemel/impl.opForms"], fn := fun _ => fun
  | [d, g1] => { results := [.lit (.bool false)], args := [d], vars := [g1] }
  | _ => none }
def FnHeapStepWrongFalsely : Prop := fnHeapStepRow.holds Tryz.pinned (OpenSpec.ofChange fnHeapStepWrong)

/-- 'laws.FnHeapRunOk': WHATEVER THE INPUT: true; the input reads as it did. -/
def fnHeapRunOkSpec : ChangeSpec := { name := "fnHeapRunOk", vars := ["loop.example/gemel/impl.opForms"], fn := fun _ => fun
  | [d, g1] => { results := [.lit (.bool true)], args := [d], vars := [g1] }
  | _ => none }
def fnHeapRunOkRow : OpenClaim := { program := "ytoaalcijdcmboaagreatdoor", sum := "4ca466ae765f641345363c78404f2880624ea9688a41fa77bb2d432460b2c446", func := "loop.example/gemel/laws.FnHeapRunOk", spec := "fnHeapRunOk", unfollowed := true, recurses := true, named := ["loop.example/gemel/impl.opForms"], apart := false, laid := [("loop.example/gemel/impl.opForms", laid_loop_example_gemel_impl_opForms)] }
def FnHeapRunOkSaid : Prop := fnHeapRunOkRow.holds Tryz.pinned (OpenSpec.ofChange fnHeapRunOkSpec)

/-- ITS FALSE NEIGHBOUR: 'it returns false'. Refute it at one input. -/
def fnHeapRunOkWrong : ChangeSpec := { name := "fnHeapRunOk", vars := ["loop.example/gemel/impl.opForms"], fn := fun _ => fun
  | [d, g1] => { results := [.lit (.bool false)], args := [d], vars := [g1] }
  | _ => none }
def FnHeapRunOkWrongFalsely : Prop := fnHeapRunOkRow.holds Tryz.pinned (OpenSpec.ofChange fnHeapRunOkWrong)

/-- 'laws.FnHeapDead': WHATEVER THE INPUT: true; the input reads as it did. -/
def fnHeapDeadSpec : ChangeSpec := { name := "fnHeapDead", vars := ["loop.example/gemel/impl.opForms"], fn := fun _ => fun
  | [d, g1] => { results := [.lit (.bool true)], args := [d], vars := [g1] }
  | _ => none }
def fnHeapDeadRow : OpenClaim := { program := "ytoaalcijdcmboaagreatdoor", sum := "4ca466ae765f641345363c78404f2880624ea9688a41fa77bb2d432460b2c446", func := "loop.example/gemel/laws.FnHeapDead", spec := "fnHeapDead", unfollowed := true, recurses := true, named := ["loop.example/gemel/impl.opForms"], apart := false, laid := [("loop.example/gemel/impl.opForms", laid_loop_example_gemel_impl_opForms)] }
def FnHeapDeadSaid : Prop := fnHeapDeadRow.holds Tryz.pinned (OpenSpec.ofChange fnHeapDeadSpec)

/-- ITS FALSE NEIGHBOUR: 'it returns false'. Refute it at one input. -/
def fnHeapDeadWrong : ChangeSpec := { name := "fnHeapDead", vars := ["loop.example/gemel/impl.opForms"], fn := fun _ => fun
  | [d, g1] => { results := [.lit (.bool false)], args := [d], vars := [g1] }
  | _ => none }
def FnHeapDeadWrongFalsely : Prop := fnHeapDeadRow.holds Tryz.pinned (OpenSpec.ofChange fnHeapDeadWrong)

/-- 'laws.FnHeapTrimRun': WHATEVER THE INPUT: true; the input reads as it did. -/
def fnHeapTrimRunSpec : ChangeSpec := { name := "fnHeapTrimRun", vars := ["loop.example/gemel/impl.opForms"], fn := fun _ => fun
  | [d, g1] => { results := [.lit (.bool true)], args := [d], vars := [g1] }
  | _ => none }
def fnHeapTrimRunRow : OpenClaim := { program := "ytoaalcijdcmboaagreatdoor", sum := "4ca466ae765f641345363c78404f2880624ea9688a41fa77bb2d432460b2c446", func := "loop.example/gemel/laws.FnHeapTrimRun", spec := "fnHeapTrimRun", unfollowed := true, recurses := true, named := ["loop.example/gemel/impl.opForms"], apart := false, laid := [("loop.example/gemel/impl.opForms", laid_loop_example_gemel_impl_opForms)] }
def FnHeapTrimRunSaid : Prop := fnHeapTrimRunRow.holds Tryz.pinned (OpenSpec.ofChange fnHeapTrimRunSpec)

/-- ITS FALSE NEIGHBOUR: 'it returns false'. Refute it at one input. -/
def fnHeapTrimRunWrong : ChangeSpec := { name := "fnHeapTrimRun", vars := ["loop.example/gemel/impl.opForms"], fn := fun _ => fun
  | [d, g1] => { results := [.lit (.bool false)], args := [d], vars := [g1] }
  | _ => none }
def FnHeapTrimRunWrongFalsely : Prop := fnHeapTrimRunRow.holds Tryz.pinned (OpenSpec.ofChange fnHeapTrimRunWrong)

/-- 'laws.FnHeapNum': WHATEVER THE INPUT: true; the input reads as it did. -/
def fnHeapNumSpec : ChangeSpec := { name := "fnHeapNum", vars := ["loop.example/gemel/impl.opForms"], fn := fun _ => fun
  | [d1, d2, g1] => { results := [.lit (.bool true)], args := [d1, d2], vars := [g1] }
  | _ => none }
def fnHeapNumRow : OpenClaim := { program := "ytoaalcijdcmboaagreatdoor", sum := "4ca466ae765f641345363c78404f2880624ea9688a41fa77bb2d432460b2c446", func := "loop.example/gemel/laws.FnHeapNum", spec := "fnHeapNum", unfollowed := true, recurses := true, named := ["loop.example/gemel/impl.opForms"], apart := false, laid := [("loop.example/gemel/impl.opForms", laid_loop_example_gemel_impl_opForms)] }
def FnHeapNumSaid : Prop := fnHeapNumRow.holds Tryz.pinned (OpenSpec.ofChange fnHeapNumSpec)

/-- ITS FALSE NEIGHBOUR: 'it returns false'. Refute it at one input. -/
def fnHeapNumWrong : ChangeSpec := { name := "fnHeapNum", vars := ["loop.example/gemel/impl.opForms"], fn := fun _ => fun
  | [d1, d2, g1] => { results := [.lit (.bool false)], args := [d1, d2], vars := [g1] }
  | _ => none }
def FnHeapNumWrongFalsely : Prop := fnHeapNumRow.holds Tryz.pinned (OpenSpec.ofChange fnHeapNumWrong)

/-- 'laws.FnHeapTemp': WHATEVER THE INPUT: true; the input reads as it did. -/
def fnHeapTempSpec : ChangeSpec := { name := "fnHeapTemp", vars := ["loop.example/gemel/impl.opForms"], fn := fun _ => fun
  | [d1, d2, g1] => { results := [.lit (.bool true)], args := [d1, d2], vars := [g1] }
  | _ => none }
def fnHeapTempRow : OpenClaim := { program := "ytoaalcijdcmboaagreatdoor", sum := "4ca466ae765f641345363c78404f2880624ea9688a41fa77bb2d432460b2c446", func := "loop.example/gemel/laws.FnHeapTemp", spec := "fnHeapTemp", unfollowed := true, recurses := true, named := ["loop.example/gemel/impl.opForms"], apart := false, laid := [("loop.example/gemel/impl.opForms", laid_loop_example_gemel_impl_opForms)] }
def FnHeapTempSaid : Prop := fnHeapTempRow.holds Tryz.pinned (OpenSpec.ofChange fnHeapTempSpec)

/-- ITS FALSE NEIGHBOUR: 'it returns false'. Refute it at one input. -/
def fnHeapTempWrong : ChangeSpec := { name := "fnHeapTemp", vars := ["loop.example/gemel/impl.opForms"], fn := fun _ => fun
  | [d1, d2, g1] => { results := [.lit (.bool false)], args := [d1, d2], vars := [g1] }
  | _ => none }
def FnHeapTempWrongFalsely : Prop := fnHeapTempRow.holds Tryz.pinned (OpenSpec.ofChange fnHeapTempWrong)

/-- 'laws.FnHeapSet': WHATEVER THE INPUT: true; the input reads as it did. -/
def fnHeapSetSpec : ChangeSpec := { name := "fnHeapSet", vars := ["loop.example/gemel/impl.opForms"], fn := fun _ => fun
  | [d1, d2, g1] => { results := [.lit (.bool true)], args := [d1, d2], vars := [g1] }
  | _ => none }
def fnHeapSetRow : OpenClaim := { program := "ytoaalcijdcmboaagreatdoor", sum := "4ca466ae765f641345363c78404f2880624ea9688a41fa77bb2d432460b2c446", func := "loop.example/gemel/laws.FnHeapSet", spec := "fnHeapSet", unfollowed := true, recurses := true, named := ["loop.example/gemel/impl.opForms"], apart := false, laid := [("loop.example/gemel/impl.opForms", laid_loop_example_gemel_impl_opForms)] }
def FnHeapSetSaid : Prop := fnHeapSetRow.holds Tryz.pinned (OpenSpec.ofChange fnHeapSetSpec)

/-- ITS FALSE NEIGHBOUR: 'it returns false'. Refute it at one input. -/
def fnHeapSetWrong : ChangeSpec := { name := "fnHeapSet", vars := ["loop.example/gemel/impl.opForms"], fn := fun _ => fun
  | [d1, d2, g1] => { results := [.lit (.bool false)], args := [d1, d2], vars := [g1] }
  | _ => none }
def FnHeapSetWrongFalsely : Prop := fnHeapSetRow.holds Tryz.pinned (OpenSpec.ofChange fnHeapSetWrong)

/-- 'laws.FnHeapDrop': WHATEVER THE INPUT: true; the input reads as it did. -/
def fnHeapDropSpec : ChangeSpec := { name := "fnHeapDrop", vars := ["loop.example/gemel/impl.opForms"], fn := fun _ => fun
  | [d, g1] => { results := [.lit (.bool true)], args := [d], vars := [g1] }
  | _ => none }
def fnHeapDropRow : OpenClaim := { program := "ytoaalcijdcmboaagreatdoor", sum := "4ca466ae765f641345363c78404f2880624ea9688a41fa77bb2d432460b2c446", func := "loop.example/gemel/laws.FnHeapDrop", spec := "fnHeapDrop", unfollowed := true, recurses := true, named := ["loop.example/gemel/impl.opForms"], apart := false, laid := [("loop.example/gemel/impl.opForms", laid_loop_example_gemel_impl_opForms)] }
def FnHeapDropSaid : Prop := fnHeapDropRow.holds Tryz.pinned (OpenSpec.ofChange fnHeapDropSpec)

/-- ITS FALSE NEIGHBOUR: 'it returns false'. Refute it at one input. -/
def fnHeapDropWrong : ChangeSpec := { name := "fnHeapDrop", vars := ["loop.example/gemel/impl.opForms"], fn := fun _ => fun
  | [d, g1] => { results := [.lit (.bool false)], args := [d], vars := [g1] }
  | _ => none }
def FnHeapDropWrongFalsely : Prop := fnHeapDropRow.holds Tryz.pinned (OpenSpec.ofChange fnHeapDropWrong)

/-- 'laws.FnHeapAdd': WHATEVER THE INPUT: true; the input reads as it did. -/
def fnHeapAddSpec : ChangeSpec := { name := "fnHeapAdd", vars := ["loop.example/gemel/impl.opForms"], fn := fun _ => fun
  | [d1, d2, g1] => { results := [.lit (.bool true)], args := [d1, d2], vars := [g1] }
  | _ => none }
def fnHeapAddRow : OpenClaim := { program := "ytoaalcijdcmboaagreatdoor", sum := "4ca466ae765f641345363c78404f2880624ea9688a41fa77bb2d432460b2c446", func := "loop.example/gemel/laws.FnHeapAdd", spec := "fnHeapAdd", unfollowed := true, recurses := true, named := ["loop.example/gemel/impl.opForms"], apart := false, laid := [("loop.example/gemel/impl.opForms", laid_loop_example_gemel_impl_opForms)] }
def FnHeapAddSaid : Prop := fnHeapAddRow.holds Tryz.pinned (OpenSpec.ofChange fnHeapAddSpec)

/-- ITS FALSE NEIGHBOUR: 'it returns false'. Refute it at one input. -/
def fnHeapAddWrong : ChangeSpec := { name := "fnHeapAdd", vars := ["loop.example/gemel/impl.opForms"], fn := fun _ => fun
  | [d1, d2, g1] => { results := [.lit (.bool false)], args := [d1, d2], vars := [g1] }
  | _ => none }
def FnHeapAddWrongFalsely : Prop := fnHeapAddRow.holds Tryz.pinned (OpenSpec.ofChange fnHeapAddWrong)

/- THE SECOND FORM. 'bulk': how many values and letters a reading holds, each counted each time it is reached (what is shared counts as often as it is met; a slice's spare places count too). A statement '..UptoSaid' is the law's where the arguments, and the package variables that the reading takes, are together of bulk at most 1048576: NARROWER than '..Said'. Prove '..Said' where nothing that the law and all that it calls make is longer than what came in: it says more and counts as full. Else prove '..UptoSaid'. A law counts once. -/
mutual
def uptoBulk {H : Type} : DataW H → Nat
  | .lit (.string bytes) => bytes.length + 1
  | .lit _ => 1
  | .nil => 1
  | .ptr d => uptoBulk d + 1
  | .slice elems spare => uptoBulkAll elems + uptoBulkAll spare + 1
  | .agg parts => uptoBulkAll parts + 1
  | .iface _ d => uptoBulk d + 1
  | .map entries => uptoBulkEntries entries + 1
  | .held _ => 1
def uptoBulkAll {H : Type} : List (DataW H) → Nat
  | [] => 0
  | d :: r => uptoBulk d + uptoBulkAll r
def uptoBulkEntries {H : Type} : List (Lit × DataW H) → Nat
  | [] => 0
  | x :: r => uptoBulkEntry x + uptoBulkEntries r
def uptoBulkEntry {H : Type} : Lit × DataW H → Nat
  | (.string bytes, d) => bytes.length + uptoBulk d + 1
  | (_, d) => uptoBulk d + 1
 end
def uptoSmall : (H : Type) → List (DataW H) → Bool := fun _ ds => decide (uptoBulkAll ds ≤ 1048576)
def OpenSpec.upto (s : _root_.Go.ChangeSpec) : _root_.Go.OpenSpec := { _root_.Go.OpenSpec.ofChange s with cond := some uptoSmall }

/-- 'laws.FnDeepTop', WHERE WHAT IT READS IS OF BULK AT MOST 1048576: true; the input reads as it did. -/
def fnDeepTopUptoRow : OpenClaim := { program := "ytoaalcijdcmboaagreatdoor", sum := "4ca466ae765f641345363c78404f2880624ea9688a41fa77bb2d432460b2c446", func := "loop.example/gemel/laws.FnDeepTop", spec := "fnDeepTop", unfollowed := true, recurses := true, named := ["loop.example/gemel/impl.opForms"], apart := false, laid := [("loop.example/gemel/impl.opForms", laid_loop_example_gemel_impl_opForms)], narrowed := true }
def FnDeepTopUptoSaid : Prop := fnDeepTopUptoRow.holds Tryz.pinned (OpenSpec.upto fnDeepTopSpec)

/-- 'laws.FnDeepStuck', WHERE WHAT IT READS IS OF BULK AT MOST 1048576: true; the input reads as it did. -/
def fnDeepStuckUptoRow : OpenClaim := { program := "ytoaalcijdcmboaagreatdoor", sum := "4ca466ae765f641345363c78404f2880624ea9688a41fa77bb2d432460b2c446", func := "loop.example/gemel/laws.FnDeepStuck", spec := "fnDeepStuck", unfollowed := true, recurses := true, named := ["loop.example/gemel/impl.opForms"], apart := false, laid := [("loop.example/gemel/impl.opForms", laid_loop_example_gemel_impl_opForms)], narrowed := true }
def FnDeepStuckUptoSaid : Prop := fnDeepStuckUptoRow.holds Tryz.pinned (OpenSpec.upto fnDeepStuckSpec)

/-- 'laws.FnHeapRunCut', WHERE WHAT IT READS IS OF BULK AT MOST 1048576: true; the input reads as it did. -/
def fnHeapRunCutUptoRow : OpenClaim := { program := "ytoaalcijdcmboaagreatdoor", sum := "4ca466ae765f641345363c78404f2880624ea9688a41fa77bb2d432460b2c446", func := "loop.example/gemel/laws.FnHeapRunCut", spec := "fnHeapRunCut", unfollowed := true, recurses := true, named := ["loop.example/gemel/impl.opForms"], apart := false, laid := [("loop.example/gemel/impl.opForms", laid_loop_example_gemel_impl_opForms)], narrowed := true }
def FnHeapRunCutUptoSaid : Prop := fnHeapRunCutUptoRow.holds Tryz.pinned (OpenSpec.upto fnHeapRunCutSpec)

/-- 'laws.FnHeapStep', WHERE WHAT IT READS IS OF BULK AT MOST 1048576: true; the input reads as it did. -/
def fnHeapStepUptoRow : OpenClaim := { program := "ytoaalcijdcmboaagreatdoor", sum := "4ca466ae765f641345363c78404f2880624ea9688a41fa77bb2d432460b2c446", func := "loop.example/gemel/laws.FnHeapStep", spec := "fnHeapStep", unfollowed := true, recurses := true, named := ["loop.example/gemel/impl.opForms"], apart := false, laid := [("loop.example/gemel/impl.opForms", laid_loop_example_gemel_impl_opForms)], narrowed := true }
def FnHeapStepUptoSaid : Prop := fnHeapStepUptoRow.holds Tryz.pinned (OpenSpec.upto fnHeapStepSpec)

/-- 'laws.FnHeapRunOk', WHERE WHAT IT READS IS OF BULK AT MOST 1048576: true; the input reads as it did. -/
def fnHeapRunOkUptoRow : OpenClaim := { program := "ytoaalcijdcmboaagreatdoor", sum := "4ca466ae765f641345363c78404f2880624ea9688a41fa77bb2d432460b2c446", func := "loop.example/gemel/laws.FnHeapRunOk", spec := "fnHeapRunOk", unfollowed := true, recurses := true, named := ["loop.example/gemel/impl.opForms"], apart := false, laid := [("loop.example/gemel/impl.opForms", laid_loop_example_gemel_impl_opForms)], narrowed := true }
def FnHeapRunOkUptoSaid : Prop := fnHeapRunOkUptoRow.holds Tryz.pinned (OpenSpec.upto fnHeapRunOkSpec)

/-- 'laws.FnHeapDead', WHERE WHAT IT READS IS OF BULK AT MOST 1048576: true; the input reads as it did. -/
def fnHeapDeadUptoRow : OpenClaim := { program := "ytoaalcijdcmboaagreatdoor", sum := "4ca466ae765f641345363c78404f2880624ea9688a41fa77bb2d432460b2c446", func := "loop.example/gemel/laws.FnHeapDead", spec := "fnHeapDead", unfollowed := true, recurses := true, named := ["loop.example/gemel/impl.opForms"], apart := false, laid := [("loop.example/gemel/impl.opForms", laid_loop_example_gemel_impl_opForms)], narrowed := true }
def FnHeapDeadUptoSaid : Prop := fnHeapDeadUptoRow.holds Tryz.pinned (OpenSpec.upto fnHeapDeadSpec)

/-- 'laws.FnHeapTrimRun', WHERE WHAT IT READS IS OF BULK AT MOST 1048576: true; the input reads as it did. -/
def fnHeapTrimRunUptoRow : OpenClaim := { program := "ytoaalcijdcmboaagreatdoor", sum := "4ca466ae765f641345363c78404f2880624ea9688a41fa77bb2d432460b2c446", func := "loop.example/gemel/laws.FnHeapTrimRun", spec := "fnHeapTrimRun", unfollowed := true, recurses := true, named := ["loop.example/gemel/impl.opForms"], apart := false, laid := [("loop.example/gemel/impl.opForms", laid_loop_example_gemel_impl_opForms)], narrowed := true }
def FnHeapTrimRunUptoSaid : Prop := fnHeapTrimRunUptoRow.holds Tryz.pinned (OpenSpec.upto fnHeapTrimRunSpec)

/-- 'laws.FnHeapNum', WHERE WHAT IT READS IS OF BULK AT MOST 1048576: true; the input reads as it did. -/
def fnHeapNumUptoRow : OpenClaim := { program := "ytoaalcijdcmboaagreatdoor", sum := "4ca466ae765f641345363c78404f2880624ea9688a41fa77bb2d432460b2c446", func := "loop.example/gemel/laws.FnHeapNum", spec := "fnHeapNum", unfollowed := true, recurses := true, named := ["loop.example/gemel/impl.opForms"], apart := false, laid := [("loop.example/gemel/impl.opForms", laid_loop_example_gemel_impl_opForms)], narrowed := true }
def FnHeapNumUptoSaid : Prop := fnHeapNumUptoRow.holds Tryz.pinned (OpenSpec.upto fnHeapNumSpec)

/-- 'laws.FnHeapTemp', WHERE WHAT IT READS IS OF BULK AT MOST 1048576: true; the input reads as it did. -/
def fnHeapTempUptoRow : OpenClaim := { program := "ytoaalcijdcmboaagreatdoor", sum := "4ca466ae765f641345363c78404f2880624ea9688a41fa77bb2d432460b2c446", func := "loop.example/gemel/laws.FnHeapTemp", spec := "fnHeapTemp", unfollowed := true, recurses := true, named := ["loop.example/gemel/impl.opForms"], apart := false, laid := [("loop.example/gemel/impl.opForms", laid_loop_example_gemel_impl_opForms)], narrowed := true }
def FnHeapTempUptoSaid : Prop := fnHeapTempUptoRow.holds Tryz.pinned (OpenSpec.upto fnHeapTempSpec)

/-- 'laws.FnHeapSet', WHERE WHAT IT READS IS OF BULK AT MOST 1048576: true; the input reads as it did. -/
def fnHeapSetUptoRow : OpenClaim := { program := "ytoaalcijdcmboaagreatdoor", sum := "4ca466ae765f641345363c78404f2880624ea9688a41fa77bb2d432460b2c446", func := "loop.example/gemel/laws.FnHeapSet", spec := "fnHeapSet", unfollowed := true, recurses := true, named := ["loop.example/gemel/impl.opForms"], apart := false, laid := [("loop.example/gemel/impl.opForms", laid_loop_example_gemel_impl_opForms)], narrowed := true }
def FnHeapSetUptoSaid : Prop := fnHeapSetUptoRow.holds Tryz.pinned (OpenSpec.upto fnHeapSetSpec)

/-- 'laws.FnHeapDrop', WHERE WHAT IT READS IS OF BULK AT MOST 1048576: true; the input reads as it did. -/
def fnHeapDropUptoRow : OpenClaim := { program := "ytoaalcijdcmboaagreatdoor", sum := "4ca466ae765f641345363c78404f2880624ea9688a41fa77bb2d432460b2c446", func := "loop.example/gemel/laws.FnHeapDrop", spec := "fnHeapDrop", unfollowed := true, recurses := true, named := ["loop.example/gemel/impl.opForms"], apart := false, laid := [("loop.example/gemel/impl.opForms", laid_loop_example_gemel_impl_opForms)], narrowed := true }
def FnHeapDropUptoSaid : Prop := fnHeapDropUptoRow.holds Tryz.pinned (OpenSpec.upto fnHeapDropSpec)

/-- 'laws.FnHeapAdd', WHERE WHAT IT READS IS OF BULK AT MOST 1048576: true; the input reads as it did. -/
def fnHeapAddUptoRow : OpenClaim := { program := "ytoaalcijdcmboaagreatdoor", sum := "4ca466ae765f641345363c78404f2880624ea9688a41fa77bb2d432460b2c446", func := "loop.example/gemel/laws.FnHeapAdd", spec := "fnHeapAdd", unfollowed := true, recurses := true, named := ["loop.example/gemel/impl.opForms"], apart := false, laid := [("loop.example/gemel/impl.opForms", laid_loop_example_gemel_impl_opForms)], narrowed := true }
def FnHeapAddUptoSaid : Prop := fnHeapAddUptoRow.holds Tryz.pinned (OpenSpec.upto fnHeapAddSpec)

end Rows
end Go.Proofs.YtoaalcijdcmboaaGreatDoor
