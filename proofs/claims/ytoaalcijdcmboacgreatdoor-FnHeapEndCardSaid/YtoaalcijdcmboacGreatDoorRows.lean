/-
  NARROWER THAN 'FOR EVERY INPUT', by the rows' own cells (each row's printed sentence says how): FnHeapLook: laid · FnHeapWhere: laid · FnHeapRoom: laid · FnHeapBorn: laid · FnHeapSaidFew: laid · FnHeapEnd: laid · FnHeapNoLook: laid · FnHeapMethod: laid.
  DERIVED. THE GIVEN ROWS OF THIS SEAT. 8 by the template 'for every input the law returns true; each argument reads behind the call as it read before'; 0 by the template 'total and deterministic' (their statements: YtoaalcijdcmboacGreatDoorTotals.lean).
  GIVEN WITH THE SEED: the statements are not yours to turn. If you find one false, say at which input.
  Laid BY PROGRAM, IN A SANDBOX (cutbox-rows.mjs): the forced cells as the released guide's own fill.sh prints them over the translation bdbd4a995335f41c… (all of the seat's roots in one cut). By AI agents, Wed Nov 11 2026. No macro, syntax, notation, axiom, sorry.
-/
import Derived.Test.YtoaalcijdcmboacGreatDoorChecked
import GoSem.Claim
import GoSem.ClaimJoined
import GoSem.ClaimMapViews
import Derived.JoinedTies
import Derived.KernelRfl
namespace Go.Proofs.YtoaalcijdcmboacGreatDoor
/- THE CELL 'sum', in the pinned program and in every row, IS THE sha256 OF THE DUMP (.gsa) THAT YtoaalcijdcmboacGreatDoorProg.lean LOADS. Nothing in Lean hashes anything: it is a label: what it is worth is what the hold of that sum in a sandbox is worth. -/
noncomputable def Tryz.pinned : Pinned := { name := "ytoaalcijdcmboacgreatdoor", sum := "bdbd4a995335f41cee83b46d068b53b61cc002a9b299831e1afe566bed4658d3", checked := Tryz.checked }
namespace Rows
def none {H : Type} : Left H := { results := [], args := [] }

/- WHAT THE LISTED PACKAGE-LEVEL VARIABLES READ AS WHEN THE CALL BEGINS. Each datum BY PROGRAM (the guide's laid-datum.mjs) off the statement by which the dump's own 'gosem.cut.vars' lays the variable. In a bare row this is a premise. The card (YtoaalcijdcmboacGreatDoorCards.lean) ties it to the program's text. -/
def laid_loop_example_gemel_impl_opForms {H : Type} : DataW H := .agg [.agg [.lit (.string []), .lit (.int .i64 0), .lit (.int .i64 0)], .agg [.lit (.string [110, 117, 109]), .lit (.int .i64 0), .lit (.int .i64 1)], .agg [.lit (.string [116, 101, 109, 112]), .lit (.int .i64 0), .lit (.int .i64 1)], .agg [.lit (.string [115, 101, 116]), .lit (.int .i64 1), .lit (.int .i64 0)], .agg [.lit (.string [100, 114, 111, 112]), .lit (.int .i64 1), .lit (.int .i64 0)], .agg [.lit (.string [97, 100, 100]), .lit (.int .i64 2), .lit (.int .i64 1)], .agg [.lit (.string [115, 97, 109, 101]), .lit (.int .i64 2), .lit (.int .i64 1)], .agg [.lit (.string [106, 117, 109, 112]), .lit (.int .i64 0), .lit (.int .i64 0)], .agg [.lit (.string [122, 101, 114, 111]), .lit (.int .i64 1), .lit (.int .i64 0)], .agg [.lit (.string [99, 97, 108, 108]), .lit (.int .i64 0), .lit (.int .i64 1)], .agg [.lit (.string [114, 101, 116]), .lit (.int .i64 1), .lit (.int .i64 0)], .agg [.lit (.string [104, 101, 114, 101]), .lit (.int .i64 0), .lit (.int .i64 1)], .agg [.lit (.string [115, 101, 110, 100, 101, 114]), .lit (.int .i64 1), .lit (.int .i64 1)], .agg [.lit (.string [112, 101, 101, 107]), .lit (.int .i64 1), .lit (.int .i64 1)], .agg [.lit (.string [112, 111, 107, 101]), .lit (.int .i64 2), .lit (.int .i64 0)], .agg [.lit (.string [98, 97, 99, 107]), .lit (.int .i64 2), .lit (.int .i64 1)], .agg [.lit (.string [115, 97, 121]), .lit (.int .i64 1), .lit (.int .i64 0)], .agg [.lit (.string [100, 101, 97, 100]), .lit (.int .i64 1), .lit (.int .i64 1)], .agg [.lit (.string [119, 104, 101, 114, 101]), .lit (.int .i64 1), .lit (.int .i64 1)]]

/-- 'laws.FnHeapLook': WHATEVER THE INPUT: true; the input reads as it did. -/
def fnHeapLookSpec : ChangeSpec := { name := "fnHeapLook", vars := ["loop.example/gemel/impl.opForms"], fn := fun _ => fun
  | [d1, d2, g1] => { results := [.lit (.bool true)], args := [d1, d2], vars := [g1] }
  | _ => none }
def fnHeapLookRow : OpenClaim := { program := "ytoaalcijdcmboacgreatdoor", sum := "bdbd4a995335f41cee83b46d068b53b61cc002a9b299831e1afe566bed4658d3", func := "loop.example/gemel/laws.FnHeapLook", spec := "fnHeapLook", unfollowed := true, recurses := true, named := ["loop.example/gemel/impl.opForms"], apart := false, laid := [("loop.example/gemel/impl.opForms", laid_loop_example_gemel_impl_opForms)] }
def FnHeapLookSaid : Prop := fnHeapLookRow.holds Tryz.pinned (OpenSpec.ofChange fnHeapLookSpec)

/-- ITS FALSE NEIGHBOUR: 'it returns false'. Refute it at one input. -/
def fnHeapLookWrong : ChangeSpec := { name := "fnHeapLook", vars := ["loop.example/gemel/impl.opForms"], fn := fun _ => fun
  | [d1, d2, g1] => { results := [.lit (.bool false)], args := [d1, d2], vars := [g1] }
  | _ => none }
def FnHeapLookWrongFalsely : Prop := fnHeapLookRow.holds Tryz.pinned (OpenSpec.ofChange fnHeapLookWrong)

/-- 'laws.FnHeapWhere': WHATEVER THE INPUT: true; the input reads as it did. -/
def fnHeapWhereSpec : ChangeSpec := { name := "fnHeapWhere", vars := ["loop.example/gemel/impl.opForms"], fn := fun _ => fun
  | [d1, d2, g1] => { results := [.lit (.bool true)], args := [d1, d2], vars := [g1] }
  | _ => none }
def fnHeapWhereRow : OpenClaim := { program := "ytoaalcijdcmboacgreatdoor", sum := "bdbd4a995335f41cee83b46d068b53b61cc002a9b299831e1afe566bed4658d3", func := "loop.example/gemel/laws.FnHeapWhere", spec := "fnHeapWhere", unfollowed := true, recurses := true, named := ["loop.example/gemel/impl.opForms"], apart := false, laid := [("loop.example/gemel/impl.opForms", laid_loop_example_gemel_impl_opForms)] }
def FnHeapWhereSaid : Prop := fnHeapWhereRow.holds Tryz.pinned (OpenSpec.ofChange fnHeapWhereSpec)

/-- ITS FALSE NEIGHBOUR: 'it returns false'. Refute it at one input. -/
def fnHeapWhereWrong : ChangeSpec := { name := "fnHeapWhere", vars := ["loop.example/gemel/impl.opForms"], fn := fun _ => fun
  | [d1, d2, g1] => { results := [.lit (.bool false)], args := [d1, d2], vars := [g1] }
  | _ => none }
def FnHeapWhereWrongFalsely : Prop := fnHeapWhereRow.holds Tryz.pinned (OpenSpec.ofChange fnHeapWhereWrong)

/-- 'laws.FnHeapRoom': WHATEVER THE INPUT: true; the input reads as it did. -/
def fnHeapRoomSpec : ChangeSpec := { name := "fnHeapRoom", vars := ["loop.example/gemel/impl.opForms"], fn := fun _ => fun
  | [d1, d2, g1] => { results := [.lit (.bool true)], args := [d1, d2], vars := [g1] }
  | _ => none }
def fnHeapRoomRow : OpenClaim := { program := "ytoaalcijdcmboacgreatdoor", sum := "bdbd4a995335f41cee83b46d068b53b61cc002a9b299831e1afe566bed4658d3", func := "loop.example/gemel/laws.FnHeapRoom", spec := "fnHeapRoom", unfollowed := true, recurses := true, named := ["loop.example/gemel/impl.opForms"], apart := false, laid := [("loop.example/gemel/impl.opForms", laid_loop_example_gemel_impl_opForms)] }
def FnHeapRoomSaid : Prop := fnHeapRoomRow.holds Tryz.pinned (OpenSpec.ofChange fnHeapRoomSpec)

/-- ITS FALSE NEIGHBOUR: 'it returns false'. Refute it at one input. -/
def fnHeapRoomWrong : ChangeSpec := { name := "fnHeapRoom", vars := ["loop.example/gemel/impl.opForms"], fn := fun _ => fun
  | [d1, d2, g1] => { results := [.lit (.bool false)], args := [d1, d2], vars := [g1] }
  | _ => none }
def FnHeapRoomWrongFalsely : Prop := fnHeapRoomRow.holds Tryz.pinned (OpenSpec.ofChange fnHeapRoomWrong)

/-- 'laws.FnHeapBorn': WHATEVER THE INPUT: true; the input reads as it did. -/
def fnHeapBornSpec : ChangeSpec := { name := "fnHeapBorn", vars := ["loop.example/gemel/impl.opForms"], fn := fun _ => fun
  | [d, g1] => { results := [.lit (.bool true)], args := [d], vars := [g1] }
  | _ => none }
def fnHeapBornRow : OpenClaim := { program := "ytoaalcijdcmboacgreatdoor", sum := "bdbd4a995335f41cee83b46d068b53b61cc002a9b299831e1afe566bed4658d3", func := "loop.example/gemel/laws.FnHeapBorn", spec := "fnHeapBorn", unfollowed := true, recurses := true, named := ["loop.example/gemel/impl.opForms"], apart := false, laid := [("loop.example/gemel/impl.opForms", laid_loop_example_gemel_impl_opForms)] }
def FnHeapBornSaid : Prop := fnHeapBornRow.holds Tryz.pinned (OpenSpec.ofChange fnHeapBornSpec)

/-- ITS FALSE NEIGHBOUR: 'it returns false'. Refute it at one input. -/
def fnHeapBornWrong : ChangeSpec := { name := "fnHeapBorn", vars := ["loop.example/gemel/impl.opForms"], fn := fun _ => fun
  | [d, g1] => { results := [.lit (.bool false)], args := [d], vars := [g1] }
  | _ => none }
def FnHeapBornWrongFalsely : Prop := fnHeapBornRow.holds Tryz.pinned (OpenSpec.ofChange fnHeapBornWrong)

/-- 'laws.FnHeapSaidFew': WHATEVER THE INPUT: true; the input reads as it did. -/
def fnHeapSaidFewSpec : ChangeSpec := { name := "fnHeapSaidFew", vars := ["loop.example/gemel/impl.opForms"], fn := fun _ => fun
  | [d, g1] => { results := [.lit (.bool true)], args := [d], vars := [g1] }
  | _ => none }
def fnHeapSaidFewRow : OpenClaim := { program := "ytoaalcijdcmboacgreatdoor", sum := "bdbd4a995335f41cee83b46d068b53b61cc002a9b299831e1afe566bed4658d3", func := "loop.example/gemel/laws.FnHeapSaidFew", spec := "fnHeapSaidFew", unfollowed := true, recurses := true, named := ["loop.example/gemel/impl.opForms"], apart := false, laid := [("loop.example/gemel/impl.opForms", laid_loop_example_gemel_impl_opForms)] }
def FnHeapSaidFewSaid : Prop := fnHeapSaidFewRow.holds Tryz.pinned (OpenSpec.ofChange fnHeapSaidFewSpec)

/-- ITS FALSE NEIGHBOUR: 'it returns false'. Refute it at one input. -/
def fnHeapSaidFewWrong : ChangeSpec := { name := "fnHeapSaidFew", vars := ["loop.example/gemel/impl.opForms"], fn := fun _ => fun
  | [d, g1] => { results := [.lit (.bool false)], args := [d], vars := [g1] }
  | _ => none }
def FnHeapSaidFewWrongFalsely : Prop := fnHeapSaidFewRow.holds Tryz.pinned (OpenSpec.ofChange fnHeapSaidFewWrong)

/-- 'laws.FnHeapEnd': WHATEVER THE INPUT: true; the input reads as it did. -/
def fnHeapEndSpec : ChangeSpec := { name := "fnHeapEnd", vars := ["loop.example/gemel/impl.opForms"], fn := fun _ => fun
  | [d, g1] => { results := [.lit (.bool true)], args := [d], vars := [g1] }
  | _ => none }
def fnHeapEndRow : OpenClaim := { program := "ytoaalcijdcmboacgreatdoor", sum := "bdbd4a995335f41cee83b46d068b53b61cc002a9b299831e1afe566bed4658d3", func := "loop.example/gemel/laws.FnHeapEnd", spec := "fnHeapEnd", unfollowed := true, recurses := true, named := ["loop.example/gemel/impl.opForms"], apart := false, laid := [("loop.example/gemel/impl.opForms", laid_loop_example_gemel_impl_opForms)] }
def FnHeapEndSaid : Prop := fnHeapEndRow.holds Tryz.pinned (OpenSpec.ofChange fnHeapEndSpec)

/-- ITS FALSE NEIGHBOUR: 'it returns false'. Refute it at one input. -/
def fnHeapEndWrong : ChangeSpec := { name := "fnHeapEnd", vars := ["loop.example/gemel/impl.opForms"], fn := fun _ => fun
  | [d, g1] => { results := [.lit (.bool false)], args := [d], vars := [g1] }
  | _ => none }
def FnHeapEndWrongFalsely : Prop := fnHeapEndRow.holds Tryz.pinned (OpenSpec.ofChange fnHeapEndWrong)

/-- 'laws.FnHeapNoLook': WHATEVER THE INPUT: true; the input reads as it did. -/
def fnHeapNoLookSpec : ChangeSpec := { name := "fnHeapNoLook", vars := ["loop.example/gemel/impl.opForms"], fn := fun _ => fun
  | [d, g1] => { results := [.lit (.bool true)], args := [d], vars := [g1] }
  | _ => none }
def fnHeapNoLookRow : OpenClaim := { program := "ytoaalcijdcmboacgreatdoor", sum := "bdbd4a995335f41cee83b46d068b53b61cc002a9b299831e1afe566bed4658d3", func := "loop.example/gemel/laws.FnHeapNoLook", spec := "fnHeapNoLook", unfollowed := true, recurses := true, named := ["loop.example/gemel/impl.opForms"], apart := false, laid := [("loop.example/gemel/impl.opForms", laid_loop_example_gemel_impl_opForms)] }
def FnHeapNoLookSaid : Prop := fnHeapNoLookRow.holds Tryz.pinned (OpenSpec.ofChange fnHeapNoLookSpec)

/-- ITS FALSE NEIGHBOUR: 'it returns false'. Refute it at one input. -/
def fnHeapNoLookWrong : ChangeSpec := { name := "fnHeapNoLook", vars := ["loop.example/gemel/impl.opForms"], fn := fun _ => fun
  | [d, g1] => { results := [.lit (.bool false)], args := [d], vars := [g1] }
  | _ => none }
def FnHeapNoLookWrongFalsely : Prop := fnHeapNoLookRow.holds Tryz.pinned (OpenSpec.ofChange fnHeapNoLookWrong)

/-- 'laws.FnHeapMethod': WHATEVER THE INPUT: true; the input reads as it did. -/
def fnHeapMethodSpec : ChangeSpec := { name := "fnHeapMethod", vars := ["loop.example/gemel/impl.opForms"], fn := fun _ => fun
  | [d, g1] => { results := [.lit (.bool true)], args := [d], vars := [g1] }
  | _ => none }
def fnHeapMethodRow : OpenClaim := { program := "ytoaalcijdcmboacgreatdoor", sum := "bdbd4a995335f41cee83b46d068b53b61cc002a9b299831e1afe566bed4658d3", func := "loop.example/gemel/laws.FnHeapMethod", spec := "fnHeapMethod", unfollowed := true, recurses := true, named := ["loop.example/gemel/impl.opForms"], apart := false, laid := [("loop.example/gemel/impl.opForms", laid_loop_example_gemel_impl_opForms)] }
def FnHeapMethodSaid : Prop := fnHeapMethodRow.holds Tryz.pinned (OpenSpec.ofChange fnHeapMethodSpec)

/-- ITS FALSE NEIGHBOUR: 'it returns false'. Refute it at one input. -/
def fnHeapMethodWrong : ChangeSpec := { name := "fnHeapMethod", vars := ["loop.example/gemel/impl.opForms"], fn := fun _ => fun
  | [d, g1] => { results := [.lit (.bool false)], args := [d], vars := [g1] }
  | _ => none }
def FnHeapMethodWrongFalsely : Prop := fnHeapMethodRow.holds Tryz.pinned (OpenSpec.ofChange fnHeapMethodWrong)

/- THE SECOND FORM. 'bulk': how many values and letters a reading holds, each counted each time it is reached (what is shared counts as often as it is met; a slice's spare places count too). A statement '..UptoSaid' is the law's where the arguments, and the package variables that the reading takes, are together of bulk at most 1048576: NARROWER than '..Said'. Prove '..Said' where nothing that the law and all that it calls make is longer than what came in: it says more and counts as full. Else prove '..UptoSaid'. A law counts once. -/
mutual
def uptoBulk {H : Type} : DataW H → Nat
  | .lit (.string bytes) => bytes.length + 1
  | .lit _ => 1
  | .nil => 1
  | .ptr d => uptoBulk d + 1
  | .slice elems spare => uptoBulkAll elems + uptoBulkAll spare + 1
  | .agg parts => uptoBulkAll parts + 1
  | .iface _ d => uptoBulk d + 1
  | .map entries => uptoBulkEntries entries + 1
  | .held _ => 1
def uptoBulkAll {H : Type} : List (DataW H) → Nat
  | [] => 0
  | d :: r => uptoBulk d + uptoBulkAll r
def uptoBulkEntries {H : Type} : List (Lit × DataW H) → Nat
  | [] => 0
  | x :: r => uptoBulkEntry x + uptoBulkEntries r
def uptoBulkEntry {H : Type} : Lit × DataW H → Nat
  | (.string bytes, d) => bytes.length + uptoBulk d + 1
  | (_, d) => uptoBulk d + 1
 end
def uptoSmall : (H : Type) → List (DataW H) → Bool := fun _ ds => decide (uptoBulkAll ds ≤ 1048576)
def OpenSpec.upto (s : _root_.Go.ChangeSpec) : _root_.Go.OpenSpec := { _root_.Go.OpenSpec.ofChange s with cond := some uptoSmall }

/-- 'laws.FnHeapLook', WHERE WHAT IT READS IS OF BULK AT MOST 1048576: true; the input reads as it did. -/
def fnHeapLookUptoRow : OpenClaim := { program := "ytoaalcijdcmboacgreatdoor", sum := "bdbd4a995335f41cee83b46d068b53b61cc002a9b299831e1afe566bed4658d3", func := "loop.example/gemel/laws.FnHeapLook", spec := "fnHeapLook", unfollowed := true, recurses := true, named := ["loop.example/gemel/impl.opForms"], apart := false, laid := [("loop.example/gemel/impl.opForms", laid_loop_example_gemel_impl_opForms)], narrowed := true }
def FnHeapLookUptoSaid : Prop := fnHeapLookUptoRow.holds Tryz.pinned (OpenSpec.upto fnHeapLookSpec)

/-- 'laws.FnHeapWhere', WHERE WHAT IT READS IS OF BULK AT MOST 1048576: true; the input reads as it did. -/
def fnHeapWhereUptoRow : OpenClaim := { program := "ytoaalcijdcmboacgreatdoor", sum := "bdbd4a995335f41cee83b46d068b53b61cc002a9b299831e1afe566bed4658d3", func := "loop.example/gemel/laws.FnHeapWhere", spec := "fnHeapWhere", unfollowed := true, recurses := true, named := ["loop.example/gemel/impl.opForms"], apart := false, laid := [("loop.example/gemel/impl.opForms", laid_loop_example_gemel_impl_opForms)], narrowed := true }
def FnHeapWhereUptoSaid : Prop := fnHeapWhereUptoRow.holds Tryz.pinned (OpenSpec.upto fnHeapWhereSpec)

/-- 'laws.FnHeapRoom', WHERE WHAT IT READS IS OF BULK AT MOST 1048576: true; the input reads as it did. -/
def fnHeapRoomUptoRow : OpenClaim := { program := "ytoaalcijdcmboacgreatdoor", sum := "bdbd4a995335f41cee83b46d068b53b61cc002a9b299831e1afe566bed4658d3", func := "loop.example/gemel/laws.FnHeapRoom", spec := "fnHeapRoom", unfollowed := true, recurses := true, named := ["loop.example/gemel/impl.opForms"], apart := false, laid := [("loop.example/gemel/impl.opForms", laid_loop_example_gemel_impl_opForms)], narrowed := true }
def FnHeapRoomUptoSaid : Prop := fnHeapRoomUptoRow.holds Tryz.pinned (OpenSpec.upto fnHeapRoomSpec)

/-- 'laws.FnHeapBorn', WHERE WHAT IT READS IS OF BULK AT MOST 1048576: true; the input reads as it did. -/
def fnHeapBornUptoRow : OpenClaim := { program := "ytoaalcijdcmboacgreatdoor", sum := "bdbd4a995335f41cee83b46d068b53b61cc002a9b299831e1afe566bed4658d3", func := "loop.example/gemel/laws.FnHeapBorn", spec := "fnHeapBorn", unfollowed := true, recurses := true, named := ["loop.example/gemel/impl.opForms"], apart := false, laid := [("loop.example/gemel/impl.opForms", laid_loop_example_gemel_impl_opForms)], narrowed := true }
def FnHeapBornUptoSaid : Prop := fnHeapBornUptoRow.holds Tryz.pinned (OpenSpec.upto fnHeapBornSpec)

/-- 'laws.FnHeapSaidFew', WHERE WHAT IT READS IS OF BULK AT MOST 1048576: true; the input reads as it did. -/
def fnHeapSaidFewUptoRow : OpenClaim := { program := "ytoaalcijdcmboacgreatdoor", sum := "bdbd4a995335f41cee83b46d068b53b61cc002a9b299831e1afe566bed4658d3", func := "loop.example/gemel/laws.FnHeapSaidFew", spec := "fnHeapSaidFew", unfollowed := true, recurses := true, named := ["loop.example/gemel/impl.opForms"], apart := false, laid := [("loop.example/gemel/impl.opForms", laid_loop_example_gemel_impl_opForms)], narrowed := true }
def FnHeapSaidFewUptoSaid : Prop := fnHeapSaidFewUptoRow.holds Tryz.pinned (OpenSpec.upto fnHeapSaidFewSpec)

/-- 'laws.FnHeapEnd', WHERE WHAT IT READS IS OF BULK AT MOST 1048576: true; the input reads as it did. -/
def fnHeapEndUptoRow : OpenClaim := { program := "ytoaalcijdcmboacgreatdoor", sum := "bdbd4a995335f41cee83b46d068b53b61cc002a9b299831e1afe566bed4658d3", func := "loop.example/gemel/laws.FnHeapEnd", spec := "fnHeapEnd", unfollowed := true, recurses := true, named := ["loop.example/gemel/impl.opForms"], apart := false, laid := [("loop.example/gemel/impl.opForms", laid_loop_example_gemel_impl_opForms)], narrowed := true }
def FnHeapEndUptoSaid : Prop := fnHeapEndUptoRow.holds Tryz.pinned (OpenSpec.upto fnHeapEndSpec)

/-- 'laws.FnHeapNoLook', WHERE WHAT IT READS IS OF BULK AT MOST 1048576: true; the input reads as it did. -/
def fnHeapNoLookUptoRow : OpenClaim := { program := "ytoaalcijdcmboacgreatdoor", sum := "bdbd4a995335f41cee83b46d068b53b61cc002a9b299831e1afe566bed4658d3", func := "loop.example/gemel/laws.FnHeapNoLook", spec := "fnHeapNoLook", unfollowed := true, recurses := true, named := ["loop.example/gemel/impl.opForms"], apart := false, laid := [("loop.example/gemel/impl.opForms", laid_loop_example_gemel_impl_opForms)], narrowed := true }
def FnHeapNoLookUptoSaid : Prop := fnHeapNoLookUptoRow.holds Tryz.pinned (OpenSpec.upto fnHeapNoLookSpec)

/-- 'laws.FnHeapMethod', WHERE WHAT IT READS IS OF BULK AT MOST 1048576: true; the input reads as it did. -/
def fnHeapMethodUptoRow : OpenClaim := { program := "ytoaalcijdcmboacgreatdoor", sum := "bdbd4a995335f41cee83b46d068b53b61cc002a9b299831e1afe566bed4658d3", func := "loop.example/gemel/laws.FnHeapMethod", spec := "fnHeapMethod", unfollowed := true, recurses := true, named := ["loop.example/gemel/impl.opForms"], apart := false, laid := [("loop.example/gemel/impl.opForms", laid_loop_example_gemel_impl_opForms)], narrowed := true }
def FnHeapMethodUptoSaid : Prop := fnHeapMethodUptoRow.holds Tryz.pinned (OpenSpec.upto fnHeapMethodSpec)

end Rows
end Go.Proofs.YtoaalcijdcmboacGreatDoor
