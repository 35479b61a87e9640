/-
  NARROWER THAN 'FOR EVERY INPUT', by the rows' own cells (each row's printed sentence says how): FnHeapNum: laid · FnHeapTemp: laid · FnHeapSet: laid · FnHeapDrop: laid · FnHeapAdd: laid · FnHeapLook: laid · FnHeapWhere: laid · FnHeapRoom: laid.
  DERIVED. THE GIVEN ROWS OF THIS SEAT. 8 by the template 'for every input the law returns true; each argument reads behind the call as it read before'; 0 by the template 'total and deterministic' (their statements: YtindklhklnpfgaaGreatDoorTotals.lean).
  GIVEN WITH THE SEED: the statements are not yours to turn. If you find one false, say at which input.
  Laid BY PROGRAM, IN A SANDBOX (cutbox-rows.mjs): the forced cells as the released guide's own fill.sh prints them over the translation 8fcf4c4b8d8da850… (all of the seat's roots in one cut). By AI agents, Wed Nov 11 2026. No macro, syntax, notation, axiom, sorry.
-/
import Derived.Test.YtindklhklnpfgaaGreatDoorChecked
import GoSem.Claim
import GoSem.ClaimJoined
import GoSem.ClaimMapViews
import Derived.JoinedTies
import Derived.KernelRfl
namespace Go.Proofs.YtindklhklnpfgaaGreatDoor
/- THE CELL 'sum', in the pinned program and in every row, IS THE sha256 OF THE DUMP (.gsa) THAT YtindklhklnpfgaaGreatDoorProg.lean LOADS. Nothing in Lean hashes anything: it is a label: what it is worth is what the hold of that sum in a sandbox is worth. -/
noncomputable def Tryz.pinned : Pinned := { name := "ytindklhklnpfgaagreatdoor", sum := "8fcf4c4b8d8da850cb1a18d8e0d52c5d16c7b86884230d355c00c98f85fa47b1", checked := Tryz.checked }
namespace Rows
def none {H : Type} : Left H := { results := [], args := [] }

/- WHAT THE LISTED PACKAGE-LEVEL VARIABLES READ AS WHEN THE CALL BEGINS. Each datum BY PROGRAM (the guide's laid-datum.mjs) off the statement by which the dump's own 'gosem.cut.vars' lays the variable. In a bare row this is a premise. The card (YtindklhklnpfgaaGreatDoorCards.lean) ties it to the program's text. -/
def laid_loop_example_gemel_impl_opForms {H : Type} : DataW H := .agg [.agg [.lit (.string []), .lit (.int .i64 0), .lit (.int .i64 0)], .agg [.lit (.string [110, 117, 109]), .lit (.int .i64 0), .lit (.int .i64 1)], .agg [.lit (.string [116, 101, 109, 112]), .lit (.int .i64 0), .lit (.int .i64 1)], .agg [.lit (.string [115, 101, 116]), .lit (.int .i64 1), .lit (.int .i64 0)], .agg [.lit (.string [100, 114, 111, 112]), .lit (.int .i64 1), .lit (.int .i64 0)], .agg [.lit (.string [97, 100, 100]), .lit (.int .i64 2), .lit (.int .i64 1)], .agg [.lit (.string [115, 97, 109, 101]), .lit (.int .i64 2), .lit (.int .i64 1)], .agg [.lit (.string [106, 117, 109, 112]), .lit (.int .i64 0), .lit (.int .i64 0)], .agg [.lit (.string [122, 101, 114, 111]), .lit (.int .i64 1), .lit (.int .i64 0)], .agg [.lit (.string [99, 97, 108, 108]), .lit (.int .i64 0), .lit (.int .i64 1)], .agg [.lit (.string [114, 101, 116]), .lit (.int .i64 1), .lit (.int .i64 0)], .agg [.lit (.string [104, 101, 114, 101]), .lit (.int .i64 0), .lit (.int .i64 1)], .agg [.lit (.string [115, 101, 110, 100, 101, 114]), .lit (.int .i64 1), .lit (.int .i64 1)], .agg [.lit (.string [112, 101, 101, 107]), .lit (.int .i64 1), .lit (.int .i64 1)], .agg [.lit (.string [112, 111, 107, 101]), .lit (.int .i64 2), .lit (.int .i64 0)], .agg [.lit (.string [98, 97, 99, 107]), .lit (.int .i64 2), .lit (.int .i64 1)], .agg [.lit (.string [115, 97, 121]), .lit (.int .i64 1), .lit (.int .i64 0)], .agg [.lit (.string [100, 101, 97, 100]), .lit (.int .i64 1), .lit (.int .i64 1)], .agg [.lit (.string [119, 104, 101, 114, 101]), .lit (.int .i64 1), .lit (.int .i64 1)]]

/-- 'laws.FnHeapNum': WHATEVER THE INPUT: true; the input reads as it did. -/
def fnHeapNumSpec : ChangeSpec := { name := "fnHeapNum", vars := ["loop.example/gemel/impl.opForms"], fn := fun _ => fun
  | [d1, d2, g1] => { results := [.lit (.bool true)], args := [d1, d2], vars := [g1] }
  | _ => none }
def fnHeapNumRow : OpenClaim := { program := "ytindklhklnpfgaagreatdoor", sum := "8fcf4c4b8d8da850cb1a18d8e0d52c5d16c7b86884230d355c00c98f85fa47b1", func := "loop.example/gemel/laws.FnHeapNum", spec := "fnHeapNum", unfollowed := true, recurses := true, named := ["loop.example/gemel/impl.opForms"], apart := false, laid := [("loop.example/gemel/impl.opForms", laid_loop_example_gemel_impl_opForms)] }
def FnHeapNumSaid : Prop := fnHeapNumRow.holds Tryz.pinned (OpenSpec.ofChange fnHeapNumSpec)

/-- ITS FALSE NEIGHBOUR: 'it returns false'. Refute it at one input. -/
def fnHeapNumWrong : ChangeSpec := { name := "fnHeapNum", vars := ["loop.example/gemel/impl.opForms"], fn := fun _ => fun
  | [d1, d2, g1] => { results := [.lit (.bool false)], args := [d1, d2], vars := [g1] }
  | _ => none }
def FnHeapNumWrongFalsely : Prop := fnHeapNumRow.holds Tryz.pinned (OpenSpec.ofChange fnHeapNumWrong)

/-- 'laws.FnHeapTemp': WHATEVER THE INPUT: true; the input reads as it did. -/
def fnHeapTempSpec : ChangeSpec := { name := "fnHeapTemp", vars := ["loop.example/gemel/impl.opForms"], fn := fun _ => fun
  | [d1, d2, g1] => { results := [.lit (.bool true)], args := [d1, d2], vars := [g1] }
  | _ => none }
def fnHeapTempRow : OpenClaim := { program := "ytindklhklnpfgaagreatdoor", sum := "8fcf4c4b8d8da850cb1a18d8e0d52c5d16c7b86884230d355c00c98f85fa47b1", func := "loop.example/gemel/laws.FnHeapTemp", spec := "fnHeapTemp", unfollowed := true, recurses := true, named := ["loop.example/gemel/impl.opForms"], apart := false, laid := [("loop.example/gemel/impl.opForms", laid_loop_example_gemel_impl_opForms)] }
def FnHeapTempSaid : Prop := fnHeapTempRow.holds Tryz.pinned (OpenSpec.ofChange fnHeapTempSpec)

/-- ITS FALSE NEIGHBOUR: 'it returns false'. Refute it at one input. -/
def fnHeapTempWrong : ChangeSpec := { name := "fnHeapTemp", vars := ["loop.example/gemel/impl.opForms"], fn := fun _ => fun
  | [d1, d2, g1] => { results := [.lit (.bool false)], args := [d1, d2], vars := [g1] }
  | _ => none }
def FnHeapTempWrongFalsely : Prop := fnHeapTempRow.holds Tryz.pinned (OpenSpec.ofChange fnHeapTempWrong)

/-- 'laws.FnHeapSet': WHATEVER THE INPUT: true; the input reads as it did. -/
def fnHeapSetSpec : ChangeSpec := { name := "fnHeapSet", vars := ["loop.example/gemel/impl.opForms"], fn := fun _ => fun
  | [d1, d2, g1] => { results := [.lit (.bool true)], args := [d1, d2], vars := [g1] }
  | _ => none }
def fnHeapSetRow : OpenClaim := { program := "ytindklhklnpfgaagreatdoor", sum := "8fcf4c4b8d8da850cb1a18d8e0d52c5d16c7b86884230d355c00c98f85fa47b1", func := "loop.example/gemel/laws.FnHeapSet", spec := "fnHeapSet", unfollowed := true, recurses := true, named := ["loop.example/gemel/impl.opForms"], apart := false, laid := [("loop.example/gemel/impl.opForms", laid_loop_example_gemel_impl_opForms)] }
def FnHeapSetSaid : Prop := fnHeapSetRow.holds Tryz.pinned (OpenSpec.ofChange fnHeapSetSpec)

/-- ITS FALSE NEIGHBOUR: 'it returns false'. Refute it at one input. -/
def fnHeapSetWrong : ChangeSpec := { name := "fnHeapSet", vars := ["loop.example/gemel/impl.opForms"], fn := fun _ => fun
  | [d1, d2, g1] => { results := [.lit (.bool false)], args := [d1, d2], vars := [g1] }
  | _ => none }
def FnHeapSetWrongFalsely : Prop := fnHeapSetRow.holds Tryz.pinned (OpenSpec.ofChange fnHeapSetWrong)

/-- 'laws.FnHeapDrop': WHATEVER THE INPUT: true; the input reads as it did. -/
def fnHeapDropSpec : ChangeSpec := { name := "fnHeapDrop", vars := ["loop.example/gemel/impl.opForms"], fn := fun _ => fun
  | [d, g1] => { results := [.lit (.bool true)], args := [d], vars := [g1] }
  | _ => none }
def fnHeapDropRow : OpenClaim := { program := "ytindklhklnpfgaagreatdoor", sum := "8fcf4c4b8d8da850cb1a18d8e0d52c5d16c7b86884230d355c00c98f85fa47b1", func := "loop.example/gemel/laws.FnHeapDrop", spec := "fnHeapDrop", unfollowed := true, recurses := true, named := ["loop.example/gemel/impl.opForms"], apart := false, laid := [("loop.example/gemel/impl.opForms", laid_loop_example_gemel_impl_opForms)] }
def FnHeapDropSaid : Prop := fnHeapDropRow.holds Tryz.pinned (OpenSpec.ofChange fnHeapDropSpec)

/-- ITS FALSE NEIGHBOUR: 'it returns false'. Refute it at one input. -/
def fnHeapDropWrong : ChangeSpec := { name := "fnHeapDrop", vars := ["loop.example/gemel/impl.opForms"], fn := fun _ => fun
  | [d, g1] => { results := [.lit (.bool false)], args := [d], vars := [g1] }
  | _ => none }
def FnHeapDropWrongFalsely : Prop := fnHeapDropRow.holds Tryz.pinned (OpenSpec.ofChange fnHeapDropWrong)

/-- 'laws.FnHeapAdd': WHATEVER THE INPUT: true; the input reads as it did. -/
def fnHeapAddSpec : ChangeSpec := { name := "fnHeapAdd", vars := ["loop.example/gemel/impl.opForms"], fn := fun _ => fun
  | [d1, d2, g1] => { results := [.lit (.bool true)], args := [d1, d2], vars := [g1] }
  | _ => none }
def fnHeapAddRow : OpenClaim := { program := "ytindklhklnpfgaagreatdoor", sum := "8fcf4c4b8d8da850cb1a18d8e0d52c5d16c7b86884230d355c00c98f85fa47b1", func := "loop.example/gemel/laws.FnHeapAdd", spec := "fnHeapAdd", unfollowed := true, recurses := true, named := ["loop.example/gemel/impl.opForms"], apart := false, laid := [("loop.example/gemel/impl.opForms", laid_loop_example_gemel_impl_opForms)] }
def FnHeapAddSaid : Prop := fnHeapAddRow.holds Tryz.pinned (OpenSpec.ofChange fnHeapAddSpec)

/-- ITS FALSE NEIGHBOUR: 'it returns false'. Refute it at one input. -/
def fnHeapAddWrong : ChangeSpec := { name := "fnHeapAdd", vars := ["loop.example/gemel/impl.opForms"], fn := fun _ => fun
  | [d1, d2, g1] => { results := [.lit (.bool false)], args := [d1, d2], vars := [g1] }
  | _ => none }
def FnHeapAddWrongFalsely : Prop := fnHeapAddRow.holds Tryz.pinned (OpenSpec.ofChange fnHeapAddWrong)

/-- 'laws.FnHeapLook': WHATEVER THE INPUT: true; the input reads as it did. -/
def fnHeapLookSpec : ChangeSpec := { name := "fnHeapLook", vars := ["loop.example/gemel/impl.opForms"], fn := fun _ => fun
  | [d1, d2, g1] => { results := [.lit (.bool true)], args := [d1, d2], vars := [g1] }
  | _ => none }
def fnHeapLookRow : OpenClaim := { program := "ytindklhklnpfgaagreatdoor", sum := "8fcf4c4b8d8da850cb1a18d8e0d52c5d16c7b86884230d355c00c98f85fa47b1", func := "loop.example/gemel/laws.FnHeapLook", spec := "fnHeapLook", unfollowed := true, recurses := true, named := ["loop.example/gemel/impl.opForms"], apart := false, laid := [("loop.example/gemel/impl.opForms", laid_loop_example_gemel_impl_opForms)] }
def FnHeapLookSaid : Prop := fnHeapLookRow.holds Tryz.pinned (OpenSpec.ofChange fnHeapLookSpec)

/-- ITS FALSE NEIGHBOUR: 'it returns false'. Refute it at one input. -/
def fnHeapLookWrong : ChangeSpec := { name := "fnHeapLook", vars := ["loop.example/gemel/impl.opForms"], fn := fun _ => fun
  | [d1, d2, g1] => { results := [.lit (.bool false)], args := [d1, d2], vars := [g1] }
  | _ => none }
def FnHeapLookWrongFalsely : Prop := fnHeapLookRow.holds Tryz.pinned (OpenSpec.ofChange fnHeapLookWrong)

/-- 'laws.FnHeapWhere': WHATEVER THE INPUT: true; the input reads as it did. -/
def fnHeapWhereSpec : ChangeSpec := { name := "fnHeapWhere", vars := ["loop.example/gemel/impl.opForms"], fn := fun _ => fun
  | [d1, d2, g1] => { results := [.lit (.bool true)], args := [d1, d2], vars := [g1] }
  | _ => none }
def fnHeapWhereRow : OpenClaim := { program := "ytindklhklnpfgaagreatdoor", sum := "8fcf4c4b8d8da850cb1a18d8e0d52c5d16c7b86884230d355c00c98f85fa47b1", func := "loop.example/gemel/laws.FnHeapWhere", spec := "fnHeapWhere", unfollowed := true, recurses := true, named := ["loop.example/gemel/impl.opForms"], apart := false, laid := [("loop.example/gemel/impl.opForms", laid_loop_example_gemel_impl_opForms)] }
def FnHeapWhereSaid : Prop := fnHeapWhereRow.holds Tryz.pinned (OpenSpec.ofChange fnHeapWhereSpec)

/-- ITS FALSE NEIGHBOUR: 'it returns false'. Refute it at one input. -/
def fnHeapWhereWrong : ChangeSpec := { name := "fnHeapWhere", vars := ["loop.example/gemel/impl.opForms"], fn := fun _ => fun
  | [d1, d2, g1] => { results := [.lit (.bool false)], args := [d1, d2], vars := [g1] }
  | _ => none }
def FnHeapWhereWrongFalsely : Prop := fnHeapWhereRow.holds Tryz.pinned (OpenSpec.ofChange fnHeapWhereWrong)

/-- 'laws.FnHeapRoom': WHATEVER THE INPUT: true; the input reads as it did. -/
def fnHeapRoomSpec : ChangeSpec := { name := "fnHeapRoom", vars := ["loop.example/gemel/impl.opForms"], fn := fun _ => fun
  | [d1, d2, g1] => { results := [.lit (.bool true)], args := [d1, d2], vars := [g1] }
  | _ => none }
def fnHeapRoomRow : OpenClaim := { program := "ytindklhklnpfgaagreatdoor", sum := "8fcf4c4b8d8da850cb1a18d8e0d52c5d16c7b86884230d355c00c98f85fa47b1", func := "loop.example/gemel/laws.FnHeapRoom", spec := "fnHeapRoom", unfollowed := true, recurses := true, named := ["loop.example/gemel/impl.opForms"], apart := false, laid := [("loop.example/gemel/impl.opForms", laid_loop_example_gemel_impl_opForms)] }
def FnHeapRoomSaid : Prop := fnHeapRoomRow.holds Tryz.pinned (OpenSpec.ofChange fnHeapRoomSpec)

/-- ITS FALSE NEIGHBOUR: 'it returns false'. Refute it at one input. -/
def fnHeapRoomWrong : ChangeSpec := { name := "fnHeapRoom", vars := ["loop.example/gemel/impl.opForms"], fn := fun _ => fun
  | [d1, d2, g1] => { results := [.lit (.bool false)], args := [d1, d2], vars := [g1] }
  | _ => none }
def FnHeapRoomWrongFalsely : Prop := fnHeapRoomRow.holds Tryz.pinned (OpenSpec.ofChange fnHeapRoomWrong)

/- THE SECOND FORM. 'bulk': how many values and letters a reading holds, each counted each time it is reached (what is shared counts as often as it is met; a slice's spare places count too). A statement '..UptoSaid' is the law's where the arguments, and the package variables that the reading takes, are together of bulk at most 1048576: NARROWER than '..Said'. Prove '..Said' where nothing that the law and all that it calls make is longer than what came in: it says more and counts as full. Else prove '..UptoSaid'. A law counts once. -/
mutual
def uptoBulk {H : Type} : DataW H → Nat
  | .lit (.string bytes) => bytes.length + 1
  | .lit _ => 1
  | .nil => 1
  | .ptr d => uptoBulk d + 1
  | .slice elems spare => uptoBulkAll elems + uptoBulkAll spare + 1
  | .agg parts => uptoBulkAll parts + 1
  | .iface _ d => uptoBulk d + 1
  | .map entries => uptoBulkEntries entries + 1
  | .held _ => 1
def uptoBulkAll {H : Type} : List (DataW H) → Nat
  | [] => 0
  | d :: r => uptoBulk d + uptoBulkAll r
def uptoBulkEntries {H : Type} : List (Lit × DataW H) → Nat
  | [] => 0
  | x :: r => uptoBulkEntry x + uptoBulkEntries r
def uptoBulkEntry {H : Type} : Lit × DataW H → Nat
  | (.string bytes, d) => bytes.length + uptoBulk d + 1
  | (_, d) => uptoBulk d + 1
 end
def uptoSmall : (H : Type) → List (DataW H) → Bool := fun _ ds => decide (uptoBulkAll ds ≤ 1048576)
def OpenSpec.upto (s : _root_.Go.ChangeSpec) : _root_.Go.OpenSpec := { _root_.Go.OpenSpec.ofChange s with cond := some uptoSmall }

/-- 'laws.FnHeapNum', WHERE WHAT IT READS IS OF BULK AT MOST 1048576: true; the input reads as it did. -/
def fnHeapNumUptoRow : OpenClaim := { program := "ytindklhklnpfgaagreatdoor", sum := "8fcf4c4b8d8da850cb1a18d8e0d52c5d16c7b86884230d355c00c98f85fa47b1", func := "loop.example/gemel/laws.FnHeapNum", spec := "fnHeapNum", unfollowed := true, recurses := true, named := ["loop.example/gemel/impl.opForms"], apart := false, laid := [("loop.example/gemel/impl.opForms", laid_loop_example_gemel_impl_opForms)], narrowed := true }
def FnHeapNumUptoSaid : Prop := fnHeapNumUptoRow.holds Tryz.pinned (OpenSpec.upto fnHeapNumSpec)

/-- 'laws.FnHeapTemp', WHERE WHAT IT READS IS OF BULK AT MOST 1048576: true; the input reads as it did. -/
def fnHeapTempUptoRow : OpenClaim := { program := "ytindklhklnpfgaagreatdoor", sum := "8fcf4c4b8d8da850cb1a18d8e0d52c5d16c7b86884230d355c00c98f85fa47b1", func := "loop.example/gemel/laws.FnHeapTemp", spec := "fnHeapTemp", unfollowed := true, recurses := true, named := ["loop.example/gemel/impl.opForms"], apart := false, laid := [("loop.example/gemel/impl.opForms", laid_loop_example_gemel_impl_opForms)], narrowed := true }
def FnHeapTempUptoSaid : Prop := fnHeapTempUptoRow.holds Tryz.pinned (OpenSpec.upto fnHeapTempSpec)

/-- 'laws.FnHeapSet', WHERE WHAT IT READS IS OF BULK AT MOST 1048576: true; the input reads as it did. -/
def fnHeapSetUptoRow : OpenClaim := { program := "ytindklhklnpfgaagreatdoor", sum := "8fcf4c4b8d8da850cb1a18d8e0d52c5d16c7b86884230d355c00c98f85fa47b1", func := "loop.example/gemel/laws.FnHeapSet", spec := "fnHeapSet", unfollowed := true, recurses := true, named := ["loop.example/gemel/impl.opForms"], apart := false, laid := [("loop.example/gemel/impl.opForms", laid_loop_example_gemel_impl_opForms)], narrowed := true }
def FnHeapSetUptoSaid : Prop := fnHeapSetUptoRow.holds Tryz.pinned (OpenSpec.upto fnHeapSetSpec)

/-- 'laws.FnHeapDrop', WHERE WHAT IT READS IS OF BULK AT MOST 1048576: true; the input reads as it did. -/
def fnHeapDropUptoRow : OpenClaim := { program := "ytindklhklnpfgaagreatdoor", sum := "8fcf4c4b8d8da850cb1a18d8e0d52c5d16c7b86884230d355c00c98f85fa47b1", func := "loop.example/gemel/laws.FnHeapDrop", spec := "fnHeapDrop", unfollowed := true, recurses := true, named := ["loop.example/gemel/impl.opForms"], apart := false, laid := [("loop.example/gemel/impl.opForms", laid_loop_example_gemel_impl_opForms)], narrowed := true }
def FnHeapDropUptoSaid : Prop := fnHeapDropUptoRow.holds Tryz.pinned (OpenSpec.upto fnHeapDropSpec)

/-- 'laws.FnHeapAdd', WHERE WHAT IT READS IS OF BULK AT MOST 1048576: true; the input reads as it did. -/
def fnHeapAddUptoRow : OpenClaim := { program := "ytindklhklnpfgaagreatdoor", sum := "8fcf4c4b8d8da850cb1a18d8e0d52c5d16c7b86884230d355c00c98f85fa47b1", func := "loop.example/gemel/laws.FnHeapAdd", spec := "fnHeapAdd", unfollowed := true, recurses := true, named := ["loop.example/gemel/impl.opForms"], apart := false, laid := [("loop.example/gemel/impl.opForms", laid_loop_example_gemel_impl_opForms)], narrowed := true }
def FnHeapAddUptoSaid : Prop := fnHeapAddUptoRow.holds Tryz.pinned (OpenSpec.upto fnHeapAddSpec)

/-- 'laws.FnHeapLook', WHERE WHAT IT READS IS OF BULK AT MOST 1048576: true; the input reads as it did. -/
def fnHeapLookUptoRow : OpenClaim := { program := "ytindklhklnpfgaagreatdoor", sum := "8fcf4c4b8d8da850cb1a18d8e0d52c5d16c7b86884230d355c00c98f85fa47b1", func := "loop.example/gemel/laws.FnHeapLook", spec := "fnHeapLook", unfollowed := true, recurses := true, named := ["loop.example/gemel/impl.opForms"], apart := false, laid := [("loop.example/gemel/impl.opForms", laid_loop_example_gemel_impl_opForms)], narrowed := true }
def FnHeapLookUptoSaid : Prop := fnHeapLookUptoRow.holds Tryz.pinned (OpenSpec.upto fnHeapLookSpec)

/-- 'laws.FnHeapWhere', WHERE WHAT IT READS IS OF BULK AT MOST 1048576: true; the input reads as it did. -/
def fnHeapWhereUptoRow : OpenClaim := { program := "ytindklhklnpfgaagreatdoor", sum := "8fcf4c4b8d8da850cb1a18d8e0d52c5d16c7b86884230d355c00c98f85fa47b1", func := "loop.example/gemel/laws.FnHeapWhere", spec := "fnHeapWhere", unfollowed := true, recurses := true, named := ["loop.example/gemel/impl.opForms"], apart := false, laid := [("loop.example/gemel/impl.opForms", laid_loop_example_gemel_impl_opForms)], narrowed := true }
def FnHeapWhereUptoSaid : Prop := fnHeapWhereUptoRow.holds Tryz.pinned (OpenSpec.upto fnHeapWhereSpec)

/-- 'laws.FnHeapRoom', WHERE WHAT IT READS IS OF BULK AT MOST 1048576: true; the input reads as it did. -/
def fnHeapRoomUptoRow : OpenClaim := { program := "ytindklhklnpfgaagreatdoor", sum := "8fcf4c4b8d8da850cb1a18d8e0d52c5d16c7b86884230d355c00c98f85fa47b1", func := "loop.example/gemel/laws.FnHeapRoom", spec := "fnHeapRoom", unfollowed := true, recurses := true, named := ["loop.example/gemel/impl.opForms"], apart := false, laid := [("loop.example/gemel/impl.opForms", laid_loop_example_gemel_impl_opForms)], narrowed := true }
def FnHeapRoomUptoSaid : Prop := fnHeapRoomUptoRow.holds Tryz.pinned (OpenSpec.upto fnHeapRoomSpec)

end Rows
end Go.Proofs.YtindklhklnpfgaaGreatDoor
