/-
  NARROWER THAN 'FOR EVERY INPUT', by the rows' own cells (each row's printed sentence says how): FnMachNoLook: laid · FnTwinEnd: laid · FnTwinRooms: laid · FnTwinSaid: laid · FnTwinEach: laid · FnTwinFlush: laid · FnTwinMove: laid · FnMoveInRun: laid.
  DERIVED. THE GIVEN ROWS OF THIS SEAT. 8 by the template 'for every input the law returns true; each argument reads behind the call as it read before'; 0 by the template 'total and deterministic' (their statements: YtbjgjjkgfnfejaaGreatDoorTotals.lean).
  GIVEN WITH THE SEED: the statements are not yours to turn. If you find one false, say at which input.
  Laid BY PROGRAM, IN A SANDBOX (cutbox-rows.mjs): the forced cells as the released guide's own fill.sh prints them over the translation c613759ac03c62ad… (all of the seat's roots in one cut). By AI agents, Wed Nov 11 2026. No macro, syntax, notation, axiom, sorry.
-/
import Derived.Test.YtbjgjjkgfnfejaaGreatDoorChecked
import GoSem.Claim
import GoSem.ClaimJoined
import GoSem.ClaimMapViews
import Derived.JoinedTies
import Derived.KernelRfl
namespace Go.Proofs.YtbjgjjkgfnfejaaGreatDoor
/- THE CELL 'sum', in the pinned program and in every row, IS THE sha256 OF THE DUMP (.gsa) THAT YtbjgjjkgfnfejaaGreatDoorProg.lean LOADS. Nothing in Lean hashes anything: it is a label: what it is worth is what the hold of that sum in a sandbox is worth. -/
noncomputable def Tryz.pinned : Pinned := { name := "ytbjgjjkgfnfejaagreatdoor", sum := "c613759ac03c62ad64d54a4b6e241d9b3f74b18f94fc26b7ef2a18cbac9a345e", checked := Tryz.checked }
namespace Rows
def none {H : Type} : Left H := { results := [], args := [] }

/- WHAT THE LISTED PACKAGE-LEVEL VARIABLES READ AS WHEN THE CALL BEGINS. Each datum BY PROGRAM (the guide's laid-datum.mjs) off the statement by which the dump's own 'gosem.cut.vars' lays the variable. In a bare row this is a premise. The card (YtbjgjjkgfnfejaaGreatDoorCards.lean) ties it to the program's text. -/
def laid_loop_example_gemel_impl_opForms {H : Type} : DataW H := .agg [.agg [.lit (.string []), .lit (.int .i64 0), .lit (.int .i64 0)], .agg [.lit (.string [110, 117, 109]), .lit (.int .i64 0), .lit (.int .i64 1)], .agg [.lit (.string [116, 101, 109, 112]), .lit (.int .i64 0), .lit (.int .i64 1)], .agg [.lit (.string [115, 101, 116]), .lit (.int .i64 1), .lit (.int .i64 0)], .agg [.lit (.string [100, 114, 111, 112]), .lit (.int .i64 1), .lit (.int .i64 0)], .agg [.lit (.string [97, 100, 100]), .lit (.int .i64 2), .lit (.int .i64 1)], .agg [.lit (.string [115, 97, 109, 101]), .lit (.int .i64 2), .lit (.int .i64 1)], .agg [.lit (.string [106, 117, 109, 112]), .lit (.int .i64 0), .lit (.int .i64 0)], .agg [.lit (.string [122, 101, 114, 111]), .lit (.int .i64 1), .lit (.int .i64 0)], .agg [.lit (.string [99, 97, 108, 108]), .lit (.int .i64 0), .lit (.int .i64 1)], .agg [.lit (.string [114, 101, 116]), .lit (.int .i64 1), .lit (.int .i64 0)], .agg [.lit (.string [104, 101, 114, 101]), .lit (.int .i64 0), .lit (.int .i64 1)], .agg [.lit (.string [115, 101, 110, 100, 101, 114]), .lit (.int .i64 1), .lit (.int .i64 1)], .agg [.lit (.string [112, 101, 101, 107]), .lit (.int .i64 1), .lit (.int .i64 1)], .agg [.lit (.string [112, 111, 107, 101]), .lit (.int .i64 2), .lit (.int .i64 0)], .agg [.lit (.string [98, 97, 99, 107]), .lit (.int .i64 2), .lit (.int .i64 1)], .agg [.lit (.string [115, 97, 121]), .lit (.int .i64 1), .lit (.int .i64 0)], .agg [.lit (.string [100, 101, 97, 100]), .lit (.int .i64 1), .lit (.int .i64 1)], .agg [.lit (.string [119, 104, 101, 114, 101]), .lit (.int .i64 1), .lit (.int .i64 1)]]

/-- 'laws.FnMachNoLook': WHATEVER THE INPUT: true; the input reads as it did. -/
def fnMachNoLookSpec : ChangeSpec := { name := "fnMachNoLook", vars := ["loop.example/gemel/impl.opForms"], fn := fun _ => fun
  | [d, g1] => { results := [.lit (.bool true)], args := [d], vars := [g1] }
  | _ => none }
def fnMachNoLookRow : OpenClaim := { program := "ytbjgjjkgfnfejaagreatdoor", sum := "c613759ac03c62ad64d54a4b6e241d9b3f74b18f94fc26b7ef2a18cbac9a345e", func := "loop.example/gemel/laws.FnMachNoLook", spec := "fnMachNoLook", unfollowed := true, recurses := true, named := ["loop.example/gemel/impl.opForms"], apart := false, laid := [("loop.example/gemel/impl.opForms", laid_loop_example_gemel_impl_opForms)] }
def FnMachNoLookSaid : Prop := fnMachNoLookRow.holds Tryz.pinned (OpenSpec.ofChange fnMachNoLookSpec)

/-- ITS FALSE NEIGHBOUR: 'it returns false'. Refute it at one input. -/
def fnMachNoLookWrong : ChangeSpec := { name := "fnMachNoLook", vars := ["loop.example/gemel/impl.opForms"], fn := fun _ => fun
  | [d, g1] => { results := [.lit (.bool false)], args := [d], vars := [g1] }
  | _ => none }
def FnMachNoLookWrongFalsely : Prop := fnMachNoLookRow.holds Tryz.pinned (OpenSpec.ofChange fnMachNoLookWrong)

/-- 'laws.FnTwinEnd': WHATEVER THE INPUT: true; the input reads as it did. -/
def fnTwinEndSpec : ChangeSpec := { name := "fnTwinEnd", vars := ["loop.example/gemel/impl.opForms"], fn := fun _ => fun
  | [d, g1] => { results := [.lit (.bool true)], args := [d], vars := [g1] }
  | _ => none }
def fnTwinEndRow : OpenClaim := { program := "ytbjgjjkgfnfejaagreatdoor", sum := "c613759ac03c62ad64d54a4b6e241d9b3f74b18f94fc26b7ef2a18cbac9a345e", func := "loop.example/gemel/laws.FnTwinEnd", spec := "fnTwinEnd", unfollowed := true, recurses := true, named := ["loop.example/gemel/impl.opForms"], apart := false, laid := [("loop.example/gemel/impl.opForms", laid_loop_example_gemel_impl_opForms)] }
def FnTwinEndSaid : Prop := fnTwinEndRow.holds Tryz.pinned (OpenSpec.ofChange fnTwinEndSpec)

/-- ITS FALSE NEIGHBOUR: 'it returns false'. Refute it at one input. -/
def fnTwinEndWrong : ChangeSpec := { name := "fnTwinEnd", vars := ["loop.example/gemel/impl.opForms"], fn := fun _ => fun
  | [d, g1] => { results := [.lit (.bool false)], args := [d], vars := [g1] }
  | _ => none }
def FnTwinEndWrongFalsely : Prop := fnTwinEndRow.holds Tryz.pinned (OpenSpec.ofChange fnTwinEndWrong)

/-- 'laws.FnTwinRooms': WHATEVER THE INPUT: true; the input reads as it did. -/
def fnTwinRoomsSpec : ChangeSpec := { name := "fnTwinRooms", vars := ["loop.example/gemel/impl.opForms"], fn := fun _ => fun
  | [d1, d2, g1] => { results := [.lit (.bool true)], args := [d1, d2], vars := [g1] }
  | _ => none }
def fnTwinRoomsRow : OpenClaim := { program := "ytbjgjjkgfnfejaagreatdoor", sum := "c613759ac03c62ad64d54a4b6e241d9b3f74b18f94fc26b7ef2a18cbac9a345e", func := "loop.example/gemel/laws.FnTwinRooms", spec := "fnTwinRooms", unfollowed := true, recurses := true, named := ["loop.example/gemel/impl.opForms"], apart := false, laid := [("loop.example/gemel/impl.opForms", laid_loop_example_gemel_impl_opForms)] }
def FnTwinRoomsSaid : Prop := fnTwinRoomsRow.holds Tryz.pinned (OpenSpec.ofChange fnTwinRoomsSpec)

/-- ITS FALSE NEIGHBOUR: 'it returns false'. Refute it at one input. -/
def fnTwinRoomsWrong : ChangeSpec := { name := "fnTwinRooms", vars := ["loop.example/gemel/impl.opForms"], fn := fun _ => fun
  | [d1, d2, g1] => { results := [.lit (.bool false)], args := [d1, d2], vars := [g1] }
  | _ => none }
def FnTwinRoomsWrongFalsely : Prop := fnTwinRoomsRow.holds Tryz.pinned (OpenSpec.ofChange fnTwinRoomsWrong)

/-- 'laws.FnTwinSaid': WHATEVER THE INPUT: true; the input reads as it did. -/
def fnTwinSaidSpec : ChangeSpec := { name := "fnTwinSaid", vars := ["loop.example/gemel/impl.opForms"], fn := fun _ => fun
  | [d1, d2, g1] => { results := [.lit (.bool true)], args := [d1, d2], vars := [g1] }
  | _ => none }
def fnTwinSaidRow : OpenClaim := { program := "ytbjgjjkgfnfejaagreatdoor", sum := "c613759ac03c62ad64d54a4b6e241d9b3f74b18f94fc26b7ef2a18cbac9a345e", func := "loop.example/gemel/laws.FnTwinSaid", spec := "fnTwinSaid", unfollowed := true, recurses := true, named := ["loop.example/gemel/impl.opForms"], apart := false, laid := [("loop.example/gemel/impl.opForms", laid_loop_example_gemel_impl_opForms)] }
def FnTwinSaidSaid : Prop := fnTwinSaidRow.holds Tryz.pinned (OpenSpec.ofChange fnTwinSaidSpec)

/-- ITS FALSE NEIGHBOUR: 'it returns false'. Refute it at one input. -/
def fnTwinSaidWrong : ChangeSpec := { name := "fnTwinSaid", vars := ["loop.example/gemel/impl.opForms"], fn := fun _ => fun
  | [d1, d2, g1] => { results := [.lit (.bool false)], args := [d1, d2], vars := [g1] }
  | _ => none }
def FnTwinSaidWrongFalsely : Prop := fnTwinSaidRow.holds Tryz.pinned (OpenSpec.ofChange fnTwinSaidWrong)

/-- 'laws.FnTwinEach': WHATEVER THE INPUT: true; the input reads as it did. -/
def fnTwinEachSpec : ChangeSpec := { name := "fnTwinEach", vars := ["loop.example/gemel/impl.opForms"], fn := fun _ => fun
  | [d, g1] => { results := [.lit (.bool true)], args := [d], vars := [g1] }
  | _ => none }
def fnTwinEachRow : OpenClaim := { program := "ytbjgjjkgfnfejaagreatdoor", sum := "c613759ac03c62ad64d54a4b6e241d9b3f74b18f94fc26b7ef2a18cbac9a345e", func := "loop.example/gemel/laws.FnTwinEach", spec := "fnTwinEach", unfollowed := true, recurses := true, named := ["loop.example/gemel/impl.opForms"], apart := false, laid := [("loop.example/gemel/impl.opForms", laid_loop_example_gemel_impl_opForms)] }
def FnTwinEachSaid : Prop := fnTwinEachRow.holds Tryz.pinned (OpenSpec.ofChange fnTwinEachSpec)

/-- ITS FALSE NEIGHBOUR: 'it returns false'. Refute it at one input. -/
def fnTwinEachWrong : ChangeSpec := { name := "fnTwinEach", vars := ["loop.example/gemel/impl.opForms"], fn := fun _ => fun
  | [d, g1] => { results := [.lit (.bool false)], args := [d], vars := [g1] }
  | _ => none }
def FnTwinEachWrongFalsely : Prop := fnTwinEachRow.holds Tryz.pinned (OpenSpec.ofChange fnTwinEachWrong)

/-- 'laws.FnTwinFlush': WHATEVER THE INPUT: true; the input reads as it did. -/
def fnTwinFlushSpec : ChangeSpec := { name := "fnTwinFlush", vars := ["loop.example/gemel/impl.opForms"], fn := fun _ => fun
  | [d1, d2, g1] => { results := [.lit (.bool true)], args := [d1, d2], vars := [g1] }
  | _ => none }
def fnTwinFlushRow : OpenClaim := { program := "ytbjgjjkgfnfejaagreatdoor", sum := "c613759ac03c62ad64d54a4b6e241d9b3f74b18f94fc26b7ef2a18cbac9a345e", func := "loop.example/gemel/laws.FnTwinFlush", spec := "fnTwinFlush", unfollowed := true, recurses := true, named := ["loop.example/gemel/impl.opForms"], apart := false, laid := [("loop.example/gemel/impl.opForms", laid_loop_example_gemel_impl_opForms)] }
def FnTwinFlushSaid : Prop := fnTwinFlushRow.holds Tryz.pinned (OpenSpec.ofChange fnTwinFlushSpec)

/-- ITS FALSE NEIGHBOUR: 'it returns false'. Refute it at one input. -/
def fnTwinFlushWrong : ChangeSpec := { name := "fnTwinFlush", vars := ["loop.example/gemel/impl.opForms"], fn := fun _ => fun
  | [d1, d2, g1] => { results := [.lit (.bool false)], args := [d1, d2], vars := [g1] }
  | _ => none }
def FnTwinFlushWrongFalsely : Prop := fnTwinFlushRow.holds Tryz.pinned (OpenSpec.ofChange fnTwinFlushWrong)

/-- 'laws.FnTwinMove': WHATEVER THE INPUT: true; the input reads as it did. -/
def fnTwinMoveSpec : ChangeSpec := { name := "fnTwinMove", vars := ["loop.example/gemel/impl.opForms"], fn := fun _ => fun
  | [d1, d2, g1] => { results := [.lit (.bool true)], args := [d1, d2], vars := [g1] }
  | _ => none }
def fnTwinMoveRow : OpenClaim := { program := "ytbjgjjkgfnfejaagreatdoor", sum := "c613759ac03c62ad64d54a4b6e241d9b3f74b18f94fc26b7ef2a18cbac9a345e", func := "loop.example/gemel/laws.FnTwinMove", spec := "fnTwinMove", unfollowed := true, recurses := true, named := ["loop.example/gemel/impl.opForms"], apart := false, laid := [("loop.example/gemel/impl.opForms", laid_loop_example_gemel_impl_opForms)] }
def FnTwinMoveSaid : Prop := fnTwinMoveRow.holds Tryz.pinned (OpenSpec.ofChange fnTwinMoveSpec)

/-- ITS FALSE NEIGHBOUR: 'it returns false'. Refute it at one input. -/
def fnTwinMoveWrong : ChangeSpec := { name := "fnTwinMove", vars := ["loop.example/gemel/impl.opForms"], fn := fun _ => fun
  | [d1, d2, g1] => { results := [.lit (.bool false)], args := [d1, d2], vars := [g1] }
  | _ => none }
def FnTwinMoveWrongFalsely : Prop := fnTwinMoveRow.holds Tryz.pinned (OpenSpec.ofChange fnTwinMoveWrong)

/-- 'laws.FnMoveInRun': WHATEVER THE INPUT: true; the input reads as it did. -/
def fnMoveInRunSpec : ChangeSpec := { name := "fnMoveInRun", vars := ["loop.example/gemel/impl.opForms"], fn := fun _ => fun
  | [d1, d2, g1] => { results := [.lit (.bool true)], args := [d1, d2], vars := [g1] }
  | _ => none }
def fnMoveInRunRow : OpenClaim := { program := "ytbjgjjkgfnfejaagreatdoor", sum := "c613759ac03c62ad64d54a4b6e241d9b3f74b18f94fc26b7ef2a18cbac9a345e", func := "loop.example/gemel/laws.FnMoveInRun", spec := "fnMoveInRun", unfollowed := true, recurses := true, named := ["loop.example/gemel/impl.opForms"], apart := false, laid := [("loop.example/gemel/impl.opForms", laid_loop_example_gemel_impl_opForms)] }
def FnMoveInRunSaid : Prop := fnMoveInRunRow.holds Tryz.pinned (OpenSpec.ofChange fnMoveInRunSpec)

/-- ITS FALSE NEIGHBOUR: 'it returns false'. Refute it at one input. -/
def fnMoveInRunWrong : ChangeSpec := { name := "fnMoveInRun", vars := ["loop.example/gemel/impl.opForms"], fn := fun _ => fun
  | [d1, d2, g1] => { results := [.lit (.bool false)], args := [d1, d2], vars := [g1] }
  | _ => none }
def FnMoveInRunWrongFalsely : Prop := fnMoveInRunRow.holds Tryz.pinned (OpenSpec.ofChange fnMoveInRunWrong)

/- THE SECOND FORM. 'bulk': how many values and letters a reading holds, each counted each time it is reached (what is shared counts as often as it is met; a slice's spare places count too). A statement '..UptoSaid' is the law's where the arguments, and the package variables that the reading takes, are together of bulk at most 1048576: NARROWER than '..Said'. Prove '..Said' where nothing that the law and all that it calls make is longer than what came in: it says more and counts as full. Else prove '..UptoSaid'. A law counts once. -/
mutual
def uptoBulk {H : Type} : DataW H → Nat
  | .lit (.string bytes) => bytes.length + 1
  | .lit _ => 1
  | .nil => 1
  | .ptr d => uptoBulk d + 1
  | .slice elems spare => uptoBulkAll elems + uptoBulkAll spare + 1
  | .agg parts => uptoBulkAll parts + 1
  | .iface _ d => uptoBulk d + 1
  | .map entries => uptoBulkEntries entries + 1
  | .held _ => 1
def uptoBulkAll {H : Type} : List (DataW H) → Nat
  | [] => 0
  | d :: r => uptoBulk d + uptoBulkAll r
def uptoBulkEntries {H : Type} : List (Lit × DataW H) → Nat
  | [] => 0
  | x :: r => uptoBulkEntry x + uptoBulkEntries r
def uptoBulkEntry {H : Type} : Lit × DataW H → Nat
  | (.string bytes, d) => bytes.length + uptoBulk d + 1
  | (_, d) => uptoBulk d + 1
 end
def uptoSmall : (H : Type) → List (DataW H) → Bool := fun _ ds => decide (uptoBulkAll ds ≤ 1048576)
def OpenSpec.upto (s : _root_.Go.ChangeSpec) : _root_.Go.OpenSpec := { _root_.Go.OpenSpec.ofChange s with cond := some uptoSmall }

/-- 'laws.FnMachNoLook', WHERE WHAT IT READS IS OF BULK AT MOST 1048576: true; the input reads as it did. -/
def fnMachNoLookUptoRow : OpenClaim := { program := "ytbjgjjkgfnfejaagreatdoor", sum := "c613759ac03c62ad64d54a4b6e241d9b3f74b18f94fc26b7ef2a18cbac9a345e", func := "loop.example/gemel/laws.FnMachNoLook", spec := "fnMachNoLook", unfollowed := true, recurses := true, named := ["loop.example/gemel/impl.opForms"], apart := false, laid := [("loop.example/gemel/impl.opForms", laid_loop_example_gemel_impl_opForms)], narrowed := true }
def FnMachNoLookUptoSaid : Prop := fnMachNoLookUptoRow.holds Tryz.pinned (OpenSpec.upto fnMachNoLookSpec)

/-- 'laws.FnTwinEnd', WHERE WHAT IT READS IS OF BULK AT MOST 1048576: true; the input reads as it did. -/
def fnTwinEndUptoRow : OpenClaim := { program := "ytbjgjjkgfnfejaagreatdoor", sum := "c613759ac03c62ad64d54a4b6e241d9b3f74b18f94fc26b7ef2a18cbac9a345e", func := "loop.example/gemel/laws.FnTwinEnd", spec := "fnTwinEnd", unfollowed := true, recurses := true, named := ["loop.example/gemel/impl.opForms"], apart := false, laid := [("loop.example/gemel/impl.opForms", laid_loop_example_gemel_impl_opForms)], narrowed := true }
def FnTwinEndUptoSaid : Prop := fnTwinEndUptoRow.holds Tryz.pinned (OpenSpec.upto fnTwinEndSpec)

/-- 'laws.FnTwinRooms', WHERE WHAT IT READS IS OF BULK AT MOST 1048576: true; the input reads as it did. -/
def fnTwinRoomsUptoRow : OpenClaim := { program := "ytbjgjjkgfnfejaagreatdoor", sum := "c613759ac03c62ad64d54a4b6e241d9b3f74b18f94fc26b7ef2a18cbac9a345e", func := "loop.example/gemel/laws.FnTwinRooms", spec := "fnTwinRooms", unfollowed := true, recurses := true, named := ["loop.example/gemel/impl.opForms"], apart := false, laid := [("loop.example/gemel/impl.opForms", laid_loop_example_gemel_impl_opForms)], narrowed := true }
def FnTwinRoomsUptoSaid : Prop := fnTwinRoomsUptoRow.holds Tryz.pinned (OpenSpec.upto fnTwinRoomsSpec)

/-- 'laws.FnTwinSaid', WHERE WHAT IT READS IS OF BULK AT MOST 1048576: true; the input reads as it did. -/
def fnTwinSaidUptoRow : OpenClaim := { program := "ytbjgjjkgfnfejaagreatdoor", sum := "c613759ac03c62ad64d54a4b6e241d9b3f74b18f94fc26b7ef2a18cbac9a345e", func := "loop.example/gemel/laws.FnTwinSaid", spec := "fnTwinSaid", unfollowed := true, recurses := true, named := ["loop.example/gemel/impl.opForms"], apart := false, laid := [("loop.example/gemel/impl.opForms", laid_loop_example_gemel_impl_opForms)], narrowed := true }
def FnTwinSaidUptoSaid : Prop := fnTwinSaidUptoRow.holds Tryz.pinned (OpenSpec.upto fnTwinSaidSpec)

/-- 'laws.FnTwinEach', WHERE WHAT IT READS IS OF BULK AT MOST 1048576: true; the input reads as it did. -/
def fnTwinEachUptoRow : OpenClaim := { program := "ytbjgjjkgfnfejaagreatdoor", sum := "c613759ac03c62ad64d54a4b6e241d9b3f74b18f94fc26b7ef2a18cbac9a345e", func := "loop.example/gemel/laws.FnTwinEach", spec := "fnTwinEach", unfollowed := true, recurses := true, named := ["loop.example/gemel/impl.opForms"], apart := false, laid := [("loop.example/gemel/impl.opForms", laid_loop_example_gemel_impl_opForms)], narrowed := true }
def FnTwinEachUptoSaid : Prop := fnTwinEachUptoRow.holds Tryz.pinned (OpenSpec.upto fnTwinEachSpec)

/-- 'laws.FnTwinFlush', WHERE WHAT IT READS IS OF BULK AT MOST 1048576: true; the input reads as it did. -/
def fnTwinFlushUptoRow : OpenClaim := { program := "ytbjgjjkgfnfejaagreatdoor", sum := "c613759ac03c62ad64d54a4b6e241d9b3f74b18f94fc26b7ef2a18cbac9a345e", func := "loop.example/gemel/laws.FnTwinFlush", spec := "fnTwinFlush", unfollowed := true, recurses := true, named := ["loop.example/gemel/impl.opForms"], apart := false, laid := [("loop.example/gemel/impl.opForms", laid_loop_example_gemel_impl_opForms)], narrowed := true }
def FnTwinFlushUptoSaid : Prop := fnTwinFlushUptoRow.holds Tryz.pinned (OpenSpec.upto fnTwinFlushSpec)

/-- 'laws.FnTwinMove', WHERE WHAT IT READS IS OF BULK AT MOST 1048576: true; the input reads as it did. -/
def fnTwinMoveUptoRow : OpenClaim := { program := "ytbjgjjkgfnfejaagreatdoor", sum := "c613759ac03c62ad64d54a4b6e241d9b3f74b18f94fc26b7ef2a18cbac9a345e", func := "loop.example/gemel/laws.FnTwinMove", spec := "fnTwinMove", unfollowed := true, recurses := true, named := ["loop.example/gemel/impl.opForms"], apart := false, laid := [("loop.example/gemel/impl.opForms", laid_loop_example_gemel_impl_opForms)], narrowed := true }
def FnTwinMoveUptoSaid : Prop := fnTwinMoveUptoRow.holds Tryz.pinned (OpenSpec.upto fnTwinMoveSpec)

/-- 'laws.FnMoveInRun', WHERE WHAT IT READS IS OF BULK AT MOST 1048576: true; the input reads as it did. -/
def fnMoveInRunUptoRow : OpenClaim := { program := "ytbjgjjkgfnfejaagreatdoor", sum := "c613759ac03c62ad64d54a4b6e241d9b3f74b18f94fc26b7ef2a18cbac9a345e", func := "loop.example/gemel/laws.FnMoveInRun", spec := "fnMoveInRun", unfollowed := true, recurses := true, named := ["loop.example/gemel/impl.opForms"], apart := false, laid := [("loop.example/gemel/impl.opForms", laid_loop_example_gemel_impl_opForms)], narrowed := true }
def FnMoveInRunUptoSaid : Prop := fnMoveInRunUptoRow.holds Tryz.pinned (OpenSpec.upto fnMoveInRunSpec)

end Rows
end Go.Proofs.YtbjgjjkgfnfejaaGreatDoor
