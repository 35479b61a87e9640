/-
  NARROWER THAN 'FOR EVERY INPUT', by the rows' own cells (each row's printed sentence says how): FnHeapRunCut: laid · FnHeapRunOk: laid · FnHeapDead: laid · FnHeapBorn: laid · FnHeapSaidFew: laid · FnHeapEnd: laid.
  DERIVED. THE GIVEN ROWS OF THIS SEAT. 6 by the template 'for every input the law returns true; each argument reads behind the call as it read before'; 0 by the template 'total and deterministic' (their statements: YtoipocnagmpdiaaGreatDoorTotals.lean).
  GIVEN WITH THE SEED: the statements are not yours to turn. If you find one false, say at which input.
  Laid BY PROGRAM, IN A SANDBOX (cutbox-rows.mjs): the forced cells as the released guide's own fill.sh prints them over the translation 91be12c437979068… (all of the seat's roots in one cut). By AI agents, Wed Nov 11 2026. No macro, syntax, notation, axiom, sorry.
-/
import Derived.Test.YtoipocnagmpdiaaGreatDoorChecked
import GoSem.Claim
import GoSem.ClaimJoined
import GoSem.ClaimMapViews
import Derived.JoinedTies
import Derived.KernelRfl
namespace Go.Proofs.YtoipocnagmpdiaaGreatDoor
/- THE CELL 'sum', in the pinned program and in every row, IS THE sha256 OF THE DUMP (.gsa) THAT YtoipocnagmpdiaaGreatDoorProg.lean LOADS. Nothing in Lean hashes anything: it is a label: what it is worth is what the hold of that sum in a sandbox is worth. -/
noncomputable def Tryz.pinned : Pinned := { name := "ytoipocnagmpdiaagreatdoor", sum := "91be12c437979068b955e71016ddfdc28790980de2b11c56c26597c9ac96e2f8", checked := Tryz.checked }
namespace Rows
def none {H : Type} : Left H := { results := [], args := [] }

/- WHAT THE LISTED PACKAGE-LEVEL VARIABLES READ AS WHEN THE CALL BEGINS. Each datum BY PROGRAM (the guide's laid-datum.mjs) off the statement by which the dump's own 'gosem.cut.vars' lays the variable. In a bare row this is a premise. The card (YtoipocnagmpdiaaGreatDoorCards.lean) ties it to the program's text. -/
def laid_loop_example_gemel_impl_opForms {H : Type} : DataW H := .agg [.agg [.lit (.string []), .lit (.int .i64 0), .lit (.int .i64 0)], .agg [.lit (.string [110, 117, 109]), .lit (.int .i64 0), .lit (.int .i64 1)], .agg [.lit (.string [116, 101, 109, 112]), .lit (.int .i64 0), .lit (.int .i64 1)], .agg [.lit (.string [115, 101, 116]), .lit (.int .i64 1), .lit (.int .i64 0)], .agg [.lit (.string [100, 114, 111, 112]), .lit (.int .i64 1), .lit (.int .i64 0)], .agg [.lit (.string [97, 100, 100]), .lit (.int .i64 2), .lit (.int .i64 1)], .agg [.lit (.string [115, 97, 109, 101]), .lit (.int .i64 2), .lit (.int .i64 1)], .agg [.lit (.string [106, 117, 109, 112]), .lit (.int .i64 0), .lit (.int .i64 0)], .agg [.lit (.string [122, 101, 114, 111]), .lit (.int .i64 1), .lit (.int .i64 0)], .agg [.lit (.string [99, 97, 108, 108]), .lit (.int .i64 0), .lit (.int .i64 1)], .agg [.lit (.string [114, 101, 116]), .lit (.int .i64 1), .lit (.int .i64 0)], .agg [.lit (.string [104, 101, 114, 101]), .lit (.int .i64 0), .lit (.int .i64 1)], .agg [.lit (.string [115, 101, 110, 100, 101, 114]), .lit (.int .i64 1), .lit (.int .i64 1)], .agg [.lit (.string [112, 101, 101, 107]), .lit (.int .i64 1), .lit (.int .i64 1)], .agg [.lit (.string [112, 111, 107, 101]), .lit (.int .i64 2), .lit (.int .i64 0)], .agg [.lit (.string [98, 97, 99, 107]), .lit (.int .i64 2), .lit (.int .i64 1)], .agg [.lit (.string [115, 97, 121]), .lit (.int .i64 1), .lit (.int .i64 0)], .agg [.lit (.string [100, 101, 97, 100]), .lit (.int .i64 1), .lit (.int .i64 1)], .agg [.lit (.string [119, 104, 101, 114, 101]), .lit (.int .i64 1), .lit (.int .i64 1)]]

/-- 'laws.FnHeapRunCut': WHATEVER THE INPUT: true; the input reads as it did. -/
def fnHeapRunCutSpec : ChangeSpec := { name := "fnHeapRunCut", vars := ["loop.example/gemel/impl.opForms"], fn := fun _ => fun
  | [d1, d2, g1] => { results := [.lit (.bool true)], args := [d1, d2], vars := [g1] }
  | _ => none }
def fnHeapRunCutRow : OpenClaim := { program := "ytoipocnagmpdiaagreatdoor", sum := "91be12c437979068b955e71016ddfdc28790980de2b11c56c26597c9ac96e2f8", func := "loop.example/gemel/laws.FnHeapRunCut", spec := "fnHeapRunCut", unfollowed := true, recurses := true, named := ["loop.example/gemel/impl.opForms"], apart := false, laid := [("loop.example/gemel/impl.opForms", laid_loop_example_gemel_impl_opForms)] }
def FnHeapRunCutSaid : Prop := fnHeapRunCutRow.holds Tryz.pinned (OpenSpec.ofChange fnHeapRunCutSpec)

/-- ITS FALSE NEIGHBOUR: 'it returns false'. Refute it at one input. -/
def fnHeapRunCutWrong : ChangeSpec := { name := "fnHeapRunCut", vars := ["loop.example/gemel/impl.opForms"], fn := fun _ => fun
  | [d1, d2, g1] => { results := [.lit (.bool false)], args := [d1, d2], vars := [g1] }
  | _ => none }
def FnHeapRunCutWrongFalsely : Prop := fnHeapRunCutRow.holds Tryz.pinned (OpenSpec.ofChange fnHeapRunCutWrong)

/-- 'laws.FnHeapRunOk': WHATEVER THE INPUT: true; the input reads as it did. -/
def fnHeapRunOkSpec : ChangeSpec := { name := "fnHeapRunOk", vars := ["loop.example/gemel/impl.opForms"], fn := fun _ => fun
  | [d, g1] => { results := [.lit (.bool true)], args := [d], vars := [g1] }
  | _ => none }
def fnHeapRunOkRow : OpenClaim := { program := "ytoipocnagmpdiaagreatdoor", sum := "91be12c437979068b955e71016ddfdc28790980de2b11c56c26597c9ac96e2f8", func := "loop.example/gemel/laws.FnHeapRunOk", spec := "fnHeapRunOk", unfollowed := true, recurses := true, named := ["loop.example/gemel/impl.opForms"], apart := false, laid := [("loop.example/gemel/impl.opForms", laid_loop_example_gemel_impl_opForms)] }
def FnHeapRunOkSaid : Prop := fnHeapRunOkRow.holds Tryz.pinned (OpenSpec.ofChange fnHeapRunOkSpec)

/-- ITS FALSE NEIGHBOUR: 'it returns false'. Refute it at one input. -/
def fnHeapRunOkWrong : ChangeSpec := { name := "fnHeapRunOk", vars := ["loop.example/gemel/impl.opForms"], fn := fun _ => fun
  | [d, g1] => { results := [.lit (.bool false)], args := [d], vars := [g1] }
  | _ => none }
def FnHeapRunOkWrongFalsely : Prop := fnHeapRunOkRow.holds Tryz.pinned (OpenSpec.ofChange fnHeapRunOkWrong)

/-- 'laws.FnHeapDead': WHATEVER THE INPUT: true; the input reads as it did. -/
def fnHeapDeadSpec : ChangeSpec := { name := "fnHeapDead", vars := ["loop.example/gemel/impl.opForms"], fn := fun _ => fun
  | [d, g1] => { results := [.lit (.bool true)], args := [d], vars := [g1] }
  | _ => none }
def fnHeapDeadRow : OpenClaim := { program := "ytoipocnagmpdiaagreatdoor", sum := "91be12c437979068b955e71016ddfdc28790980de2b11c56c26597c9ac96e2f8", func := "loop.example/gemel/laws.FnHeapDead", spec := "fnHeapDead", unfollowed := true, recurses := true, named := ["loop.example/gemel/impl.opForms"], apart := false, laid := [("loop.example/gemel/impl.opForms", laid_loop_example_gemel_impl_opForms)] }
def FnHeapDeadSaid : Prop := fnHeapDeadRow.holds Tryz.pinned (OpenSpec.ofChange fnHeapDeadSpec)

/-- ITS FALSE NEIGHBOUR: 'it returns false'. Refute it at one input. -/
def fnHeapDeadWrong : ChangeSpec := { name := "fnHeapDead", vars := ["loop.example/gemel/impl.opForms"], fn := fun _ => fun
  | [d, g1] => { results := [.lit (.bool false)], args := [d], vars := [g1] }
  | _ => none }
def FnHeapDeadWrongFalsely : Prop := fnHeapDeadRow.holds Tryz.pinned (OpenSpec.ofChange fnHeapDeadWrong)

/-- 'laws.FnHeapBorn': WHATEVER THE INPUT: true; the input reads as it did. -/
def fnHeapBornSpec : ChangeSpec := { name := "fnHeapBorn", vars := ["loop.example/gemel/impl.opForms"], fn := fun _ => fun
  | [d, g1] => { results := [.lit (.bool true)], args := [d], vars := [g1] }
  | _ => none }
def fnHeapBornRow : OpenClaim := { program := "ytoipocnagmpdiaagreatdoor", sum := "91be12c437979068b955e71016ddfdc28790980de2b11c56c26597c9ac96e2f8", func := "loop.example/gemel/laws.FnHeapBorn", spec := "fnHeapBorn", unfollowed := true, recurses := true, named := ["loop.example/gemel/impl.opForms"], apart := false, laid := [("loop.example/gemel/impl.opForms", laid_loop_example_gemel_impl_opForms)] }
def FnHeapBornSaid : Prop := fnHeapBornRow.holds Tryz.pinned (OpenSpec.ofChange fnHeapBornSpec)

/-- ITS FALSE NEIGHBOUR: 'it returns false'. Refute it at one input. -/
def fnHeapBornWrong : ChangeSpec := { name := "fnHeapBorn", vars := ["loop.example/gemel/impl.opForms"], fn := fun _ => fun
  | [d, g1] => { results := [.lit (.bool false)], args := [d], vars := [g1] }
  | _ => none }
def FnHeapBornWrongFalsely : Prop := fnHeapBornRow.holds Tryz.pinned (OpenSpec.ofChange fnHeapBornWrong)

/-- 'laws.FnHeapSaidFew': WHATEVER THE INPUT: true; the input reads as it did. -/
def fnHeapSaidFewSpec : ChangeSpec := { name := "fnHeapSaidFew", vars := ["loop.example/gemel/impl.opForms"], fn := fun _ => fun
  | [d, g1] => { results := [.lit (.bool true)], args := [d], vars := [g1] }
  | _ => none }
def fnHeapSaidFewRow : OpenClaim := { program := "ytoipocnagmpdiaagreatdoor", sum := "91be12c437979068b955e71016ddfdc28790980de2b11c56c26597c9ac96e2f8", func := "loop.example/gemel/laws.FnHeapSaidFew", spec := "fnHeapSaidFew", unfollowed := true, recurses := true, named := ["loop.example/gemel/impl.opForms"], apart := false, laid := [("loop.example/gemel/impl.opForms", laid_loop_example_gemel_impl_opForms)] }
def FnHeapSaidFewSaid : Prop := fnHeapSaidFewRow.holds Tryz.pinned (OpenSpec.ofChange fnHeapSaidFewSpec)

/-- ITS FALSE NEIGHBOUR: 'it returns false'. Refute it at one input. -/
def fnHeapSaidFewWrong : ChangeSpec := { name := "fnHeapSaidFew", vars := ["loop.example/gemel/impl.opForms"], fn := fun _ => fun
  | [d, g1] => { results := [.lit (.bool false)], args := [d], vars := [g1] }
  | _ => none }
def FnHeapSaidFewWrongFalsely : Prop := fnHeapSaidFewRow.holds Tryz.pinned (OpenSpec.ofChange fnHeapSaidFewWrong)

/-- 'laws.FnHeapEnd': WHATEVER THE INPUT: true; the input reads as it did. -/
def fnHeapEndSpec : ChangeSpec := { name := "fnHeapEnd", vars := ["loop.example/gemel/impl.opForms"], fn := fun _ => fun
  | [d, g1] => { results := [.lit (.bool true)], args := [d], vars := [g1] }
  | _ => none }
def fnHeapEndRow : OpenClaim := { program := "ytoipocnagmpdiaagreatdoor", sum := "91be12c437979068b955e71016ddfdc28790980de2b11c56c26597c9ac96e2f8", func := "loop.example/gemel/laws.FnHeapEnd", spec := "fnHeapEnd", unfollowed := true, recurses := true, named := ["loop.example/gemel/impl.opForms"], apart := false, laid := [("loop.example/gemel/impl.opForms", laid_loop_example_gemel_impl_opForms)] }
def FnHeapEndSaid : Prop := fnHeapEndRow.holds Tryz.pinned (OpenSpec.ofChange fnHeapEndSpec)

/-- ITS FALSE NEIGHBOUR: 'it returns false'. Refute it at one input. -/
def fnHeapEndWrong : ChangeSpec := { name := "fnHeapEnd", vars := ["loop.example/gemel/impl.opForms"], fn := fun _ => fun
  | [d, g1] => { results := [.lit (.bool false)], args := [d], vars := [g1] }
  | _ => none }
def FnHeapEndWrongFalsely : Prop := fnHeapEndRow.holds Tryz.pinned (OpenSpec.ofChange fnHeapEndWrong)

/- THE SECOND FORM. 'bulk': how many values and letters a reading holds, each counted each time it is reached (what is shared counts as often as it is met; a slice's spare places count too). A statement '..UptoSaid' is the law's where the arguments, and the package variables that the reading takes, are together of bulk at most 1048576: NARROWER than '..Said'. Prove '..Said' where nothing that the law and all that it calls make is longer than what came in: it says more and counts as full. Else prove '..UptoSaid'. A law counts once. -/
mutual
def uptoBulk {H : Type} : DataW H → Nat
  | .lit (.string bytes) => bytes.length + 1
  | .lit _ => 1
  | .nil => 1
  | .ptr d => uptoBulk d + 1
  | .slice elems spare => uptoBulkAll elems + uptoBulkAll spare + 1
  | .agg parts => uptoBulkAll parts + 1
  | .iface _ d => uptoBulk d + 1
  | .map entries => uptoBulkEntries entries + 1
  | .held _ => 1
def uptoBulkAll {H : Type} : List (DataW H) → Nat
  | [] => 0
  | d :: r => uptoBulk d + uptoBulkAll r
def uptoBulkEntries {H : Type} : List (Lit × DataW H) → Nat
  | [] => 0
  | x :: r => uptoBulkEntry x + uptoBulkEntries r
def uptoBulkEntry {H : Type} : Lit × DataW H → Nat
  | (.string bytes, d) => bytes.length + uptoBulk d + 1
  | (_, d) => uptoBulk d + 1
 end
def uptoSmall : (H : Type) → List (DataW H) → Bool := fun _ ds => decide (uptoBulkAll ds ≤ 1048576)
def OpenSpec.upto (s : _root_.Go.ChangeSpec) : _root_.Go.OpenSpec := { _root_.Go.OpenSpec.ofChange s with cond := some uptoSmall }

/-- 'laws.FnHeapRunCut', WHERE WHAT IT READS IS OF BULK AT MOST 1048576: true; the input reads as it did. -/
def fnHeapRunCutUptoRow : OpenClaim := { program := "ytoipocnagmpdiaagreatdoor", sum := "91be12c437979068b955e71016ddfdc28790980de2b11c56c26597c9ac96e2f8", func := "loop.example/gemel/laws.FnHeapRunCut", spec := "fnHeapRunCut", unfollowed := true, recurses := true, named := ["loop.example/gemel/impl.opForms"], apart := false, laid := [("loop.example/gemel/impl.opForms", laid_loop_example_gemel_impl_opForms)], narrowed := true }
def FnHeapRunCutUptoSaid : Prop := fnHeapRunCutUptoRow.holds Tryz.pinned (OpenSpec.upto fnHeapRunCutSpec)

/-- 'laws.FnHeapRunOk', WHERE WHAT IT READS IS OF BULK AT MOST 1048576: true; the input reads as it did. -/
def fnHeapRunOkUptoRow : OpenClaim := { program := "ytoipocnagmpdiaagreatdoor", sum := "91be12c437979068b955e71016ddfdc28790980de2b11c56c26597c9ac96e2f8", func := "loop.example/gemel/laws.FnHeapRunOk", spec := "fnHeapRunOk", unfollowed := true, recurses := true, named := ["loop.example/gemel/impl.opForms"], apart := false, laid := [("loop.example/gemel/impl.opForms", laid_loop_example_gemel_impl_opForms)], narrowed := true }
def FnHeapRunOkUptoSaid : Prop := fnHeapRunOkUptoRow.holds Tryz.pinned (OpenSpec.upto fnHeapRunOkSpec)

/-- 'laws.FnHeapDead', WHERE WHAT IT READS IS OF BULK AT MOST 1048576: true; the input reads as it did. -/
def fnHeapDeadUptoRow : OpenClaim := { program := "ytoipocnagmpdiaagreatdoor", sum := "91be12c437979068b955e71016ddfdc28790980de2b11c56c26597c9ac96e2f8", func := "loop.example/gemel/laws.FnHeapDead", spec := "fnHeapDead", unfollowed := true, recurses := true, named := ["loop.example/gemel/impl.opForms"], apart := false, laid := [("loop.example/gemel/impl.opForms", laid_loop_example_gemel_impl_opForms)], narrowed := true }
def FnHeapDeadUptoSaid : Prop := fnHeapDeadUptoRow.holds Tryz.pinned (OpenSpec.upto fnHeapDeadSpec)

/-- 'laws.FnHeapBorn', WHERE WHAT IT READS IS OF BULK AT MOST 1048576: true; the input reads as it did. -/
def fnHeapBornUptoRow : OpenClaim := { program := "ytoipocnagmpdiaagreatdoor", sum := "91be12c437979068b955e71016ddfdc28790980de2b11c56c26597c9ac96e2f8", func := "loop.example/gemel/laws.FnHeapBorn", spec := "fnHeapBorn", unfollowed := true, recurses := true, named := ["loop.example/gemel/impl.opForms"], apart := false, laid := [("loop.example/gemel/impl.opForms", laid_loop_example_gemel_impl_opForms)], narrowed := true }
def FnHeapBornUptoSaid : Prop := fnHeapBornUptoRow.holds Tryz.pinned (OpenSpec.upto fnHeapBornSpec)

/-- 'laws.FnHeapSaidFew', WHERE WHAT IT READS IS OF BULK AT MOST 1048576: true; the input reads as it did. -/
def fnHeapSaidFewUptoRow : OpenClaim := { program := "ytoipocnagmpdiaagreatdoor", sum := "91be12c437979068b955e71016ddfdc28790980de2b11c56c26597c9ac96e2f8", func := "loop.example/gemel/laws.FnHeapSaidFew", spec := "fnHeapSaidFew", unfollowed := true, recurses := true, named := ["loop.example/gemel/impl.opForms"], apart := false, laid := [("loop.example/gemel/impl.opForms", laid_loop_example_gemel_impl_opForms)], narrowed := true }
def FnHeapSaidFewUptoSaid : Prop := fnHeapSaidFewUptoRow.holds Tryz.pinned (OpenSpec.upto fnHeapSaidFewSpec)

/-- 'laws.FnHeapEnd', WHERE WHAT IT READS IS OF BULK AT MOST 1048576: true; the input reads as it did. -/
def fnHeapEndUptoRow : OpenClaim := { program := "ytoipocnagmpdiaagreatdoor", sum := "91be12c437979068b955e71016ddfdc28790980de2b11c56c26597c9ac96e2f8", func := "loop.example/gemel/laws.FnHeapEnd", spec := "fnHeapEnd", unfollowed := true, recurses := true, named := ["loop.example/gemel/impl.opForms"], apart := false, laid := [("loop.example/gemel/impl.opForms", laid_loop_example_gemel_impl_opForms)], narrowed := true }
def FnHeapEndUptoSaid : Prop := fnHeapEndUptoRow.holds Tryz.pinned (OpenSpec.upto fnHeapEndSpec)

end Rows
end Go.Proofs.YtoipocnagmpdiaaGreatDoor
