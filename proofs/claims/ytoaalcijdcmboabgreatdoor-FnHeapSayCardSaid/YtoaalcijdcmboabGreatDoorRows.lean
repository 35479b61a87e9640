/-
  NARROWER THAN 'FOR EVERY INPUT', by the rows' own cells (each row's printed sentence says how): FnHeapAddStuck: laid · FnHeapSame: laid · FnHeapJump: laid · FnHeapZero: laid · FnHeapCall: laid · FnHeapRet: laid · FnHeapHere: laid · FnHeapSender: laid · FnHeapPeek: laid · FnHeapPoke: laid · FnHeapBack: laid · FnHeapSay: laid.
  DERIVED. THE GIVEN ROWS OF THIS SEAT. 12 by the template 'for every input the law returns true; each argument reads behind the call as it read before'; 0 by the template 'total and deterministic' (their statements: YtoaalcijdcmboabGreatDoorTotals.lean).
  GIVEN WITH THE SEED: the statements are not yours to turn. If you find one false, say at which input.
  Laid BY PROGRAM, IN A SANDBOX (cutbox-rows.mjs): the forced cells as the released guide's own fill.sh prints them over the translation 18ebb7cab01f15d7… (all of the seat's roots in one cut). By AI agents, Wed Nov 11 2026. No macro, syntax, notation, axiom, sorry.
-/
import Derived.Test.YtoaalcijdcmboabGreatDoorChecked
import GoSem.Claim
import GoSem.ClaimJoined
import GoSem.ClaimMapViews
import Derived.JoinedTies
import Derived.KernelRfl
namespace Go.Proofs.YtoaalcijdcmboabGreatDoor
/- THE CELL 'sum', in the pinned program and in every row, IS THE sha256 OF THE DUMP (.gsa) THAT YtoaalcijdcmboabGreatDoorProg.lean LOADS. Nothing in Lean hashes anything: it is a label: what it is worth is what the hold of that sum in a sandbox is worth. -/
noncomputable def Tryz.pinned : Pinned := { name := "ytoaalcijdcmboabgreatdoor", sum := "18ebb7cab01f15d7a0861e36fc14529c3a68faa366cb8c4a9e5a96fcc54cc393", checked := Tryz.checked }
namespace Rows
def none {H : Type} : Left H := { results := [], args := [] }

/- WHAT THE LISTED PACKAGE-LEVEL VARIABLES READ AS WHEN THE CALL BEGINS. Each datum BY PROGRAM (the guide's laid-datum.mjs) off the statement by which the dump's own 'gosem.cut.vars' lays the variable. In a bare row this is a premise. The card (YtoaalcijdcmboabGreatDoorCards.lean) ties it to the program's text. -/
def laid_loop_example_gemel_impl_opForms {H : Type} : DataW H := .agg [.agg [.lit (.string []), .lit (.int .i64 0), .lit (.int .i64 0)], .agg [.lit (.string [110, 117, 109]), .lit (.int .i64 0), .lit (.int .i64 1)], .agg [.lit (.string [116, 101, 109, 112]), .lit (.int .i64 0), .lit (.int .i64 1)], .agg [.lit (.string [115, 101, 116]), .lit (.int .i64 1), .lit (.int .i64 0)], .agg [.lit (.string [100, 114, 111, 112]), .lit (.int .i64 1), .lit (.int .i64 0)], .agg [.lit (.string [97, 100, 100]), .lit (.int .i64 2), .lit (.int .i64 1)], .agg [.lit (.string [115, 97, 109, 101]), .lit (.int .i64 2), .lit (.int .i64 1)], .agg [.lit (.string [106, 117, 109, 112]), .lit (.int .i64 0), .lit (.int .i64 0)], .agg [.lit (.string [122, 101, 114, 111]), .lit (.int .i64 1), .lit (.int .i64 0)], .agg [.lit (.string [99, 97, 108, 108]), .lit (.int .i64 0), .lit (.int .i64 1)], .agg [.lit (.string [114, 101, 116]), .lit (.int .i64 1), .lit (.int .i64 0)], .agg [.lit (.string [104, 101, 114, 101]), .lit (.int .i64 0), .lit (.int .i64 1)], .agg [.lit (.string [115, 101, 110, 100, 101, 114]), .lit (.int .i64 1), .lit (.int .i64 1)], .agg [.lit (.string [112, 101, 101, 107]), .lit (.int .i64 1), .lit (.int .i64 1)], .agg [.lit (.string [112, 111, 107, 101]), .lit (.int .i64 2), .lit (.int .i64 0)], .agg [.lit (.string [98, 97, 99, 107]), .lit (.int .i64 2), .lit (.int .i64 1)], .agg [.lit (.string [115, 97, 121]), .lit (.int .i64 1), .lit (.int .i64 0)], .agg [.lit (.string [100, 101, 97, 100]), .lit (.int .i64 1), .lit (.int .i64 1)], .agg [.lit (.string [119, 104, 101, 114, 101]), .lit (.int .i64 1), .lit (.int .i64 1)]]

/-- 'laws.FnHeapAddStuck': WHATEVER THE INPUT: true; the input reads as it did. -/
def fnHeapAddStuckSpec : ChangeSpec := { name := "fnHeapAddStuck", vars := ["loop.example/gemel/impl.opForms"], fn := fun _ => fun
  | [d, g1] => { results := [.lit (.bool true)], args := [d], vars := [g1] }
  | _ => none }
def fnHeapAddStuckRow : OpenClaim := { program := "ytoaalcijdcmboabgreatdoor", sum := "18ebb7cab01f15d7a0861e36fc14529c3a68faa366cb8c4a9e5a96fcc54cc393", func := "loop.example/gemel/laws.FnHeapAddStuck", spec := "fnHeapAddStuck", unfollowed := true, recurses := true, named := ["loop.example/gemel/impl.opForms"], apart := false, laid := [("loop.example/gemel/impl.opForms", laid_loop_example_gemel_impl_opForms)] }
def FnHeapAddStuckSaid : Prop := fnHeapAddStuckRow.holds Tryz.pinned (OpenSpec.ofChange fnHeapAddStuckSpec)

/-- ITS FALSE NEIGHBOUR: 'it returns false'. Refute it at one input. -/
def fnHeapAddStuckWrong : ChangeSpec := { name := "fnHeapAddStuck", vars := ["loop.example/gemel/impl.opForms"], fn := fun _ => fun
  | [d, g1] => { results := [.lit (.bool false)], args := [d], vars := [g1] }
  | _ => none }
def FnHeapAddStuckWrongFalsely : Prop := fnHeapAddStuckRow.holds Tryz.pinned (OpenSpec.ofChange fnHeapAddStuckWrong)

/-- 'laws.FnHeapSame': WHATEVER THE INPUT: true; the input reads as it did. -/
def fnHeapSameSpec : ChangeSpec := { name := "fnHeapSame", vars := ["loop.example/gemel/impl.opForms"], fn := fun _ => fun
  | [d1, d2, g1] => { results := [.lit (.bool true)], args := [d1, d2], vars := [g1] }
  | _ => none }
def fnHeapSameRow : OpenClaim := { program := "ytoaalcijdcmboabgreatdoor", sum := "18ebb7cab01f15d7a0861e36fc14529c3a68faa366cb8c4a9e5a96fcc54cc393", func := "loop.example/gemel/laws.FnHeapSame", spec := "fnHeapSame", unfollowed := true, recurses := true, named := ["loop.example/gemel/impl.opForms"], apart := false, laid := [("loop.example/gemel/impl.opForms", laid_loop_example_gemel_impl_opForms)] }
def FnHeapSameSaid : Prop := fnHeapSameRow.holds Tryz.pinned (OpenSpec.ofChange fnHeapSameSpec)

/-- ITS FALSE NEIGHBOUR: 'it returns false'. Refute it at one input. -/
def fnHeapSameWrong : ChangeSpec := { name := "fnHeapSame", vars := ["loop.example/gemel/impl.opForms"], fn := fun _ => fun
  | [d1, d2, g1] => { results := [.lit (.bool false)], args := [d1, d2], vars := [g1] }
  | _ => none }
def FnHeapSameWrongFalsely : Prop := fnHeapSameRow.holds Tryz.pinned (OpenSpec.ofChange fnHeapSameWrong)

/-- 'laws.FnHeapJump': WHATEVER THE INPUT: true; the input reads as it did. -/
def fnHeapJumpSpec : ChangeSpec := { name := "fnHeapJump", vars := ["loop.example/gemel/impl.opForms"], fn := fun _ => fun
  | [d1, d2, g1] => { results := [.lit (.bool true)], args := [d1, d2], vars := [g1] }
  | _ => none }
def fnHeapJumpRow : OpenClaim := { program := "ytoaalcijdcmboabgreatdoor", sum := "18ebb7cab01f15d7a0861e36fc14529c3a68faa366cb8c4a9e5a96fcc54cc393", func := "loop.example/gemel/laws.FnHeapJump", spec := "fnHeapJump", unfollowed := true, recurses := true, named := ["loop.example/gemel/impl.opForms"], apart := false, laid := [("loop.example/gemel/impl.opForms", laid_loop_example_gemel_impl_opForms)] }
def FnHeapJumpSaid : Prop := fnHeapJumpRow.holds Tryz.pinned (OpenSpec.ofChange fnHeapJumpSpec)

/-- ITS FALSE NEIGHBOUR: 'it returns false'. Refute it at one input. -/
def fnHeapJumpWrong : ChangeSpec := { name := "fnHeapJump", vars := ["loop.example/gemel/impl.opForms"], fn := fun _ => fun
  | [d1, d2, g1] => { results := [.lit (.bool false)], args := [d1, d2], vars := [g1] }
  | _ => none }
def FnHeapJumpWrongFalsely : Prop := fnHeapJumpRow.holds Tryz.pinned (OpenSpec.ofChange fnHeapJumpWrong)

/-- 'laws.FnHeapZero': WHATEVER THE INPUT: true; the input reads as it did. -/
def fnHeapZeroSpec : ChangeSpec := { name := "fnHeapZero", vars := ["loop.example/gemel/impl.opForms"], fn := fun _ => fun
  | [d1, d2, g1] => { results := [.lit (.bool true)], args := [d1, d2], vars := [g1] }
  | _ => none }
def fnHeapZeroRow : OpenClaim := { program := "ytoaalcijdcmboabgreatdoor", sum := "18ebb7cab01f15d7a0861e36fc14529c3a68faa366cb8c4a9e5a96fcc54cc393", func := "loop.example/gemel/laws.FnHeapZero", spec := "fnHeapZero", unfollowed := true, recurses := true, named := ["loop.example/gemel/impl.opForms"], apart := false, laid := [("loop.example/gemel/impl.opForms", laid_loop_example_gemel_impl_opForms)] }
def FnHeapZeroSaid : Prop := fnHeapZeroRow.holds Tryz.pinned (OpenSpec.ofChange fnHeapZeroSpec)

/-- ITS FALSE NEIGHBOUR: 'it returns false'. Refute it at one input. -/
def fnHeapZeroWrong : ChangeSpec := { name := "fnHeapZero", vars := ["loop.example/gemel/impl.opForms"], fn := fun _ => fun
  | [d1, d2, g1] => { results := [.lit (.bool false)], args := [d1, d2], vars := [g1] }
  | _ => none }
def FnHeapZeroWrongFalsely : Prop := fnHeapZeroRow.holds Tryz.pinned (OpenSpec.ofChange fnHeapZeroWrong)

/-- 'laws.FnHeapCall': WHATEVER THE INPUT: true; the input reads as it did. -/
def fnHeapCallSpec : ChangeSpec := { name := "fnHeapCall", vars := ["loop.example/gemel/impl.opForms"], fn := fun _ => fun
  | [d1, d2, g1] => { results := [.lit (.bool true)], args := [d1, d2], vars := [g1] }
  | _ => none }
def fnHeapCallRow : OpenClaim := { program := "ytoaalcijdcmboabgreatdoor", sum := "18ebb7cab01f15d7a0861e36fc14529c3a68faa366cb8c4a9e5a96fcc54cc393", func := "loop.example/gemel/laws.FnHeapCall", spec := "fnHeapCall", unfollowed := true, recurses := true, named := ["loop.example/gemel/impl.opForms"], apart := false, laid := [("loop.example/gemel/impl.opForms", laid_loop_example_gemel_impl_opForms)] }
def FnHeapCallSaid : Prop := fnHeapCallRow.holds Tryz.pinned (OpenSpec.ofChange fnHeapCallSpec)

/-- ITS FALSE NEIGHBOUR: 'it returns false'. Refute it at one input. -/
def fnHeapCallWrong : ChangeSpec := { name := "fnHeapCall", vars := ["loop.example/gemel/impl.opForms"], fn := fun _ => fun
  | [d1, d2, g1] => { results := [.lit (.bool false)], args := [d1, d2], vars := [g1] }
  | _ => none }
def FnHeapCallWrongFalsely : Prop := fnHeapCallRow.holds Tryz.pinned (OpenSpec.ofChange fnHeapCallWrong)

/-- 'laws.FnHeapRet': WHATEVER THE INPUT: true; the input reads as it did. -/
def fnHeapRetSpec : ChangeSpec := { name := "fnHeapRet", vars := ["loop.example/gemel/impl.opForms"], fn := fun _ => fun
  | [d1, d2, g1] => { results := [.lit (.bool true)], args := [d1, d2], vars := [g1] }
  | _ => none }
def fnHeapRetRow : OpenClaim := { program := "ytoaalcijdcmboabgreatdoor", sum := "18ebb7cab01f15d7a0861e36fc14529c3a68faa366cb8c4a9e5a96fcc54cc393", func := "loop.example/gemel/laws.FnHeapRet", spec := "fnHeapRet", unfollowed := true, recurses := true, named := ["loop.example/gemel/impl.opForms"], apart := false, laid := [("loop.example/gemel/impl.opForms", laid_loop_example_gemel_impl_opForms)] }
def FnHeapRetSaid : Prop := fnHeapRetRow.holds Tryz.pinned (OpenSpec.ofChange fnHeapRetSpec)

/-- ITS FALSE NEIGHBOUR: 'it returns false'. Refute it at one input. -/
def fnHeapRetWrong : ChangeSpec := { name := "fnHeapRet", vars := ["loop.example/gemel/impl.opForms"], fn := fun _ => fun
  | [d1, d2, g1] => { results := [.lit (.bool false)], args := [d1, d2], vars := [g1] }
  | _ => none }
def FnHeapRetWrongFalsely : Prop := fnHeapRetRow.holds Tryz.pinned (OpenSpec.ofChange fnHeapRetWrong)

/-- 'laws.FnHeapHere': WHATEVER THE INPUT: true; the input reads as it did. -/
def fnHeapHereSpec : ChangeSpec := { name := "fnHeapHere", vars := ["loop.example/gemel/impl.opForms"], fn := fun _ => fun
  | [d, g1] => { results := [.lit (.bool true)], args := [d], vars := [g1] }
  | _ => none }
def fnHeapHereRow : OpenClaim := { program := "ytoaalcijdcmboabgreatdoor", sum := "18ebb7cab01f15d7a0861e36fc14529c3a68faa366cb8c4a9e5a96fcc54cc393", func := "loop.example/gemel/laws.FnHeapHere", spec := "fnHeapHere", unfollowed := true, recurses := true, named := ["loop.example/gemel/impl.opForms"], apart := false, laid := [("loop.example/gemel/impl.opForms", laid_loop_example_gemel_impl_opForms)] }
def FnHeapHereSaid : Prop := fnHeapHereRow.holds Tryz.pinned (OpenSpec.ofChange fnHeapHereSpec)

/-- ITS FALSE NEIGHBOUR: 'it returns false'. Refute it at one input. -/
def fnHeapHereWrong : ChangeSpec := { name := "fnHeapHere", vars := ["loop.example/gemel/impl.opForms"], fn := fun _ => fun
  | [d, g1] => { results := [.lit (.bool false)], args := [d], vars := [g1] }
  | _ => none }
def FnHeapHereWrongFalsely : Prop := fnHeapHereRow.holds Tryz.pinned (OpenSpec.ofChange fnHeapHereWrong)

/-- 'laws.FnHeapSender': WHATEVER THE INPUT: true; the input reads as it did. -/
def fnHeapSenderSpec : ChangeSpec := { name := "fnHeapSender", vars := ["loop.example/gemel/impl.opForms"], fn := fun _ => fun
  | [d1, d2, g1] => { results := [.lit (.bool true)], args := [d1, d2], vars := [g1] }
  | _ => none }
def fnHeapSenderRow : OpenClaim := { program := "ytoaalcijdcmboabgreatdoor", sum := "18ebb7cab01f15d7a0861e36fc14529c3a68faa366cb8c4a9e5a96fcc54cc393", func := "loop.example/gemel/laws.FnHeapSender", spec := "fnHeapSender", unfollowed := true, recurses := true, named := ["loop.example/gemel/impl.opForms"], apart := false, laid := [("loop.example/gemel/impl.opForms", laid_loop_example_gemel_impl_opForms)] }
def FnHeapSenderSaid : Prop := fnHeapSenderRow.holds Tryz.pinned (OpenSpec.ofChange fnHeapSenderSpec)

/-- ITS FALSE NEIGHBOUR: 'it returns false'. Refute it at one input. -/
def fnHeapSenderWrong : ChangeSpec := { name := "fnHeapSender", vars := ["loop.example/gemel/impl.opForms"], fn := fun _ => fun
  | [d1, d2, g1] => { results := [.lit (.bool false)], args := [d1, d2], vars := [g1] }
  | _ => none }
def FnHeapSenderWrongFalsely : Prop := fnHeapSenderRow.holds Tryz.pinned (OpenSpec.ofChange fnHeapSenderWrong)

/-- 'laws.FnHeapPeek': WHATEVER THE INPUT: true; the input reads as it did. -/
def fnHeapPeekSpec : ChangeSpec := { name := "fnHeapPeek", vars := ["loop.example/gemel/impl.opForms"], fn := fun _ => fun
  | [d1, d2, g1] => { results := [.lit (.bool true)], args := [d1, d2], vars := [g1] }
  | _ => none }
def fnHeapPeekRow : OpenClaim := { program := "ytoaalcijdcmboabgreatdoor", sum := "18ebb7cab01f15d7a0861e36fc14529c3a68faa366cb8c4a9e5a96fcc54cc393", func := "loop.example/gemel/laws.FnHeapPeek", spec := "fnHeapPeek", unfollowed := true, recurses := true, named := ["loop.example/gemel/impl.opForms"], apart := false, laid := [("loop.example/gemel/impl.opForms", laid_loop_example_gemel_impl_opForms)] }
def FnHeapPeekSaid : Prop := fnHeapPeekRow.holds Tryz.pinned (OpenSpec.ofChange fnHeapPeekSpec)

/-- ITS FALSE NEIGHBOUR: 'it returns false'. Refute it at one input. -/
def fnHeapPeekWrong : ChangeSpec := { name := "fnHeapPeek", vars := ["loop.example/gemel/impl.opForms"], fn := fun _ => fun
  | [d1, d2, g1] => { results := [.lit (.bool false)], args := [d1, d2], vars := [g1] }
  | _ => none }
def FnHeapPeekWrongFalsely : Prop := fnHeapPeekRow.holds Tryz.pinned (OpenSpec.ofChange fnHeapPeekWrong)

/-- 'laws.FnHeapPoke': WHATEVER THE INPUT: true; the input reads as it did. -/
def fnHeapPokeSpec : ChangeSpec := { name := "fnHeapPoke", vars := ["loop.example/gemel/impl.opForms"], fn := fun _ => fun
  | [d1, d2, g1] => { results := [.lit (.bool true)], args := [d1, d2], vars := [g1] }
  | _ => none }
def fnHeapPokeRow : OpenClaim := { program := "ytoaalcijdcmboabgreatdoor", sum := "18ebb7cab01f15d7a0861e36fc14529c3a68faa366cb8c4a9e5a96fcc54cc393", func := "loop.example/gemel/laws.FnHeapPoke", spec := "fnHeapPoke", unfollowed := true, recurses := true, named := ["loop.example/gemel/impl.opForms"], apart := false, laid := [("loop.example/gemel/impl.opForms", laid_loop_example_gemel_impl_opForms)] }
def FnHeapPokeSaid : Prop := fnHeapPokeRow.holds Tryz.pinned (OpenSpec.ofChange fnHeapPokeSpec)

/-- ITS FALSE NEIGHBOUR: 'it returns false'. Refute it at one input. -/
def fnHeapPokeWrong : ChangeSpec := { name := "fnHeapPoke", vars := ["loop.example/gemel/impl.opForms"], fn := fun _ => fun
  | [d1, d2, g1] => { results := [.lit (.bool false)], args := [d1, d2], vars := [g1] }
  | _ => none }
def FnHeapPokeWrongFalsely : Prop := fnHeapPokeRow.holds Tryz.pinned (OpenSpec.ofChange fnHeapPokeWrong)

/-- 'laws.FnHeapBack': WHATEVER THE INPUT: true; the input reads as it did. -/
def fnHeapBackSpec : ChangeSpec := { name := "fnHeapBack", vars := ["loop.example/gemel/impl.opForms"], fn := fun _ => fun
  | [d1, d2, g1] => { results := [.lit (.bool true)], args := [d1, d2], vars := [g1] }
  | _ => none }
def fnHeapBackRow : OpenClaim := { program := "ytoaalcijdcmboabgreatdoor", sum := "18ebb7cab01f15d7a0861e36fc14529c3a68faa366cb8c4a9e5a96fcc54cc393", func := "loop.example/gemel/laws.FnHeapBack", spec := "fnHeapBack", unfollowed := true, recurses := true, named := ["loop.example/gemel/impl.opForms"], apart := false, laid := [("loop.example/gemel/impl.opForms", laid_loop_example_gemel_impl_opForms)] }
def FnHeapBackSaid : Prop := fnHeapBackRow.holds Tryz.pinned (OpenSpec.ofChange fnHeapBackSpec)

/-- ITS FALSE NEIGHBOUR: 'it returns false'. Refute it at one input. -/
def fnHeapBackWrong : ChangeSpec := { name := "fnHeapBack", vars := ["loop.example/gemel/impl.opForms"], fn := fun _ => fun
  | [d1, d2, g1] => { results := [.lit (.bool false)], args := [d1, d2], vars := [g1] }
  | _ => none }
def FnHeapBackWrongFalsely : Prop := fnHeapBackRow.holds Tryz.pinned (OpenSpec.ofChange fnHeapBackWrong)

/-- 'laws.FnHeapSay': WHATEVER THE INPUT: true; the input reads as it did. -/
def fnHeapSaySpec : ChangeSpec := { name := "fnHeapSay", vars := ["loop.example/gemel/impl.opForms"], fn := fun _ => fun
  | [d1, d2, g1] => { results := [.lit (.bool true)], args := [d1, d2], vars := [g1] }
  | _ => none }
def fnHeapSayRow : OpenClaim := { program := "ytoaalcijdcmboabgreatdoor", sum := "18ebb7cab01f15d7a0861e36fc14529c3a68faa366cb8c4a9e5a96fcc54cc393", func := "loop.example/gemel/laws.FnHeapSay", spec := "fnHeapSay", unfollowed := true, recurses := true, named := ["loop.example/gemel/impl.opForms"], apart := false, laid := [("loop.example/gemel/impl.opForms", laid_loop_example_gemel_impl_opForms)] }
def FnHeapSaySaid : Prop := fnHeapSayRow.holds Tryz.pinned (OpenSpec.ofChange fnHeapSaySpec)

/-- ITS FALSE NEIGHBOUR: 'it returns false'. Refute it at one input. -/
def fnHeapSayWrong : ChangeSpec := { name := "fnHeapSay", vars := ["loop.example/gemel/impl.opForms"], fn := fun _ => fun
  | [d1, d2, g1] => { results := [.lit (.bool false)], args := [d1, d2], vars := [g1] }
  | _ => none }
def FnHeapSayWrongFalsely : Prop := fnHeapSayRow.holds Tryz.pinned (OpenSpec.ofChange fnHeapSayWrong)

/- THE SECOND FORM. 'bulk': how many values and letters a reading holds, each counted each time it is reached (what is shared counts as often as it is met; a slice's spare places count too). A statement '..UptoSaid' is the law's where the arguments, and the package variables that the reading takes, are together of bulk at most 1048576: NARROWER than '..Said'. Prove '..Said' where nothing that the law and all that it calls make is longer than what came in: it says more and counts as full. Else prove '..UptoSaid'. A law counts once. -/
mutual
def uptoBulk {H : Type} : DataW H → Nat
  | .lit (.string bytes) => bytes.length + 1
  | .lit _ => 1
  | .nil => 1
  | .ptr d => uptoBulk d + 1
  | .slice elems spare => uptoBulkAll elems + uptoBulkAll spare + 1
  | .agg parts => uptoBulkAll parts + 1
  | .iface _ d => uptoBulk d + 1
  | .map entries => uptoBulkEntries entries + 1
  | .held _ => 1
def uptoBulkAll {H : Type} : List (DataW H) → Nat
  | [] => 0
  | d :: r => uptoBulk d + uptoBulkAll r
def uptoBulkEntries {H : Type} : List (Lit × DataW H) → Nat
  | [] => 0
  | x :: r => uptoBulkEntry x + uptoBulkEntries r
def uptoBulkEntry {H : Type} : Lit × DataW H → Nat
  | (.string bytes, d) => bytes.length + uptoBulk d + 1
  | (_, d) => uptoBulk d + 1
 end
def uptoSmall : (H : Type) → List (DataW H) → Bool := fun _ ds => decide (uptoBulkAll ds ≤ 1048576)
def OpenSpec.upto (s : _root_.Go.ChangeSpec) : _root_.Go.OpenSpec := { _root_.Go.OpenSpec.ofChange s with cond := some uptoSmall }

/-- 'laws.FnHeapAddStuck', WHERE WHAT IT READS IS OF BULK AT MOST 1048576: true; the input reads as it did. -/
def fnHeapAddStuckUptoRow : OpenClaim := { program := "ytoaalcijdcmboabgreatdoor", sum := "18ebb7cab01f15d7a0861e36fc14529c3a68faa366cb8c4a9e5a96fcc54cc393", func := "loop.example/gemel/laws.FnHeapAddStuck", spec := "fnHeapAddStuck", unfollowed := true, recurses := true, named := ["loop.example/gemel/impl.opForms"], apart := false, laid := [("loop.example/gemel/impl.opForms", laid_loop_example_gemel_impl_opForms)], narrowed := true }
def FnHeapAddStuckUptoSaid : Prop := fnHeapAddStuckUptoRow.holds Tryz.pinned (OpenSpec.upto fnHeapAddStuckSpec)

/-- 'laws.FnHeapSame', WHERE WHAT IT READS IS OF BULK AT MOST 1048576: true; the input reads as it did. -/
def fnHeapSameUptoRow : OpenClaim := { program := "ytoaalcijdcmboabgreatdoor", sum := "18ebb7cab01f15d7a0861e36fc14529c3a68faa366cb8c4a9e5a96fcc54cc393", func := "loop.example/gemel/laws.FnHeapSame", spec := "fnHeapSame", unfollowed := true, recurses := true, named := ["loop.example/gemel/impl.opForms"], apart := false, laid := [("loop.example/gemel/impl.opForms", laid_loop_example_gemel_impl_opForms)], narrowed := true }
def FnHeapSameUptoSaid : Prop := fnHeapSameUptoRow.holds Tryz.pinned (OpenSpec.upto fnHeapSameSpec)

/-- 'laws.FnHeapJump', WHERE WHAT IT READS IS OF BULK AT MOST 1048576: true; the input reads as it did. -/
def fnHeapJumpUptoRow : OpenClaim := { program := "ytoaalcijdcmboabgreatdoor", sum := "18ebb7cab01f15d7a0861e36fc14529c3a68faa366cb8c4a9e5a96fcc54cc393", func := "loop.example/gemel/laws.FnHeapJump", spec := "fnHeapJump", unfollowed := true, recurses := true, named := ["loop.example/gemel/impl.opForms"], apart := false, laid := [("loop.example/gemel/impl.opForms", laid_loop_example_gemel_impl_opForms)], narrowed := true }
def FnHeapJumpUptoSaid : Prop := fnHeapJumpUptoRow.holds Tryz.pinned (OpenSpec.upto fnHeapJumpSpec)

/-- 'laws.FnHeapZero', WHERE WHAT IT READS IS OF BULK AT MOST 1048576: true; the input reads as it did. -/
def fnHeapZeroUptoRow : OpenClaim := { program := "ytoaalcijdcmboabgreatdoor", sum := "18ebb7cab01f15d7a0861e36fc14529c3a68faa366cb8c4a9e5a96fcc54cc393", func := "loop.example/gemel/laws.FnHeapZero", spec := "fnHeapZero", unfollowed := true, recurses := true, named := ["loop.example/gemel/impl.opForms"], apart := false, laid := [("loop.example/gemel/impl.opForms", laid_loop_example_gemel_impl_opForms)], narrowed := true }
def FnHeapZeroUptoSaid : Prop := fnHeapZeroUptoRow.holds Tryz.pinned (OpenSpec.upto fnHeapZeroSpec)

/-- 'laws.FnHeapCall', WHERE WHAT IT READS IS OF BULK AT MOST 1048576: true; the input reads as it did. -/
def fnHeapCallUptoRow : OpenClaim := { program := "ytoaalcijdcmboabgreatdoor", sum := "18ebb7cab01f15d7a0861e36fc14529c3a68faa366cb8c4a9e5a96fcc54cc393", func := "loop.example/gemel/laws.FnHeapCall", spec := "fnHeapCall", unfollowed := true, recurses := true, named := ["loop.example/gemel/impl.opForms"], apart := false, laid := [("loop.example/gemel/impl.opForms", laid_loop_example_gemel_impl_opForms)], narrowed := true }
def FnHeapCallUptoSaid : Prop := fnHeapCallUptoRow.holds Tryz.pinned (OpenSpec.upto fnHeapCallSpec)

/-- 'laws.FnHeapRet', WHERE WHAT IT READS IS OF BULK AT MOST 1048576: true; the input reads as it did. -/
def fnHeapRetUptoRow : OpenClaim := { program := "ytoaalcijdcmboabgreatdoor", sum := "18ebb7cab01f15d7a0861e36fc14529c3a68faa366cb8c4a9e5a96fcc54cc393", func := "loop.example/gemel/laws.FnHeapRet", spec := "fnHeapRet", unfollowed := true, recurses := true, named := ["loop.example/gemel/impl.opForms"], apart := false, laid := [("loop.example/gemel/impl.opForms", laid_loop_example_gemel_impl_opForms)], narrowed := true }
def FnHeapRetUptoSaid : Prop := fnHeapRetUptoRow.holds Tryz.pinned (OpenSpec.upto fnHeapRetSpec)

/-- 'laws.FnHeapHere', WHERE WHAT IT READS IS OF BULK AT MOST 1048576: true; the input reads as it did. -/
def fnHeapHereUptoRow : OpenClaim := { program := "ytoaalcijdcmboabgreatdoor", sum := "18ebb7cab01f15d7a0861e36fc14529c3a68faa366cb8c4a9e5a96fcc54cc393", func := "loop.example/gemel/laws.FnHeapHere", spec := "fnHeapHere", unfollowed := true, recurses := true, named := ["loop.example/gemel/impl.opForms"], apart := false, laid := [("loop.example/gemel/impl.opForms", laid_loop_example_gemel_impl_opForms)], narrowed := true }
def FnHeapHereUptoSaid : Prop := fnHeapHereUptoRow.holds Tryz.pinned (OpenSpec.upto fnHeapHereSpec)

/-- 'laws.FnHeapSender', WHERE WHAT IT READS IS OF BULK AT MOST 1048576: true; the input reads as it did. -/
def fnHeapSenderUptoRow : OpenClaim := { program := "ytoaalcijdcmboabgreatdoor", sum := "18ebb7cab01f15d7a0861e36fc14529c3a68faa366cb8c4a9e5a96fcc54cc393", func := "loop.example/gemel/laws.FnHeapSender", spec := "fnHeapSender", unfollowed := true, recurses := true, named := ["loop.example/gemel/impl.opForms"], apart := false, laid := [("loop.example/gemel/impl.opForms", laid_loop_example_gemel_impl_opForms)], narrowed := true }
def FnHeapSenderUptoSaid : Prop := fnHeapSenderUptoRow.holds Tryz.pinned (OpenSpec.upto fnHeapSenderSpec)

/-- 'laws.FnHeapPeek', WHERE WHAT IT READS IS OF BULK AT MOST 1048576: true; the input reads as it did. -/
def fnHeapPeekUptoRow : OpenClaim := { program := "ytoaalcijdcmboabgreatdoor", sum := "18ebb7cab01f15d7a0861e36fc14529c3a68faa366cb8c4a9e5a96fcc54cc393", func := "loop.example/gemel/laws.FnHeapPeek", spec := "fnHeapPeek", unfollowed := true, recurses := true, named := ["loop.example/gemel/impl.opForms"], apart := false, laid := [("loop.example/gemel/impl.opForms", laid_loop_example_gemel_impl_opForms)], narrowed := true }
def FnHeapPeekUptoSaid : Prop := fnHeapPeekUptoRow.holds Tryz.pinned (OpenSpec.upto fnHeapPeekSpec)

/-- 'laws.FnHeapPoke', WHERE WHAT IT READS IS OF BULK AT MOST 1048576: true; the input reads as it did. -/
def fnHeapPokeUptoRow : OpenClaim := { program := "ytoaalcijdcmboabgreatdoor", sum := "18ebb7cab01f15d7a0861e36fc14529c3a68faa366cb8c4a9e5a96fcc54cc393", func := "loop.example/gemel/laws.FnHeapPoke", spec := "fnHeapPoke", unfollowed := true, recurses := true, named := ["loop.example/gemel/impl.opForms"], apart := false, laid := [("loop.example/gemel/impl.opForms", laid_loop_example_gemel_impl_opForms)], narrowed := true }
def FnHeapPokeUptoSaid : Prop := fnHeapPokeUptoRow.holds Tryz.pinned (OpenSpec.upto fnHeapPokeSpec)

/-- 'laws.FnHeapBack', WHERE WHAT IT READS IS OF BULK AT MOST 1048576: true; the input reads as it did. -/
def fnHeapBackUptoRow : OpenClaim := { program := "ytoaalcijdcmboabgreatdoor", sum := "18ebb7cab01f15d7a0861e36fc14529c3a68faa366cb8c4a9e5a96fcc54cc393", func := "loop.example/gemel/laws.FnHeapBack", spec := "fnHeapBack", unfollowed := true, recurses := true, named := ["loop.example/gemel/impl.opForms"], apart := false, laid := [("loop.example/gemel/impl.opForms", laid_loop_example_gemel_impl_opForms)], narrowed := true }
def FnHeapBackUptoSaid : Prop := fnHeapBackUptoRow.holds Tryz.pinned (OpenSpec.upto fnHeapBackSpec)

/-- 'laws.FnHeapSay', WHERE WHAT IT READS IS OF BULK AT MOST 1048576: true; the input reads as it did. -/
def fnHeapSayUptoRow : OpenClaim := { program := "ytoaalcijdcmboabgreatdoor", sum := "18ebb7cab01f15d7a0861e36fc14529c3a68faa366cb8c4a9e5a96fcc54cc393", func := "loop.example/gemel/laws.FnHeapSay", spec := "fnHeapSay", unfollowed := true, recurses := true, named := ["loop.example/gemel/impl.opForms"], apart := false, laid := [("loop.example/gemel/impl.opForms", laid_loop_example_gemel_impl_opForms)], narrowed := true }
def FnHeapSayUptoSaid : Prop := fnHeapSayUptoRow.holds Tryz.pinned (OpenSpec.upto fnHeapSaySpec)

end Rows
end Go.Proofs.YtoaalcijdcmboabGreatDoor
