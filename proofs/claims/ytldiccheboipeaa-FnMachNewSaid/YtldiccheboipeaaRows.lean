/-
  No cell of these rows narrows 'for every input' (looked for: loops, veiled, ifaces, maps, wideKeys, modest, calm, conditions, laid).
  DERIVED. THE GIVEN ROWS OF THIS SEAT. 4 by the template 'for every input the law returns true; each argument reads behind the call as it read before'; 0 by the template 'total and deterministic' (their statements: YtldiccheboipeaaTotals.lean).
  GIVEN WITH THE SEED: the statements are not yours to turn. If you find one false, say at which input.
  Laid BY PROGRAM, IN A SANDBOX (cutbox-rows.mjs): the forced cells as the released guide's own fill.sh prints them over the translation 741b7e6c30f69ba9… (all of the seat's roots in one cut). By AI agents, Wed Nov 11 2026. No macro, syntax, notation, axiom, sorry.
-/
import Derived.Test.YtldiccheboipeaaChecked
import GoSem.Claim
import GoSem.ClaimJoined
import GoSem.ClaimMapViews
import Derived.JoinedTies
import Derived.KernelRfl
namespace Go.Proofs.Ytldiccheboipeaa
/- THE CELL 'sum', in the pinned program and in every row, IS THE sha256 OF THE DUMP (.gsa) THAT YtldiccheboipeaaProg.lean LOADS. Nothing in Lean hashes anything: it is a label: what it is worth is what the hold of that sum in a sandbox is worth. -/
noncomputable def Try.pinned : Pinned := { name := "ytldiccheboipeaa", sum := "741b7e6c30f69ba9c9e4dea13f5db3ea6ba453ff5165462130904b127cedbb12", checked := Try.checked }
namespace Rows
def none {H : Type} : Left H := { results := [], args := [] }

/-- 'laws.FnMachNew': WHATEVER THE INPUT: true; the input reads as it did. -/
def fnMachNewSpec : ChangeSpec := { name := "fnMachNew", fn := fun _ => fun
  | [d] => { results := [.lit (.bool true)], args := [d] }
  | _ => none }
def fnMachNewRow : OpenClaim := { program := "ytldiccheboipeaa", sum := "741b7e6c30f69ba9c9e4dea13f5db3ea6ba453ff5165462130904b127cedbb12", func := "loop.example/gemel/laws.FnMachNew", spec := "fnMachNew", unfollowed := true, recurses := true, apart := false }
def FnMachNewSaid : Prop := fnMachNewRow.holds Try.pinned (OpenSpec.ofChange fnMachNewSpec)

/-- ITS FALSE NEIGHBOUR: 'it returns false'. Refute it at one input. -/
def fnMachNewWrong : ChangeSpec := { name := "fnMachNew", fn := fun _ => fun
  | [d] => { results := [.lit (.bool false)], args := [d] }
  | _ => none }
def FnMachNewWrongFalsely : Prop := fnMachNewRow.holds Try.pinned (OpenSpec.ofChange fnMachNewWrong)

/-- 'laws.FnMachFrames': WHATEVER THE INPUT: true; the input reads as it did. -/
def fnMachFramesSpec : ChangeSpec := { name := "fnMachFrames", fn := fun _ => fun
  | [d] => { results := [.lit (.bool true)], args := [d] }
  | _ => none }
def fnMachFramesRow : OpenClaim := { program := "ytldiccheboipeaa", sum := "741b7e6c30f69ba9c9e4dea13f5db3ea6ba453ff5165462130904b127cedbb12", func := "loop.example/gemel/laws.FnMachFrames", spec := "fnMachFrames", apart := false }
def FnMachFramesSaid : Prop := fnMachFramesRow.holds Try.pinned (OpenSpec.ofChange fnMachFramesSpec)

/-- ITS FALSE NEIGHBOUR: 'it returns false'. Refute it at one input. -/
def fnMachFramesWrong : ChangeSpec := { name := "fnMachFrames", fn := fun _ => fun
  | [d] => { results := [.lit (.bool false)], args := [d] }
  | _ => none }
def FnMachFramesWrongFalsely : Prop := fnMachFramesRow.holds Try.pinned (OpenSpec.ofChange fnMachFramesWrong)

/-- 'laws.FnExactMachNew': WHATEVER THE INPUT: true; the input reads as it did. -/
def fnExactMachNewSpec : ChangeSpec := { name := "fnExactMachNew", fn := fun _ => fun
  | [d1, d2, d3] => { results := [.lit (.bool true)], args := [d1, d2, d3] }
  | _ => none }
def fnExactMachNewRow : OpenClaim := { program := "ytldiccheboipeaa", sum := "741b7e6c30f69ba9c9e4dea13f5db3ea6ba453ff5165462130904b127cedbb12", func := "loop.example/gemel/laws.FnExactMachNew", spec := "fnExactMachNew", unfollowed := true, recurses := true, apart := false }
def FnExactMachNewSaid : Prop := fnExactMachNewRow.holds Try.pinned (OpenSpec.ofChange fnExactMachNewSpec)

/-- ITS FALSE NEIGHBOUR: 'it returns false'. Refute it at one input. -/
def fnExactMachNewWrong : ChangeSpec := { name := "fnExactMachNew", fn := fun _ => fun
  | [d1, d2, d3] => { results := [.lit (.bool false)], args := [d1, d2, d3] }
  | _ => none }
def FnExactMachNewWrongFalsely : Prop := fnExactMachNewRow.holds Try.pinned (OpenSpec.ofChange fnExactMachNewWrong)

/-- 'laws.FnExactMachFrames': WHATEVER THE INPUT: true; the input reads as it did. -/
def fnExactMachFramesSpec : ChangeSpec := { name := "fnExactMachFrames", fn := fun _ => fun
  | [d] => { results := [.lit (.bool true)], args := [d] }
  | _ => none }
def fnExactMachFramesRow : OpenClaim := { program := "ytldiccheboipeaa", sum := "741b7e6c30f69ba9c9e4dea13f5db3ea6ba453ff5165462130904b127cedbb12", func := "loop.example/gemel/laws.FnExactMachFrames", spec := "fnExactMachFrames", apart := false }
def FnExactMachFramesSaid : Prop := fnExactMachFramesRow.holds Try.pinned (OpenSpec.ofChange fnExactMachFramesSpec)

/-- ITS FALSE NEIGHBOUR: 'it returns false'. Refute it at one input. -/
def fnExactMachFramesWrong : ChangeSpec := { name := "fnExactMachFrames", fn := fun _ => fun
  | [d] => { results := [.lit (.bool false)], args := [d] }
  | _ => none }
def FnExactMachFramesWrongFalsely : Prop := fnExactMachFramesRow.holds Try.pinned (OpenSpec.ofChange fnExactMachFramesWrong)

/- THE SECOND FORM. 'bulk': how many values and letters a reading holds, each counted each time it is reached (what is shared counts as often as it is met; a slice's spare places count too). A statement '..UptoSaid' is the law's where the arguments, and the package variables that the reading takes, are together of bulk at most 1048576: NARROWER than '..Said'. Prove '..Said' where nothing that the law and all that it calls make is longer than what came in: it says more and counts as full. Else prove '..UptoSaid'. A law counts once. -/
mutual
def uptoBulk {H : Type} : DataW H → Nat
  | .lit (.string bytes) => bytes.length + 1
  | .lit _ => 1
  | .nil => 1
  | .ptr d => uptoBulk d + 1
  | .slice elems spare => uptoBulkAll elems + uptoBulkAll spare + 1
  | .agg parts => uptoBulkAll parts + 1
  | .iface _ d => uptoBulk d + 1
  | .map entries => uptoBulkEntries entries + 1
  | .held _ => 1
def uptoBulkAll {H : Type} : List (DataW H) → Nat
  | [] => 0
  | d :: r => uptoBulk d + uptoBulkAll r
def uptoBulkEntries {H : Type} : List (Lit × DataW H) → Nat
  | [] => 0
  | x :: r => uptoBulkEntry x + uptoBulkEntries r
def uptoBulkEntry {H : Type} : Lit × DataW H → Nat
  | (.string bytes, d) => bytes.length + uptoBulk d + 1
  | (_, d) => uptoBulk d + 1
 end
def uptoSmall : (H : Type) → List (DataW H) → Bool := fun _ ds => decide (uptoBulkAll ds ≤ 1048576)
def OpenSpec.upto (s : _root_.Go.ChangeSpec) : _root_.Go.OpenSpec := { _root_.Go.OpenSpec.ofChange s with cond := some uptoSmall }

/-- 'laws.FnMachNew', WHERE WHAT IT READS IS OF BULK AT MOST 1048576: true; the input reads as it did. -/
def fnMachNewUptoRow : OpenClaim := { program := "ytldiccheboipeaa", sum := "741b7e6c30f69ba9c9e4dea13f5db3ea6ba453ff5165462130904b127cedbb12", func := "loop.example/gemel/laws.FnMachNew", spec := "fnMachNew", unfollowed := true, recurses := true, apart := false, narrowed := true }
def FnMachNewUptoSaid : Prop := fnMachNewUptoRow.holds Try.pinned (OpenSpec.upto fnMachNewSpec)

/-- 'laws.FnMachFrames', WHERE WHAT IT READS IS OF BULK AT MOST 1048576: true; the input reads as it did. -/
def fnMachFramesUptoRow : OpenClaim := { program := "ytldiccheboipeaa", sum := "741b7e6c30f69ba9c9e4dea13f5db3ea6ba453ff5165462130904b127cedbb12", func := "loop.example/gemel/laws.FnMachFrames", spec := "fnMachFrames", apart := false, narrowed := true }
def FnMachFramesUptoSaid : Prop := fnMachFramesUptoRow.holds Try.pinned (OpenSpec.upto fnMachFramesSpec)

/-- 'laws.FnExactMachNew', WHERE WHAT IT READS IS OF BULK AT MOST 1048576: true; the input reads as it did. -/
def fnExactMachNewUptoRow : OpenClaim := { program := "ytldiccheboipeaa", sum := "741b7e6c30f69ba9c9e4dea13f5db3ea6ba453ff5165462130904b127cedbb12", func := "loop.example/gemel/laws.FnExactMachNew", spec := "fnExactMachNew", unfollowed := true, recurses := true, apart := false, narrowed := true }
def FnExactMachNewUptoSaid : Prop := fnExactMachNewUptoRow.holds Try.pinned (OpenSpec.upto fnExactMachNewSpec)

/-- 'laws.FnExactMachFrames', WHERE WHAT IT READS IS OF BULK AT MOST 1048576: true; the input reads as it did. -/
def fnExactMachFramesUptoRow : OpenClaim := { program := "ytldiccheboipeaa", sum := "741b7e6c30f69ba9c9e4dea13f5db3ea6ba453ff5165462130904b127cedbb12", func := "loop.example/gemel/laws.FnExactMachFrames", spec := "fnExactMachFrames", apart := false, narrowed := true }
def FnExactMachFramesUptoSaid : Prop := fnExactMachFramesUptoRow.holds Try.pinned (OpenSpec.upto fnExactMachFramesSpec)

end Rows
end Go.Proofs.Ytldiccheboipeaa
