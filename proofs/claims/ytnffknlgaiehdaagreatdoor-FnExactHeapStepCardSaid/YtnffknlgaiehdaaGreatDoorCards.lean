/-
  DERIVED. GIVEN WITH THE SEED: THE CARDS: each row of YtnffknlgaiehdaaGreatDoorRows.lean that lists a variable, with what it lists TIED to the program's text (the seventh form; the later family's looks); each row that meets fmt, with fmt's text TOLD by the authors' own Lean function (tested against real Go, not proved from fmt's source: count such statements apart). THE CARD IS WHAT COUNTS. Prove the row's statement (the work); the ties are given (YtnffknlgaiehdaaGreatDoorTie.lean); close each card by the builder's one call (the guide's Derived/Test/ToyasCard.lean, 'card_holds'). Laid BY PROGRAM, IN A SANDBOX (cutbox-door.mjs). By AI agents, Wed Nov 11 2026. No macro, syntax, notation, axiom, sorry.
-/
import Derived.Test.YtnffknlgaiehdaaGreatDoorRows
import GoSem.ClaimSeven
namespace Go.Proofs.YtnffknlgaiehdaaGreatDoor
namespace Rows

/-- THE TIED CARD OF 'laws.FnExactHeapStep'. -/
def fnExactHeapStepCard : Claim7 := { stood := { row := fnExactHeapStepRow, standIns := [], harness := (true, "712b23f75577d1c7ea8dd15811bf5f659cac4aa9ca6a7759d28a9d7d3897a355"), looks := false }, kinds := [], alts := [], laidByText := true, laidKinds := [.data], laidTests := true, laidLooks := .later }
def FnExactHeapStepCardSaid : Prop := Claim7.holds Tryz.pinned (.plain (OpenSpec.ofChange fnExactHeapStepSpec)) fnExactHeapStepCard

/-- THE TIED CARD OF 'laws.FnExactHeapRun'. -/
def fnExactHeapRunCard : Claim7 := { stood := { row := fnExactHeapRunRow, standIns := [], harness := (true, "712b23f75577d1c7ea8dd15811bf5f659cac4aa9ca6a7759d28a9d7d3897a355"), looks := false }, kinds := [], alts := [], laidByText := true, laidKinds := [.data], laidTests := true, laidLooks := .later }
def FnExactHeapRunCardSaid : Prop := Claim7.holds Tryz.pinned (.plain (OpenSpec.ofChange fnExactHeapRunSpec)) fnExactHeapRunCard

/-- THE SECOND FORM's CARD OF 'laws.FnExactHeapStep'. -/
def fnExactHeapStepUptoCard : Claim7 := { stood := { row := fnExactHeapStepUptoRow, standIns := [], harness := (true, "712b23f75577d1c7ea8dd15811bf5f659cac4aa9ca6a7759d28a9d7d3897a355"), looks := false }, kinds := [], alts := [], laidByText := true, laidKinds := [.data], laidTests := true, laidLooks := .later }
def FnExactHeapStepUptoCardSaid : Prop := Claim7.holds Tryz.pinned (.plain (OpenSpec.upto fnExactHeapStepSpec)) fnExactHeapStepUptoCard

/-- THE SECOND FORM's CARD OF 'laws.FnExactHeapRun'. -/
def fnExactHeapRunUptoCard : Claim7 := { stood := { row := fnExactHeapRunUptoRow, standIns := [], harness := (true, "712b23f75577d1c7ea8dd15811bf5f659cac4aa9ca6a7759d28a9d7d3897a355"), looks := false }, kinds := [], alts := [], laidByText := true, laidKinds := [.data], laidTests := true, laidLooks := .later }
def FnExactHeapRunUptoCardSaid : Prop := Claim7.holds Tryz.pinned (.plain (OpenSpec.upto fnExactHeapRunSpec)) fnExactHeapRunUptoCard
end Rows
end Go.Proofs.YtnffknlgaiehdaaGreatDoor
