/-
  DERIVED. GIVEN WITH THE SEED: THE CARDS: each row of YtlpbklgkafjfmaaGreatDoorRows.lean that lists a variable, with what it lists TIED to the program's text (the seventh form; the later family's looks); each row that meets fmt, with fmt's text TOLD by the authors' own Lean function (tested against real Go, not proved from fmt's source: count such statements apart). THE CARD IS WHAT COUNTS. Prove the row's statement (the work); the ties are given (YtlpbklgkafjfmaaGreatDoorTie.lean); close each card by the builder's one call (the guide's Derived/Test/ToyasCard.lean, 'card_holds'). Laid BY PROGRAM, IN A SANDBOX (cutbox-door.mjs). By AI agents, Wed Nov 11 2026. No macro, syntax, notation, axiom, sorry.
-/
import Derived.Test.YtlpbklgkafjfmaaGreatDoorRows
import GoSem.ClaimSeven
namespace Go.Proofs.YtlpbklgkafjfmaaGreatDoor
namespace Rows

/-- THE TIED CARD OF 'laws.FnHeapCall'. -/
def fnHeapCallCard : Claim7 := { stood := { row := fnHeapCallRow, standIns := [], harness := (true, "c86e57e8d55920396ad9dd701b66faceabe949a72c897363a60c1c218fa91528"), looks := false }, kinds := [], alts := [], laidByText := true, laidKinds := [.data], laidTests := true, laidLooks := .later }
def FnHeapCallCardSaid : Prop := Claim7.holds Tryz.pinned (.plain (OpenSpec.ofChange fnHeapCallSpec)) fnHeapCallCard

/-- THE TIED CARD OF 'laws.FnHeapBack'. -/
def fnHeapBackCard : Claim7 := { stood := { row := fnHeapBackRow, standIns := [], harness := (true, "c86e57e8d55920396ad9dd701b66faceabe949a72c897363a60c1c218fa91528"), looks := false }, kinds := [], alts := [], laidByText := true, laidKinds := [.data], laidTests := true, laidLooks := .later }
def FnHeapBackCardSaid : Prop := Claim7.holds Tryz.pinned (.plain (OpenSpec.ofChange fnHeapBackSpec)) fnHeapBackCard

/-- THE SECOND FORM's CARD OF 'laws.FnHeapCall'. -/
def fnHeapCallUptoCard : Claim7 := { stood := { row := fnHeapCallUptoRow, standIns := [], harness := (true, "c86e57e8d55920396ad9dd701b66faceabe949a72c897363a60c1c218fa91528"), looks := false }, kinds := [], alts := [], laidByText := true, laidKinds := [.data], laidTests := true, laidLooks := .later }
def FnHeapCallUptoCardSaid : Prop := Claim7.holds Tryz.pinned (.plain (OpenSpec.upto fnHeapCallSpec)) fnHeapCallUptoCard

/-- THE SECOND FORM's CARD OF 'laws.FnHeapBack'. -/
def fnHeapBackUptoCard : Claim7 := { stood := { row := fnHeapBackUptoRow, standIns := [], harness := (true, "c86e57e8d55920396ad9dd701b66faceabe949a72c897363a60c1c218fa91528"), looks := false }, kinds := [], alts := [], laidByText := true, laidKinds := [.data], laidTests := true, laidLooks := .later }
def FnHeapBackUptoCardSaid : Prop := Claim7.holds Tryz.pinned (.plain (OpenSpec.upto fnHeapBackSpec)) fnHeapBackUptoCard
end Rows
end Go.Proofs.YtlpbklgkafjfmaaGreatDoor
