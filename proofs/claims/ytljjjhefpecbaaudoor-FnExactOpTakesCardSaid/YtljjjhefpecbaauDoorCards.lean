/-
  DERIVED. GIVEN WITH THE SEED: THE CARDS: each row of YtljjjhefpecbaauDoorRows.lean that lists a variable, with what it lists TIED to the program's text (the seventh form; the later family's looks); each row that meets fmt, with fmt's text TOLD by the authors' own Lean function (tested against real Go, not proved from fmt's source: count such statements apart). THE CARD IS WHAT COUNTS. Prove the row's statement (the work); the ties are given (YtljjjhefpecbaauDoorTie.lean); close each card by the builder's one call (the guide's Derived/Test/ToyasCard.lean, 'card_holds'). Laid BY PROGRAM, IN A SANDBOX (cutbox-door.mjs). By AI agents, Wed Nov 11 2026. No macro, syntax, notation, axiom, sorry.
-/
import Derived.Test.YtljjjhefpecbaauDoorRows
import GoSem.ClaimSeven
namespace Go.Proofs.YtljjjhefpecbaauDoor
namespace Rows

/-- THE TIED CARD OF 'laws.FnExactProgRead'. -/
def fnExactProgReadCard : Claim7 := { stood := { row := fnExactProgReadRow, standIns := [], harness := (true, "e0eeafefc3c63690f4eb34972db6c11966e698cfd47a846c41b90d85b8f94f6f"), looks := true }, kinds := [], alts := [], laidByText := true, laidKinds := [.data, .data, .data, .data], laidTests := true, laidLooks := .later }
def FnExactProgReadCardSaid : Prop := Claim7.holds Tryd.pinned (.plain (OpenSpec.ofChange fnExactProgReadSpec)) fnExactProgReadCard

/-- THE TIED CARD OF 'laws.FnExactOpTakes'. -/
def fnExactOpTakesCard : Claim7 := { stood := { row := fnExactOpTakesRow, standIns := [], harness := (true, "e0eeafefc3c63690f4eb34972db6c11966e698cfd47a846c41b90d85b8f94f6f"), looks := true }, kinds := [], alts := [], laidByText := true, laidKinds := [.data], laidTests := true, laidLooks := .later }
def FnExactOpTakesCardSaid : Prop := Claim7.holds Tryd.pinned (.plain (OpenSpec.ofChange fnExactOpTakesSpec)) fnExactOpTakesCard

/-- THE SECOND FORM's CARD OF 'laws.FnExactProgRead'. -/
def fnExactProgReadUptoCard : Claim7 := { stood := { row := fnExactProgReadUptoRow, standIns := [], harness := (true, "e0eeafefc3c63690f4eb34972db6c11966e698cfd47a846c41b90d85b8f94f6f"), looks := true }, kinds := [], alts := [], laidByText := true, laidKinds := [.data, .data, .data, .data], laidTests := true, laidLooks := .later }
def FnExactProgReadUptoCardSaid : Prop := Claim7.holds Tryd.pinned (.plain (OpenSpec.upto fnExactProgReadSpec)) fnExactProgReadUptoCard

/-- THE SECOND FORM's CARD OF 'laws.FnExactOpTakes'. -/
def fnExactOpTakesUptoCard : Claim7 := { stood := { row := fnExactOpTakesUptoRow, standIns := [], harness := (true, "e0eeafefc3c63690f4eb34972db6c11966e698cfd47a846c41b90d85b8f94f6f"), looks := true }, kinds := [], alts := [], laidByText := true, laidKinds := [.data], laidTests := true, laidLooks := .later }
def FnExactOpTakesUptoCardSaid : Prop := Claim7.holds Tryd.pinned (.plain (OpenSpec.upto fnExactOpTakesSpec)) fnExactOpTakesUptoCard
end Rows
end Go.Proofs.YtljjjhefpecbaauDoor
