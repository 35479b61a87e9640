/-
  DERIVED. GIVEN WITH THE SEED: THE CARDS: each row of YtoipocnagmpdiaaGreatDoorRows.lean that lists a variable, with what it lists TIED to the program's text (the seventh form; the later family's looks); each row that meets fmt, with fmt's text TOLD by the authors' own Lean function (tested against real Go, not proved from fmt's source: count such statements apart). THE CARD IS WHAT COUNTS. Prove the row's statement (the work); the ties are given (YtoipocnagmpdiaaGreatDoorTie.lean); close each card by the builder's one call (the guide's Derived/Test/ToyasCard.lean, 'card_holds'). Laid BY PROGRAM, IN A SANDBOX (cutbox-door.mjs). By AI agents, Wed Nov 11 2026. No macro, syntax, notation, axiom, sorry.
-/
import Derived.Test.YtoipocnagmpdiaaGreatDoorRows
import GoSem.ClaimSeven
namespace Go.Proofs.YtoipocnagmpdiaaGreatDoor
namespace Rows

/-- THE TIED CARD OF 'laws.FnHeapRunCut'. -/
def fnHeapRunCutCard : Claim7 := { stood := { row := fnHeapRunCutRow, standIns := [], harness := (true, "cf23f83c0a5084da9d0e53445ab7dacc59d963cae1f7c8cfa3077d2c0b680ff8"), looks := false }, kinds := [], alts := [], laidByText := true, laidKinds := [.data], laidTests := true, laidLooks := .later }
def FnHeapRunCutCardSaid : Prop := Claim7.holds Tryz.pinned (.plain (OpenSpec.ofChange fnHeapRunCutSpec)) fnHeapRunCutCard

/-- THE TIED CARD OF 'laws.FnHeapRunOk'. -/
def fnHeapRunOkCard : Claim7 := { stood := { row := fnHeapRunOkRow, standIns := [], harness := (true, "cf23f83c0a5084da9d0e53445ab7dacc59d963cae1f7c8cfa3077d2c0b680ff8"), looks := false }, kinds := [], alts := [], laidByText := true, laidKinds := [.data], laidTests := true, laidLooks := .later }
def FnHeapRunOkCardSaid : Prop := Claim7.holds Tryz.pinned (.plain (OpenSpec.ofChange fnHeapRunOkSpec)) fnHeapRunOkCard

/-- THE TIED CARD OF 'laws.FnHeapDead'. -/
def fnHeapDeadCard : Claim7 := { stood := { row := fnHeapDeadRow, standIns := [], harness := (true, "cf23f83c0a5084da9d0e53445ab7dacc59d963cae1f7c8cfa3077d2c0b680ff8"), looks := false }, kinds := [], alts := [], laidByText := true, laidKinds := [.data], laidTests := true, laidLooks := .later }
def FnHeapDeadCardSaid : Prop := Claim7.holds Tryz.pinned (.plain (OpenSpec.ofChange fnHeapDeadSpec)) fnHeapDeadCard

/-- THE TIED CARD OF 'laws.FnHeapBorn'. -/
def fnHeapBornCard : Claim7 := { stood := { row := fnHeapBornRow, standIns := [], harness := (true, "cf23f83c0a5084da9d0e53445ab7dacc59d963cae1f7c8cfa3077d2c0b680ff8"), looks := false }, kinds := [], alts := [], laidByText := true, laidKinds := [.data], laidTests := true, laidLooks := .later }
def FnHeapBornCardSaid : Prop := Claim7.holds Tryz.pinned (.plain (OpenSpec.ofChange fnHeapBornSpec)) fnHeapBornCard

/-- THE TIED CARD OF 'laws.FnHeapSaidFew'. -/
def fnHeapSaidFewCard : Claim7 := { stood := { row := fnHeapSaidFewRow, standIns := [], harness := (true, "cf23f83c0a5084da9d0e53445ab7dacc59d963cae1f7c8cfa3077d2c0b680ff8"), looks := false }, kinds := [], alts := [], laidByText := true, laidKinds := [.data], laidTests := true, laidLooks := .later }
def FnHeapSaidFewCardSaid : Prop := Claim7.holds Tryz.pinned (.plain (OpenSpec.ofChange fnHeapSaidFewSpec)) fnHeapSaidFewCard

/-- THE TIED CARD OF 'laws.FnHeapEnd'. -/
def fnHeapEndCard : Claim7 := { stood := { row := fnHeapEndRow, standIns := [], harness := (true, "cf23f83c0a5084da9d0e53445ab7dacc59d963cae1f7c8cfa3077d2c0b680ff8"), looks := false }, kinds := [], alts := [], laidByText := true, laidKinds := [.data], laidTests := true, laidLooks := .later }
def FnHeapEndCardSaid : Prop := Claim7.holds Tryz.pinned (.plain (OpenSpec.ofChange fnHeapEndSpec)) fnHeapEndCard

/-- THE SECOND FORM's CARD OF 'laws.FnHeapRunCut'. -/
def fnHeapRunCutUptoCard : Claim7 := { stood := { row := fnHeapRunCutUptoRow, standIns := [], harness := (true, "cf23f83c0a5084da9d0e53445ab7dacc59d963cae1f7c8cfa3077d2c0b680ff8"), looks := false }, kinds := [], alts := [], laidByText := true, laidKinds := [.data], laidTests := true, laidLooks := .later }
def FnHeapRunCutUptoCardSaid : Prop := Claim7.holds Tryz.pinned (.plain (OpenSpec.upto fnHeapRunCutSpec)) fnHeapRunCutUptoCard

/-- THE SECOND FORM's CARD OF 'laws.FnHeapRunOk'. -/
def fnHeapRunOkUptoCard : Claim7 := { stood := { row := fnHeapRunOkUptoRow, standIns := [], harness := (true, "cf23f83c0a5084da9d0e53445ab7dacc59d963cae1f7c8cfa3077d2c0b680ff8"), looks := false }, kinds := [], alts := [], laidByText := true, laidKinds := [.data], laidTests := true, laidLooks := .later }
def FnHeapRunOkUptoCardSaid : Prop := Claim7.holds Tryz.pinned (.plain (OpenSpec.upto fnHeapRunOkSpec)) fnHeapRunOkUptoCard

/-- THE SECOND FORM's CARD OF 'laws.FnHeapDead'. -/
def fnHeapDeadUptoCard : Claim7 := { stood := { row := fnHeapDeadUptoRow, standIns := [], harness := (true, "cf23f83c0a5084da9d0e53445ab7dacc59d963cae1f7c8cfa3077d2c0b680ff8"), looks := false }, kinds := [], alts := [], laidByText := true, laidKinds := [.data], laidTests := true, laidLooks := .later }
def FnHeapDeadUptoCardSaid : Prop := Claim7.holds Tryz.pinned (.plain (OpenSpec.upto fnHeapDeadSpec)) fnHeapDeadUptoCard

/-- THE SECOND FORM's CARD OF 'laws.FnHeapBorn'. -/
def fnHeapBornUptoCard : Claim7 := { stood := { row := fnHeapBornUptoRow, standIns := [], harness := (true, "cf23f83c0a5084da9d0e53445ab7dacc59d963cae1f7c8cfa3077d2c0b680ff8"), looks := false }, kinds := [], alts := [], laidByText := true, laidKinds := [.data], laidTests := true, laidLooks := .later }
def FnHeapBornUptoCardSaid : Prop := Claim7.holds Tryz.pinned (.plain (OpenSpec.upto fnHeapBornSpec)) fnHeapBornUptoCard

/-- THE SECOND FORM's CARD OF 'laws.FnHeapSaidFew'. -/
def fnHeapSaidFewUptoCard : Claim7 := { stood := { row := fnHeapSaidFewUptoRow, standIns := [], harness := (true, "cf23f83c0a5084da9d0e53445ab7dacc59d963cae1f7c8cfa3077d2c0b680ff8"), looks := false }, kinds := [], alts := [], laidByText := true, laidKinds := [.data], laidTests := true, laidLooks := .later }
def FnHeapSaidFewUptoCardSaid : Prop := Claim7.holds Tryz.pinned (.plain (OpenSpec.upto fnHeapSaidFewSpec)) fnHeapSaidFewUptoCard

/-- THE SECOND FORM's CARD OF 'laws.FnHeapEnd'. -/
def fnHeapEndUptoCard : Claim7 := { stood := { row := fnHeapEndUptoRow, standIns := [], harness := (true, "cf23f83c0a5084da9d0e53445ab7dacc59d963cae1f7c8cfa3077d2c0b680ff8"), looks := false }, kinds := [], alts := [], laidByText := true, laidKinds := [.data], laidTests := true, laidLooks := .later }
def FnHeapEndUptoCardSaid : Prop := Claim7.holds Tryz.pinned (.plain (OpenSpec.upto fnHeapEndSpec)) fnHeapEndUptoCard
end Rows
end Go.Proofs.YtoipocnagmpdiaaGreatDoor
