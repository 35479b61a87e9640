/-
  DERIVED. GIVEN WITH THE SEED: THE CARDS: each row of YtoaalcijdcmboaaGreatDoorRows.lean that lists a variable, with what it lists TIED to the program's text (the seventh form; the later family's looks); each row that meets fmt, with fmt's text TOLD by the authors' own Lean function (tested against real Go, not proved from fmt's source: count such statements apart). THE CARD IS WHAT COUNTS. Prove the row's statement (the work); the ties are given (YtoaalcijdcmboaaGreatDoorTie.lean); close each card by the builder's one call (the guide's Derived/Test/ToyasCard.lean, 'card_holds'). Laid BY PROGRAM, IN A SANDBOX (cutbox-door.mjs). By AI agents, Wed Nov 11 2026. No macro, syntax, notation, axiom, sorry.
-/
import Derived.Test.YtoaalcijdcmboaaGreatDoorRows
import GoSem.ClaimSeven
namespace Go.Proofs.YtoaalcijdcmboaaGreatDoor
namespace Rows

/-- THE TIED CARD OF 'laws.FnDeepTop'. -/
def fnDeepTopCard : Claim7 := { stood := { row := fnDeepTopRow, standIns := [], harness := (true, "81cf0e61afa654b6a2047cee79f99d139590b1f1ae263a6c94191f915394b49b"), looks := false }, kinds := [], alts := [], laidByText := true, laidKinds := [.data], laidTests := true, laidLooks := .later }
def FnDeepTopCardSaid : Prop := Claim7.holds Tryz.pinned (.plain (OpenSpec.ofChange fnDeepTopSpec)) fnDeepTopCard

/-- THE TIED CARD OF 'laws.FnDeepStuck'. -/
def fnDeepStuckCard : Claim7 := { stood := { row := fnDeepStuckRow, standIns := [], harness := (true, "81cf0e61afa654b6a2047cee79f99d139590b1f1ae263a6c94191f915394b49b"), looks := false }, kinds := [], alts := [], laidByText := true, laidKinds := [.data], laidTests := true, laidLooks := .later }
def FnDeepStuckCardSaid : Prop := Claim7.holds Tryz.pinned (.plain (OpenSpec.ofChange fnDeepStuckSpec)) fnDeepStuckCard

/-- THE TIED CARD OF 'laws.FnHeapRunCut'. -/
def fnHeapRunCutCard : Claim7 := { stood := { row := fnHeapRunCutRow, standIns := [], harness := (true, "81cf0e61afa654b6a2047cee79f99d139590b1f1ae263a6c94191f915394b49b"), looks := false }, kinds := [], alts := [], laidByText := true, laidKinds := [.data], laidTests := true, laidLooks := .later }
def FnHeapRunCutCardSaid : Prop := Claim7.holds Tryz.pinned (.plain (OpenSpec.ofChange fnHeapRunCutSpec)) fnHeapRunCutCard

/-- THE TIED CARD OF 'laws.FnHeapStep'. -/
def fnHeapStepCard : Claim7 := { stood := { row := fnHeapStepRow, standIns := [], harness := (true, "81cf0e61afa654b6a2047cee79f99d139590b1f1ae263a6c94191f915394b49b"), looks := false }, kinds := [], alts := [], laidByText := true, laidKinds := [.data], laidTests := true, laidLooks := .later }
def FnHeapStepCardSaid : Prop := Claim7.holds Tryz.pinned (.plain (OpenSpec.ofChange fnHeapStepSpec)) fnHeapStepCard

/-- THE TIED CARD OF 'laws.FnHeapRunOk'. -/
def fnHeapRunOkCard : Claim7 := { stood := { row := fnHeapRunOkRow, standIns := [], harness := (true, "81cf0e61afa654b6a2047cee79f99d139590b1f1ae263a6c94191f915394b49b"), looks := false }, kinds := [], alts := [], laidByText := true, laidKinds := [.data], laidTests := true, laidLooks := .later }
def FnHeapRunOkCardSaid : Prop := Claim7.holds Tryz.pinned (.plain (OpenSpec.ofChange fnHeapRunOkSpec)) fnHeapRunOkCard

/-- THE TIED CARD OF 'laws.FnHeapDead'. -/
def fnHeapDeadCard : Claim7 := { stood := { row := fnHeapDeadRow, standIns := [], harness := (true, "81cf0e61afa654b6a2047cee79f99d139590b1f1ae263a6c94191f915394b49b"), looks := false }, kinds := [], alts := [], laidByText := true, laidKinds := [.data], laidTests := true, laidLooks := .later }
def FnHeapDeadCardSaid : Prop := Claim7.holds Tryz.pinned (.plain (OpenSpec.ofChange fnHeapDeadSpec)) fnHeapDeadCard

/-- THE TIED CARD OF 'laws.FnHeapTrimRun'. -/
def fnHeapTrimRunCard : Claim7 := { stood := { row := fnHeapTrimRunRow, standIns := [], harness := (true, "81cf0e61afa654b6a2047cee79f99d139590b1f1ae263a6c94191f915394b49b"), looks := false }, kinds := [], alts := [], laidByText := true, laidKinds := [.data], laidTests := true, laidLooks := .later }
def FnHeapTrimRunCardSaid : Prop := Claim7.holds Tryz.pinned (.plain (OpenSpec.ofChange fnHeapTrimRunSpec)) fnHeapTrimRunCard

/-- THE TIED CARD OF 'laws.FnHeapNum'. -/
def fnHeapNumCard : Claim7 := { stood := { row := fnHeapNumRow, standIns := [], harness := (true, "81cf0e61afa654b6a2047cee79f99d139590b1f1ae263a6c94191f915394b49b"), looks := false }, kinds := [], alts := [], laidByText := true, laidKinds := [.data], laidTests := true, laidLooks := .later }
def FnHeapNumCardSaid : Prop := Claim7.holds Tryz.pinned (.plain (OpenSpec.ofChange fnHeapNumSpec)) fnHeapNumCard

/-- THE TIED CARD OF 'laws.FnHeapTemp'. -/
def fnHeapTempCard : Claim7 := { stood := { row := fnHeapTempRow, standIns := [], harness := (true, "81cf0e61afa654b6a2047cee79f99d139590b1f1ae263a6c94191f915394b49b"), looks := false }, kinds := [], alts := [], laidByText := true, laidKinds := [.data], laidTests := true, laidLooks := .later }
def FnHeapTempCardSaid : Prop := Claim7.holds Tryz.pinned (.plain (OpenSpec.ofChange fnHeapTempSpec)) fnHeapTempCard

/-- THE TIED CARD OF 'laws.FnHeapSet'. -/
def fnHeapSetCard : Claim7 := { stood := { row := fnHeapSetRow, standIns := [], harness := (true, "81cf0e61afa654b6a2047cee79f99d139590b1f1ae263a6c94191f915394b49b"), looks := false }, kinds := [], alts := [], laidByText := true, laidKinds := [.data], laidTests := true, laidLooks := .later }
def FnHeapSetCardSaid : Prop := Claim7.holds Tryz.pinned (.plain (OpenSpec.ofChange fnHeapSetSpec)) fnHeapSetCard

/-- THE TIED CARD OF 'laws.FnHeapDrop'. -/
def fnHeapDropCard : Claim7 := { stood := { row := fnHeapDropRow, standIns := [], harness := (true, "81cf0e61afa654b6a2047cee79f99d139590b1f1ae263a6c94191f915394b49b"), looks := false }, kinds := [], alts := [], laidByText := true, laidKinds := [.data], laidTests := true, laidLooks := .later }
def FnHeapDropCardSaid : Prop := Claim7.holds Tryz.pinned (.plain (OpenSpec.ofChange fnHeapDropSpec)) fnHeapDropCard

/-- THE TIED CARD OF 'laws.FnHeapAdd'. -/
def fnHeapAddCard : Claim7 := { stood := { row := fnHeapAddRow, standIns := [], harness := (true, "81cf0e61afa654b6a2047cee79f99d139590b1f1ae263a6c94191f915394b49b"), looks := false }, kinds := [], alts := [], laidByText := true, laidKinds := [.data], laidTests := true, laidLooks := .later }
def FnHeapAddCardSaid : Prop := Claim7.holds Tryz.pinned (.plain (OpenSpec.ofChange fnHeapAddSpec)) fnHeapAddCard

/-- THE SECOND FORM's CARD OF 'laws.FnDeepTop'. -/
def fnDeepTopUptoCard : Claim7 := { stood := { row := fnDeepTopUptoRow, standIns := [], harness := (true, "81cf0e61afa654b6a2047cee79f99d139590b1f1ae263a6c94191f915394b49b"), looks := false }, kinds := [], alts := [], laidByText := true, laidKinds := [.data], laidTests := true, laidLooks := .later }
def FnDeepTopUptoCardSaid : Prop := Claim7.holds Tryz.pinned (.plain (OpenSpec.upto fnDeepTopSpec)) fnDeepTopUptoCard

/-- THE SECOND FORM's CARD OF 'laws.FnDeepStuck'. -/
def fnDeepStuckUptoCard : Claim7 := { stood := { row := fnDeepStuckUptoRow, standIns := [], harness := (true, "81cf0e61afa654b6a2047cee79f99d139590b1f1ae263a6c94191f915394b49b"), looks := false }, kinds := [], alts := [], laidByText := true, laidKinds := [.data], laidTests := true, laidLooks := .later }
def FnDeepStuckUptoCardSaid : Prop := Claim7.holds Tryz.pinned (.plain (OpenSpec.upto fnDeepStuckSpec)) fnDeepStuckUptoCard

/-- THE SECOND FORM's CARD OF 'laws.FnHeapRunCut'. -/
def fnHeapRunCutUptoCard : Claim7 := { stood := { row := fnHeapRunCutUptoRow, standIns := [], harness := (true, "81cf0e61afa654b6a2047cee79f99d139590b1f1ae263a6c94191f915394b49b"), looks := false }, kinds := [], alts := [], laidByText := true, laidKinds := [.data], laidTests := true, laidLooks := .later }
def FnHeapRunCutUptoCardSaid : Prop := Claim7.holds Tryz.pinned (.plain (OpenSpec.upto fnHeapRunCutSpec)) fnHeapRunCutUptoCard

/-- THE SECOND FORM's CARD OF 'laws.FnHeapStep'. -/
def fnHeapStepUptoCard : Claim7 := { stood := { row := fnHeapStepUptoRow, standIns := [], harness := (true, "81cf0e61afa654b6a2047cee79f99d139590b1f1ae263a6c94191f915394b49b"), looks := false }, kinds := [], alts := [], laidByText := true, laidKinds := [.data], laidTests := true, laidLooks := .later }
def FnHeapStepUptoCardSaid : Prop := Claim7.holds Tryz.pinned (.plain (OpenSpec.upto fnHeapStepSpec)) fnHeapStepUptoCard

/-- THE SECOND FORM's CARD OF 'laws.FnHeapRunOk'. -/
def fnHeapRunOkUptoCard : Claim7 := { stood := { row := fnHeapRunOkUptoRow, standIns := [], harness := (true, "81cf0e61afa654b6a2047cee79f99d139590b1f1ae263a6c94191f915394b49b"), looks := false }, kinds := [], alts := [], laidByText := true, laidKinds := [.data], laidTests := true, laidLooks := .later }
def FnHeapRunOkUptoCardSaid : Prop := Claim7.holds Tryz.pinned (.plain (OpenSpec.upto fnHeapRunOkSpec)) fnHeapRunOkUptoCard

/-- THE SECOND FORM's CARD OF 'laws.FnHeapDead'. -/
def fnHeapDeadUptoCard : Claim7 := { stood := { row := fnHeapDeadUptoRow, standIns := [], harness := (true, "81cf0e61afa654b6a2047cee79f99d139590b1f1ae263a6c94191f915394b49b"), looks := false }, kinds := [], alts := [], laidByText := true, laidKinds := [.data], laidTests := true, laidLooks := .later }
def FnHeapDeadUptoCardSaid : Prop := Claim7.holds Tryz.pinned (.plain (OpenSpec.upto fnHeapDeadSpec)) fnHeapDeadUptoCard

/-- THE SECOND FORM's CARD OF 'laws.FnHeapTrimRun'. -/
def fnHeapTrimRunUptoCard : Claim7 := { stood := { row := fnHeapTrimRunUptoRow, standIns := [], harness := (true, "81cf0e61afa654b6a2047cee79f99d139590b1f1ae263a6c94191f915394b49b"), looks := false }, kinds := [], alts := [], laidByText := true, laidKinds := [.data], laidTests := true, laidLooks := .later }
def FnHeapTrimRunUptoCardSaid : Prop := Claim7.holds Tryz.pinned (.plain (OpenSpec.upto fnHeapTrimRunSpec)) fnHeapTrimRunUptoCard

/-- THE SECOND FORM's CARD OF 'laws.FnHeapNum'. -/
def fnHeapNumUptoCard : Claim7 := { stood := { row := fnHeapNumUptoRow, standIns := [], harness := (true, "81cf0e61afa654b6a2047cee79f99d139590b1f1ae263a6c94191f915394b49b"), looks := false }, kinds := [], alts := [], laidByText := true, laidKinds := [.data], laidTests := true, laidLooks := .later }
def FnHeapNumUptoCardSaid : Prop := Claim7.holds Tryz.pinned (.plain (OpenSpec.upto fnHeapNumSpec)) fnHeapNumUptoCard

/-- THE SECOND FORM's CARD OF 'laws.FnHeapTemp'. -/
def fnHeapTempUptoCard : Claim7 := { stood := { row := fnHeapTempUptoRow, standIns := [], harness := (true, "81cf0e61afa654b6a2047cee79f99d139590b1f1ae263a6c94191f915394b49b"), looks := false }, kinds := [], alts := [], laidByText := true, laidKinds := [.data], laidTests := true, laidLooks := .later }
def FnHeapTempUptoCardSaid : Prop := Claim7.holds Tryz.pinned (.plain (OpenSpec.upto fnHeapTempSpec)) fnHeapTempUptoCard

/-- THE SECOND FORM's CARD OF 'laws.FnHeapSet'. -/
def fnHeapSetUptoCard : Claim7 := { stood := { row := fnHeapSetUptoRow, standIns := [], harness := (true, "81cf0e61afa654b6a2047cee79f99d139590b1f1ae263a6c94191f915394b49b"), looks := false }, kinds := [], alts := [], laidByText := true, laidKinds := [.data], laidTests := true, laidLooks := .later }
def FnHeapSetUptoCardSaid : Prop := Claim7.holds Tryz.pinned (.plain (OpenSpec.upto fnHeapSetSpec)) fnHeapSetUptoCard

/-- THE SECOND FORM's CARD OF 'laws.FnHeapDrop'. -/
def fnHeapDropUptoCard : Claim7 := { stood := { row := fnHeapDropUptoRow, standIns := [], harness := (true, "81cf0e61afa654b6a2047cee79f99d139590b1f1ae263a6c94191f915394b49b"), looks := false }, kinds := [], alts := [], laidByText := true, laidKinds := [.data], laidTests := true, laidLooks := .later }
def FnHeapDropUptoCardSaid : Prop := Claim7.holds Tryz.pinned (.plain (OpenSpec.upto fnHeapDropSpec)) fnHeapDropUptoCard

/-- THE SECOND FORM's CARD OF 'laws.FnHeapAdd'. -/
def fnHeapAddUptoCard : Claim7 := { stood := { row := fnHeapAddUptoRow, standIns := [], harness := (true, "81cf0e61afa654b6a2047cee79f99d139590b1f1ae263a6c94191f915394b49b"), looks := false }, kinds := [], alts := [], laidByText := true, laidKinds := [.data], laidTests := true, laidLooks := .later }
def FnHeapAddUptoCardSaid : Prop := Claim7.holds Tryz.pinned (.plain (OpenSpec.upto fnHeapAddSpec)) fnHeapAddUptoCard
end Rows
end Go.Proofs.YtoaalcijdcmboaaGreatDoor
