/-
  DERIVED. GIVEN WITH THE SEED: THE CARDS: each row of YthkjgfhheejaoaaGreatDoorRows.lean that lists a variable, with what it lists TIED to the program's text (the seventh form; the later family's looks); each row that meets fmt, with fmt's text TOLD by the authors' own Lean function (tested against real Go, not proved from fmt's source: count such statements apart). THE CARD IS WHAT COUNTS. Prove the row's statement (the work); the ties are given (YthkjgfhheejaoaaGreatDoorTie.lean); close each card by the builder's one call (the guide's Derived/Test/ToyasCard.lean, 'card_holds'). Laid BY PROGRAM, IN A SANDBOX (cutbox-door.mjs). By AI agents, Wed Nov 11 2026. No macro, syntax, notation, axiom, sorry.
-/
import Derived.Test.YthkjgfhheejaoaaGreatDoorRows
import GoSem.ClaimSeven
namespace Go.Proofs.YthkjgfhheejaoaaGreatDoor
namespace Rows

/-- THE TIED CARD OF 'laws.FnHeapStep'. -/
def fnHeapStepCard : Claim7 := { stood := { row := fnHeapStepRow, standIns := [], harness := (true, "778588028616df64af51aa36a2814d3f4733b0107a51c42d541feca7b280f4e5"), looks := false }, kinds := [], alts := [], laidByText := true, laidKinds := [.data], laidTests := true, laidLooks := .later }
def FnHeapStepCardSaid : Prop := Claim7.holds Tryz.pinned (.plain (OpenSpec.ofChange fnHeapStepSpec)) fnHeapStepCard

/-- THE TIED CARD OF 'laws.FnHeapNum'. -/
def fnHeapNumCard : Claim7 := { stood := { row := fnHeapNumRow, standIns := [], harness := (true, "778588028616df64af51aa36a2814d3f4733b0107a51c42d541feca7b280f4e5"), looks := false }, kinds := [], alts := [], laidByText := true, laidKinds := [.data], laidTests := true, laidLooks := .later }
def FnHeapNumCardSaid : Prop := Claim7.holds Tryz.pinned (.plain (OpenSpec.ofChange fnHeapNumSpec)) fnHeapNumCard

/-- THE TIED CARD OF 'laws.FnHeapTemp'. -/
def fnHeapTempCard : Claim7 := { stood := { row := fnHeapTempRow, standIns := [], harness := (true, "778588028616df64af51aa36a2814d3f4733b0107a51c42d541feca7b280f4e5"), looks := false }, kinds := [], alts := [], laidByText := true, laidKinds := [.data], laidTests := true, laidLooks := .later }
def FnHeapTempCardSaid : Prop := Claim7.holds Tryz.pinned (.plain (OpenSpec.ofChange fnHeapTempSpec)) fnHeapTempCard

/-- THE TIED CARD OF 'laws.FnHeapSet'. -/
def fnHeapSetCard : Claim7 := { stood := { row := fnHeapSetRow, standIns := [], harness := (true, "778588028616df64af51aa36a2814d3f4733b0107a51c42d541feca7b280f4e5"), looks := false }, kinds := [], alts := [], laidByText := true, laidKinds := [.data], laidTests := true, laidLooks := .later }
def FnHeapSetCardSaid : Prop := Claim7.holds Tryz.pinned (.plain (OpenSpec.ofChange fnHeapSetSpec)) fnHeapSetCard

/-- THE TIED CARD OF 'laws.FnHeapDrop'. -/
def fnHeapDropCard : Claim7 := { stood := { row := fnHeapDropRow, standIns := [], harness := (true, "778588028616df64af51aa36a2814d3f4733b0107a51c42d541feca7b280f4e5"), looks := false }, kinds := [], alts := [], laidByText := true, laidKinds := [.data], laidTests := true, laidLooks := .later }
def FnHeapDropCardSaid : Prop := Claim7.holds Tryz.pinned (.plain (OpenSpec.ofChange fnHeapDropSpec)) fnHeapDropCard

/-- THE TIED CARD OF 'laws.FnHeapAdd'. -/
def fnHeapAddCard : Claim7 := { stood := { row := fnHeapAddRow, standIns := [], harness := (true, "778588028616df64af51aa36a2814d3f4733b0107a51c42d541feca7b280f4e5"), looks := false }, kinds := [], alts := [], laidByText := true, laidKinds := [.data], laidTests := true, laidLooks := .later }
def FnHeapAddCardSaid : Prop := Claim7.holds Tryz.pinned (.plain (OpenSpec.ofChange fnHeapAddSpec)) fnHeapAddCard

/-- THE TIED CARD OF 'laws.FnHeapAddStuck'. -/
def fnHeapAddStuckCard : Claim7 := { stood := { row := fnHeapAddStuckRow, standIns := [], harness := (true, "778588028616df64af51aa36a2814d3f4733b0107a51c42d541feca7b280f4e5"), looks := false }, kinds := [], alts := [], laidByText := true, laidKinds := [.data], laidTests := true, laidLooks := .later }
def FnHeapAddStuckCardSaid : Prop := Claim7.holds Tryz.pinned (.plain (OpenSpec.ofChange fnHeapAddStuckSpec)) fnHeapAddStuckCard

/-- THE TIED CARD OF 'laws.FnHeapSame'. -/
def fnHeapSameCard : Claim7 := { stood := { row := fnHeapSameRow, standIns := [], harness := (true, "778588028616df64af51aa36a2814d3f4733b0107a51c42d541feca7b280f4e5"), looks := false }, kinds := [], alts := [], laidByText := true, laidKinds := [.data], laidTests := true, laidLooks := .later }
def FnHeapSameCardSaid : Prop := Claim7.holds Tryz.pinned (.plain (OpenSpec.ofChange fnHeapSameSpec)) fnHeapSameCard

/-- THE TIED CARD OF 'laws.FnHeapJump'. -/
def fnHeapJumpCard : Claim7 := { stood := { row := fnHeapJumpRow, standIns := [], harness := (true, "778588028616df64af51aa36a2814d3f4733b0107a51c42d541feca7b280f4e5"), looks := false }, kinds := [], alts := [], laidByText := true, laidKinds := [.data], laidTests := true, laidLooks := .later }
def FnHeapJumpCardSaid : Prop := Claim7.holds Tryz.pinned (.plain (OpenSpec.ofChange fnHeapJumpSpec)) fnHeapJumpCard

/-- THE TIED CARD OF 'laws.FnHeapZero'. -/
def fnHeapZeroCard : Claim7 := { stood := { row := fnHeapZeroRow, standIns := [], harness := (true, "778588028616df64af51aa36a2814d3f4733b0107a51c42d541feca7b280f4e5"), looks := false }, kinds := [], alts := [], laidByText := true, laidKinds := [.data], laidTests := true, laidLooks := .later }
def FnHeapZeroCardSaid : Prop := Claim7.holds Tryz.pinned (.plain (OpenSpec.ofChange fnHeapZeroSpec)) fnHeapZeroCard

/-- THE TIED CARD OF 'laws.FnHeapCall'. -/
def fnHeapCallCard : Claim7 := { stood := { row := fnHeapCallRow, standIns := [], harness := (true, "778588028616df64af51aa36a2814d3f4733b0107a51c42d541feca7b280f4e5"), looks := false }, kinds := [], alts := [], laidByText := true, laidKinds := [.data], laidTests := true, laidLooks := .later }
def FnHeapCallCardSaid : Prop := Claim7.holds Tryz.pinned (.plain (OpenSpec.ofChange fnHeapCallSpec)) fnHeapCallCard

/-- THE TIED CARD OF 'laws.FnHeapRet'. -/
def fnHeapRetCard : Claim7 := { stood := { row := fnHeapRetRow, standIns := [], harness := (true, "778588028616df64af51aa36a2814d3f4733b0107a51c42d541feca7b280f4e5"), looks := false }, kinds := [], alts := [], laidByText := true, laidKinds := [.data], laidTests := true, laidLooks := .later }
def FnHeapRetCardSaid : Prop := Claim7.holds Tryz.pinned (.plain (OpenSpec.ofChange fnHeapRetSpec)) fnHeapRetCard

/-- THE SECOND FORM's CARD OF 'laws.FnHeapStep'. -/
def fnHeapStepUptoCard : Claim7 := { stood := { row := fnHeapStepUptoRow, standIns := [], harness := (true, "778588028616df64af51aa36a2814d3f4733b0107a51c42d541feca7b280f4e5"), looks := false }, kinds := [], alts := [], laidByText := true, laidKinds := [.data], laidTests := true, laidLooks := .later }
def FnHeapStepUptoCardSaid : Prop := Claim7.holds Tryz.pinned (.plain (OpenSpec.upto fnHeapStepSpec)) fnHeapStepUptoCard

/-- THE SECOND FORM's CARD OF 'laws.FnHeapNum'. -/
def fnHeapNumUptoCard : Claim7 := { stood := { row := fnHeapNumUptoRow, standIns := [], harness := (true, "778588028616df64af51aa36a2814d3f4733b0107a51c42d541feca7b280f4e5"), looks := false }, kinds := [], alts := [], laidByText := true, laidKinds := [.data], laidTests := true, laidLooks := .later }
def FnHeapNumUptoCardSaid : Prop := Claim7.holds Tryz.pinned (.plain (OpenSpec.upto fnHeapNumSpec)) fnHeapNumUptoCard

/-- THE SECOND FORM's CARD OF 'laws.FnHeapTemp'. -/
def fnHeapTempUptoCard : Claim7 := { stood := { row := fnHeapTempUptoRow, standIns := [], harness := (true, "778588028616df64af51aa36a2814d3f4733b0107a51c42d541feca7b280f4e5"), looks := false }, kinds := [], alts := [], laidByText := true, laidKinds := [.data], laidTests := true, laidLooks := .later }
def FnHeapTempUptoCardSaid : Prop := Claim7.holds Tryz.pinned (.plain (OpenSpec.upto fnHeapTempSpec)) fnHeapTempUptoCard

/-- THE SECOND FORM's CARD OF 'laws.FnHeapSet'. -/
def fnHeapSetUptoCard : Claim7 := { stood := { row := fnHeapSetUptoRow, standIns := [], harness := (true, "778588028616df64af51aa36a2814d3f4733b0107a51c42d541feca7b280f4e5"), looks := false }, kinds := [], alts := [], laidByText := true, laidKinds := [.data], laidTests := true, laidLooks := .later }
def FnHeapSetUptoCardSaid : Prop := Claim7.holds Tryz.pinned (.plain (OpenSpec.upto fnHeapSetSpec)) fnHeapSetUptoCard

/-- THE SECOND FORM's CARD OF 'laws.FnHeapDrop'. -/
def fnHeapDropUptoCard : Claim7 := { stood := { row := fnHeapDropUptoRow, standIns := [], harness := (true, "778588028616df64af51aa36a2814d3f4733b0107a51c42d541feca7b280f4e5"), looks := false }, kinds := [], alts := [], laidByText := true, laidKinds := [.data], laidTests := true, laidLooks := .later }
def FnHeapDropUptoCardSaid : Prop := Claim7.holds Tryz.pinned (.plain (OpenSpec.upto fnHeapDropSpec)) fnHeapDropUptoCard

/-- THE SECOND FORM's CARD OF 'laws.FnHeapAdd'. -/
def fnHeapAddUptoCard : Claim7 := { stood := { row := fnHeapAddUptoRow, standIns := [], harness := (true, "778588028616df64af51aa36a2814d3f4733b0107a51c42d541feca7b280f4e5"), looks := false }, kinds := [], alts := [], laidByText := true, laidKinds := [.data], laidTests := true, laidLooks := .later }
def FnHeapAddUptoCardSaid : Prop := Claim7.holds Tryz.pinned (.plain (OpenSpec.upto fnHeapAddSpec)) fnHeapAddUptoCard

/-- THE SECOND FORM's CARD OF 'laws.FnHeapAddStuck'. -/
def fnHeapAddStuckUptoCard : Claim7 := { stood := { row := fnHeapAddStuckUptoRow, standIns := [], harness := (true, "778588028616df64af51aa36a2814d3f4733b0107a51c42d541feca7b280f4e5"), looks := false }, kinds := [], alts := [], laidByText := true, laidKinds := [.data], laidTests := true, laidLooks := .later }
def FnHeapAddStuckUptoCardSaid : Prop := Claim7.holds Tryz.pinned (.plain (OpenSpec.upto fnHeapAddStuckSpec)) fnHeapAddStuckUptoCard

/-- THE SECOND FORM's CARD OF 'laws.FnHeapSame'. -/
def fnHeapSameUptoCard : Claim7 := { stood := { row := fnHeapSameUptoRow, standIns := [], harness := (true, "778588028616df64af51aa36a2814d3f4733b0107a51c42d541feca7b280f4e5"), looks := false }, kinds := [], alts := [], laidByText := true, laidKinds := [.data], laidTests := true, laidLooks := .later }
def FnHeapSameUptoCardSaid : Prop := Claim7.holds Tryz.pinned (.plain (OpenSpec.upto fnHeapSameSpec)) fnHeapSameUptoCard

/-- THE SECOND FORM's CARD OF 'laws.FnHeapJump'. -/
def fnHeapJumpUptoCard : Claim7 := { stood := { row := fnHeapJumpUptoRow, standIns := [], harness := (true, "778588028616df64af51aa36a2814d3f4733b0107a51c42d541feca7b280f4e5"), looks := false }, kinds := [], alts := [], laidByText := true, laidKinds := [.data], laidTests := true, laidLooks := .later }
def FnHeapJumpUptoCardSaid : Prop := Claim7.holds Tryz.pinned (.plain (OpenSpec.upto fnHeapJumpSpec)) fnHeapJumpUptoCard

/-- THE SECOND FORM's CARD OF 'laws.FnHeapZero'. -/
def fnHeapZeroUptoCard : Claim7 := { stood := { row := fnHeapZeroUptoRow, standIns := [], harness := (true, "778588028616df64af51aa36a2814d3f4733b0107a51c42d541feca7b280f4e5"), looks := false }, kinds := [], alts := [], laidByText := true, laidKinds := [.data], laidTests := true, laidLooks := .later }
def FnHeapZeroUptoCardSaid : Prop := Claim7.holds Tryz.pinned (.plain (OpenSpec.upto fnHeapZeroSpec)) fnHeapZeroUptoCard

/-- THE SECOND FORM's CARD OF 'laws.FnHeapCall'. -/
def fnHeapCallUptoCard : Claim7 := { stood := { row := fnHeapCallUptoRow, standIns := [], harness := (true, "778588028616df64af51aa36a2814d3f4733b0107a51c42d541feca7b280f4e5"), looks := false }, kinds := [], alts := [], laidByText := true, laidKinds := [.data], laidTests := true, laidLooks := .later }
def FnHeapCallUptoCardSaid : Prop := Claim7.holds Tryz.pinned (.plain (OpenSpec.upto fnHeapCallSpec)) fnHeapCallUptoCard

/-- THE SECOND FORM's CARD OF 'laws.FnHeapRet'. -/
def fnHeapRetUptoCard : Claim7 := { stood := { row := fnHeapRetUptoRow, standIns := [], harness := (true, "778588028616df64af51aa36a2814d3f4733b0107a51c42d541feca7b280f4e5"), looks := false }, kinds := [], alts := [], laidByText := true, laidKinds := [.data], laidTests := true, laidLooks := .later }
def FnHeapRetUptoCardSaid : Prop := Claim7.holds Tryz.pinned (.plain (OpenSpec.upto fnHeapRetSpec)) fnHeapRetUptoCard
end Rows
end Go.Proofs.YthkjgfhheejaoaaGreatDoor
