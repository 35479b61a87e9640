/-
  DERIVED. GIVEN WITH THE SEED: THE CARDS: each row of YtfpodljalccpnaaGreatDoorRows.lean that lists a variable, with what it lists TIED to the program's text (the seventh form; the later family's looks); each row that meets fmt, with fmt's text TOLD by the authors' own Lean function (tested against real Go, not proved from fmt's source: count such statements apart). THE CARD IS WHAT COUNTS. Prove the row's statement (the work); the ties are given (YtfpodljalccpnaaGreatDoorTie.lean); close each card by the builder's one call (the guide's Derived/Test/ToyasCard.lean, 'card_holds'). Laid BY PROGRAM, IN A SANDBOX (cutbox-door.mjs). By AI agents, Wed Nov 11 2026. No macro, syntax, notation, axiom, sorry.
-/
import Derived.Test.YtfpodljalccpnaaGreatDoorRows
import GoSem.ClaimSeven
namespace Go.Proofs.YtfpodljalccpnaaGreatDoor
namespace Rows

/-- THE TIED CARD OF 'laws.FnHeapMethod'. -/
def fnHeapMethodCard : Claim7 := { stood := { row := fnHeapMethodRow, standIns := [], harness := (true, "a236454e489aa7f7473ed0ceba060cd979c91862af7d159bc5592543efa63e30"), looks := false }, kinds := [], alts := [], laidByText := true, laidKinds := [.data], laidTests := true, laidLooks := .later }
def FnHeapMethodCardSaid : Prop := Claim7.holds Tryz.pinned (.plain (OpenSpec.ofChange fnHeapMethodSpec)) fnHeapMethodCard

/-- THE TIED CARD OF 'laws.FnHeapNoLook'. -/
def fnHeapNoLookCard : Claim7 := { stood := { row := fnHeapNoLookRow, standIns := [], harness := (true, "a236454e489aa7f7473ed0ceba060cd979c91862af7d159bc5592543efa63e30"), looks := false }, kinds := [], alts := [], laidByText := true, laidKinds := [.data], laidTests := true, laidLooks := .later }
def FnHeapNoLookCardSaid : Prop := Claim7.holds Tryz.pinned (.plain (OpenSpec.ofChange fnHeapNoLookSpec)) fnHeapNoLookCard

/-- THE TIED CARD OF 'laws.FnHeapCall'. -/
def fnHeapCallCard : Claim7 := { stood := { row := fnHeapCallRow, standIns := [], harness := (true, "a236454e489aa7f7473ed0ceba060cd979c91862af7d159bc5592543efa63e30"), looks := false }, kinds := [], alts := [], laidByText := true, laidKinds := [.data], laidTests := true, laidLooks := .later }
def FnHeapCallCardSaid : Prop := Claim7.holds Tryz.pinned (.plain (OpenSpec.ofChange fnHeapCallSpec)) fnHeapCallCard

/-- THE TIED CARD OF 'laws.FnHeapBack'. -/
def fnHeapBackCard : Claim7 := { stood := { row := fnHeapBackRow, standIns := [], harness := (true, "a236454e489aa7f7473ed0ceba060cd979c91862af7d159bc5592543efa63e30"), looks := false }, kinds := [], alts := [], laidByText := true, laidKinds := [.data], laidTests := true, laidLooks := .later }
def FnHeapBackCardSaid : Prop := Claim7.holds Tryz.pinned (.plain (OpenSpec.ofChange fnHeapBackSpec)) fnHeapBackCard

/-- THE TIED CARD OF 'laws.FnHeapTrimRun'. -/
def fnHeapTrimRunCard : Claim7 := { stood := { row := fnHeapTrimRunRow, standIns := [], harness := (true, "a236454e489aa7f7473ed0ceba060cd979c91862af7d159bc5592543efa63e30"), looks := false }, kinds := [], alts := [], laidByText := true, laidKinds := [.data], laidTests := true, laidLooks := .later }
def FnHeapTrimRunCardSaid : Prop := Claim7.holds Tryz.pinned (.plain (OpenSpec.ofChange fnHeapTrimRunSpec)) fnHeapTrimRunCard

/-- THE TIED CARD OF 'laws.FnDeepTop'. -/
def fnDeepTopCard : Claim7 := { stood := { row := fnDeepTopRow, standIns := [], harness := (true, "a236454e489aa7f7473ed0ceba060cd979c91862af7d159bc5592543efa63e30"), looks := false }, kinds := [], alts := [], laidByText := true, laidKinds := [.data], laidTests := true, laidLooks := .later }
def FnDeepTopCardSaid : Prop := Claim7.holds Tryz.pinned (.plain (OpenSpec.ofChange fnDeepTopSpec)) fnDeepTopCard

/-- THE TIED CARD OF 'laws.FnDeepStuck'. -/
def fnDeepStuckCard : Claim7 := { stood := { row := fnDeepStuckRow, standIns := [], harness := (true, "a236454e489aa7f7473ed0ceba060cd979c91862af7d159bc5592543efa63e30"), looks := false }, kinds := [], alts := [], laidByText := true, laidKinds := [.data], laidTests := true, laidLooks := .later }
def FnDeepStuckCardSaid : Prop := Claim7.holds Tryz.pinned (.plain (OpenSpec.ofChange fnDeepStuckSpec)) fnDeepStuckCard

/-- THE SECOND FORM's CARD OF 'laws.FnHeapMethod'. -/
def fnHeapMethodUptoCard : Claim7 := { stood := { row := fnHeapMethodUptoRow, standIns := [], harness := (true, "a236454e489aa7f7473ed0ceba060cd979c91862af7d159bc5592543efa63e30"), looks := false }, kinds := [], alts := [], laidByText := true, laidKinds := [.data], laidTests := true, laidLooks := .later }
def FnHeapMethodUptoCardSaid : Prop := Claim7.holds Tryz.pinned (.plain (OpenSpec.upto fnHeapMethodSpec)) fnHeapMethodUptoCard

/-- THE SECOND FORM's CARD OF 'laws.FnHeapNoLook'. -/
def fnHeapNoLookUptoCard : Claim7 := { stood := { row := fnHeapNoLookUptoRow, standIns := [], harness := (true, "a236454e489aa7f7473ed0ceba060cd979c91862af7d159bc5592543efa63e30"), looks := false }, kinds := [], alts := [], laidByText := true, laidKinds := [.data], laidTests := true, laidLooks := .later }
def FnHeapNoLookUptoCardSaid : Prop := Claim7.holds Tryz.pinned (.plain (OpenSpec.upto fnHeapNoLookSpec)) fnHeapNoLookUptoCard

/-- THE SECOND FORM's CARD OF 'laws.FnHeapCall'. -/
def fnHeapCallUptoCard : Claim7 := { stood := { row := fnHeapCallUptoRow, standIns := [], harness := (true, "a236454e489aa7f7473ed0ceba060cd979c91862af7d159bc5592543efa63e30"), looks := false }, kinds := [], alts := [], laidByText := true, laidKinds := [.data], laidTests := true, laidLooks := .later }
def FnHeapCallUptoCardSaid : Prop := Claim7.holds Tryz.pinned (.plain (OpenSpec.upto fnHeapCallSpec)) fnHeapCallUptoCard

/-- THE SECOND FORM's CARD OF 'laws.FnHeapBack'. -/
def fnHeapBackUptoCard : Claim7 := { stood := { row := fnHeapBackUptoRow, standIns := [], harness := (true, "a236454e489aa7f7473ed0ceba060cd979c91862af7d159bc5592543efa63e30"), looks := false }, kinds := [], alts := [], laidByText := true, laidKinds := [.data], laidTests := true, laidLooks := .later }
def FnHeapBackUptoCardSaid : Prop := Claim7.holds Tryz.pinned (.plain (OpenSpec.upto fnHeapBackSpec)) fnHeapBackUptoCard

/-- THE SECOND FORM's CARD OF 'laws.FnHeapTrimRun'. -/
def fnHeapTrimRunUptoCard : Claim7 := { stood := { row := fnHeapTrimRunUptoRow, standIns := [], harness := (true, "a236454e489aa7f7473ed0ceba060cd979c91862af7d159bc5592543efa63e30"), looks := false }, kinds := [], alts := [], laidByText := true, laidKinds := [.data], laidTests := true, laidLooks := .later }
def FnHeapTrimRunUptoCardSaid : Prop := Claim7.holds Tryz.pinned (.plain (OpenSpec.upto fnHeapTrimRunSpec)) fnHeapTrimRunUptoCard

/-- THE SECOND FORM's CARD OF 'laws.FnDeepTop'. -/
def fnDeepTopUptoCard : Claim7 := { stood := { row := fnDeepTopUptoRow, standIns := [], harness := (true, "a236454e489aa7f7473ed0ceba060cd979c91862af7d159bc5592543efa63e30"), looks := false }, kinds := [], alts := [], laidByText := true, laidKinds := [.data], laidTests := true, laidLooks := .later }
def FnDeepTopUptoCardSaid : Prop := Claim7.holds Tryz.pinned (.plain (OpenSpec.upto fnDeepTopSpec)) fnDeepTopUptoCard

/-- THE SECOND FORM's CARD OF 'laws.FnDeepStuck'. -/
def fnDeepStuckUptoCard : Claim7 := { stood := { row := fnDeepStuckUptoRow, standIns := [], harness := (true, "a236454e489aa7f7473ed0ceba060cd979c91862af7d159bc5592543efa63e30"), looks := false }, kinds := [], alts := [], laidByText := true, laidKinds := [.data], laidTests := true, laidLooks := .later }
def FnDeepStuckUptoCardSaid : Prop := Claim7.holds Tryz.pinned (.plain (OpenSpec.upto fnDeepStuckSpec)) fnDeepStuckUptoCard
end Rows
end Go.Proofs.YtfpodljalccpnaaGreatDoor
