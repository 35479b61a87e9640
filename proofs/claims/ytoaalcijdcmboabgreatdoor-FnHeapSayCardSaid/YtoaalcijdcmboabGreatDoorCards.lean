/-
  DERIVED. GIVEN WITH THE SEED: THE CARDS: each row of YtoaalcijdcmboabGreatDoorRows.lean that lists a variable, with what it lists TIED to the program's text (the seventh form; the later family's looks); each row that meets fmt, with fmt's text TOLD by the authors' own Lean function (tested against real Go, not proved from fmt's source: count such statements apart). THE CARD IS WHAT COUNTS. Prove the row's statement (the work); the ties are given (YtoaalcijdcmboabGreatDoorTie.lean); close each card by the builder's one call (the guide's Derived/Test/ToyasCard.lean, 'card_holds'). Laid BY PROGRAM, IN A SANDBOX (cutbox-door.mjs). By AI agents, Wed Nov 11 2026. No macro, syntax, notation, axiom, sorry.
-/
import Derived.Test.YtoaalcijdcmboabGreatDoorRows
import GoSem.ClaimSeven
namespace Go.Proofs.YtoaalcijdcmboabGreatDoor
namespace Rows

/-- THE TIED CARD OF 'laws.FnHeapAddStuck'. -/
def fnHeapAddStuckCard : Claim7 := { stood := { row := fnHeapAddStuckRow, standIns := [], harness := (true, "cae680ec7684e993e64ba15bf186ece6cfddb1d3e1394b520dd056029cd9c09e"), looks := false }, kinds := [], alts := [], laidByText := true, laidKinds := [.data], laidTests := true, laidLooks := .later }
def FnHeapAddStuckCardSaid : Prop := Claim7.holds Tryz.pinned (.plain (OpenSpec.ofChange fnHeapAddStuckSpec)) fnHeapAddStuckCard

/-- THE TIED CARD OF 'laws.FnHeapSame'. -/
def fnHeapSameCard : Claim7 := { stood := { row := fnHeapSameRow, standIns := [], harness := (true, "cae680ec7684e993e64ba15bf186ece6cfddb1d3e1394b520dd056029cd9c09e"), looks := false }, kinds := [], alts := [], laidByText := true, laidKinds := [.data], laidTests := true, laidLooks := .later }
def FnHeapSameCardSaid : Prop := Claim7.holds Tryz.pinned (.plain (OpenSpec.ofChange fnHeapSameSpec)) fnHeapSameCard

/-- THE TIED CARD OF 'laws.FnHeapJump'. -/
def fnHeapJumpCard : Claim7 := { stood := { row := fnHeapJumpRow, standIns := [], harness := (true, "cae680ec7684e993e64ba15bf186ece6cfddb1d3e1394b520dd056029cd9c09e"), looks := false }, kinds := [], alts := [], laidByText := true, laidKinds := [.data], laidTests := true, laidLooks := .later }
def FnHeapJumpCardSaid : Prop := Claim7.holds Tryz.pinned (.plain (OpenSpec.ofChange fnHeapJumpSpec)) fnHeapJumpCard

/-- THE TIED CARD OF 'laws.FnHeapZero'. -/
def fnHeapZeroCard : Claim7 := { stood := { row := fnHeapZeroRow, standIns := [], harness := (true, "cae680ec7684e993e64ba15bf186ece6cfddb1d3e1394b520dd056029cd9c09e"), looks := false }, kinds := [], alts := [], laidByText := true, laidKinds := [.data], laidTests := true, laidLooks := .later }
def FnHeapZeroCardSaid : Prop := Claim7.holds Tryz.pinned (.plain (OpenSpec.ofChange fnHeapZeroSpec)) fnHeapZeroCard

/-- THE TIED CARD OF 'laws.FnHeapCall'. -/
def fnHeapCallCard : Claim7 := { stood := { row := fnHeapCallRow, standIns := [], harness := (true, "cae680ec7684e993e64ba15bf186ece6cfddb1d3e1394b520dd056029cd9c09e"), looks := false }, kinds := [], alts := [], laidByText := true, laidKinds := [.data], laidTests := true, laidLooks := .later }
def FnHeapCallCardSaid : Prop := Claim7.holds Tryz.pinned (.plain (OpenSpec.ofChange fnHeapCallSpec)) fnHeapCallCard

/-- THE TIED CARD OF 'laws.FnHeapRet'. -/
def fnHeapRetCard : Claim7 := { stood := { row := fnHeapRetRow, standIns := [], harness := (true, "cae680ec7684e993e64ba15bf186ece6cfddb1d3e1394b520dd056029cd9c09e"), looks := false }, kinds := [], alts := [], laidByText := true, laidKinds := [.data], laidTests := true, laidLooks := .later }
def FnHeapRetCardSaid : Prop := Claim7.holds Tryz.pinned (.plain (OpenSpec.ofChange fnHeapRetSpec)) fnHeapRetCard

/-- THE TIED CARD OF 'laws.FnHeapHere'. -/
def fnHeapHereCard : Claim7 := { stood := { row := fnHeapHereRow, standIns := [], harness := (true, "cae680ec7684e993e64ba15bf186ece6cfddb1d3e1394b520dd056029cd9c09e"), looks := false }, kinds := [], alts := [], laidByText := true, laidKinds := [.data], laidTests := true, laidLooks := .later }
def FnHeapHereCardSaid : Prop := Claim7.holds Tryz.pinned (.plain (OpenSpec.ofChange fnHeapHereSpec)) fnHeapHereCard

/-- THE TIED CARD OF 'laws.FnHeapSender'. -/
def fnHeapSenderCard : Claim7 := { stood := { row := fnHeapSenderRow, standIns := [], harness := (true, "cae680ec7684e993e64ba15bf186ece6cfddb1d3e1394b520dd056029cd9c09e"), looks := false }, kinds := [], alts := [], laidByText := true, laidKinds := [.data], laidTests := true, laidLooks := .later }
def FnHeapSenderCardSaid : Prop := Claim7.holds Tryz.pinned (.plain (OpenSpec.ofChange fnHeapSenderSpec)) fnHeapSenderCard

/-- THE TIED CARD OF 'laws.FnHeapPeek'. -/
def fnHeapPeekCard : Claim7 := { stood := { row := fnHeapPeekRow, standIns := [], harness := (true, "cae680ec7684e993e64ba15bf186ece6cfddb1d3e1394b520dd056029cd9c09e"), looks := false }, kinds := [], alts := [], laidByText := true, laidKinds := [.data], laidTests := true, laidLooks := .later }
def FnHeapPeekCardSaid : Prop := Claim7.holds Tryz.pinned (.plain (OpenSpec.ofChange fnHeapPeekSpec)) fnHeapPeekCard

/-- THE TIED CARD OF 'laws.FnHeapPoke'. -/
def fnHeapPokeCard : Claim7 := { stood := { row := fnHeapPokeRow, standIns := [], harness := (true, "cae680ec7684e993e64ba15bf186ece6cfddb1d3e1394b520dd056029cd9c09e"), looks := false }, kinds := [], alts := [], laidByText := true, laidKinds := [.data], laidTests := true, laidLooks := .later }
def FnHeapPokeCardSaid : Prop := Claim7.holds Tryz.pinned (.plain (OpenSpec.ofChange fnHeapPokeSpec)) fnHeapPokeCard

/-- THE TIED CARD OF 'laws.FnHeapBack'. -/
def fnHeapBackCard : Claim7 := { stood := { row := fnHeapBackRow, standIns := [], harness := (true, "cae680ec7684e993e64ba15bf186ece6cfddb1d3e1394b520dd056029cd9c09e"), looks := false }, kinds := [], alts := [], laidByText := true, laidKinds := [.data], laidTests := true, laidLooks := .later }
def FnHeapBackCardSaid : Prop := Claim7.holds Tryz.pinned (.plain (OpenSpec.ofChange fnHeapBackSpec)) fnHeapBackCard

/-- THE TIED CARD OF 'laws.FnHeapSay'. -/
def fnHeapSayCard : Claim7 := { stood := { row := fnHeapSayRow, standIns := [], harness := (true, "cae680ec7684e993e64ba15bf186ece6cfddb1d3e1394b520dd056029cd9c09e"), looks := false }, kinds := [], alts := [], laidByText := true, laidKinds := [.data], laidTests := true, laidLooks := .later }
def FnHeapSayCardSaid : Prop := Claim7.holds Tryz.pinned (.plain (OpenSpec.ofChange fnHeapSaySpec)) fnHeapSayCard

/-- THE SECOND FORM's CARD OF 'laws.FnHeapAddStuck'. -/
def fnHeapAddStuckUptoCard : Claim7 := { stood := { row := fnHeapAddStuckUptoRow, standIns := [], harness := (true, "cae680ec7684e993e64ba15bf186ece6cfddb1d3e1394b520dd056029cd9c09e"), looks := false }, kinds := [], alts := [], laidByText := true, laidKinds := [.data], laidTests := true, laidLooks := .later }
def FnHeapAddStuckUptoCardSaid : Prop := Claim7.holds Tryz.pinned (.plain (OpenSpec.upto fnHeapAddStuckSpec)) fnHeapAddStuckUptoCard

/-- THE SECOND FORM's CARD OF 'laws.FnHeapSame'. -/
def fnHeapSameUptoCard : Claim7 := { stood := { row := fnHeapSameUptoRow, standIns := [], harness := (true, "cae680ec7684e993e64ba15bf186ece6cfddb1d3e1394b520dd056029cd9c09e"), looks := false }, kinds := [], alts := [], laidByText := true, laidKinds := [.data], laidTests := true, laidLooks := .later }
def FnHeapSameUptoCardSaid : Prop := Claim7.holds Tryz.pinned (.plain (OpenSpec.upto fnHeapSameSpec)) fnHeapSameUptoCard

/-- THE SECOND FORM's CARD OF 'laws.FnHeapJump'. -/
def fnHeapJumpUptoCard : Claim7 := { stood := { row := fnHeapJumpUptoRow, standIns := [], harness := (true, "cae680ec7684e993e64ba15bf186ece6cfddb1d3e1394b520dd056029cd9c09e"), looks := false }, kinds := [], alts := [], laidByText := true, laidKinds := [.data], laidTests := true, laidLooks := .later }
def FnHeapJumpUptoCardSaid : Prop := Claim7.holds Tryz.pinned (.plain (OpenSpec.upto fnHeapJumpSpec)) fnHeapJumpUptoCard

/-- THE SECOND FORM's CARD OF 'laws.FnHeapZero'. -/
def fnHeapZeroUptoCard : Claim7 := { stood := { row := fnHeapZeroUptoRow, standIns := [], harness := (true, "cae680ec7684e993e64ba15bf186ece6cfddb1d3e1394b520dd056029cd9c09e"), looks := false }, kinds := [], alts := [], laidByText := true, laidKinds := [.data], laidTests := true, laidLooks := .later }
def FnHeapZeroUptoCardSaid : Prop := Claim7.holds Tryz.pinned (.plain (OpenSpec.upto fnHeapZeroSpec)) fnHeapZeroUptoCard

/-- THE SECOND FORM's CARD OF 'laws.FnHeapCall'. -/
def fnHeapCallUptoCard : Claim7 := { stood := { row := fnHeapCallUptoRow, standIns := [], harness := (true, "cae680ec7684e993e64ba15bf186ece6cfddb1d3e1394b520dd056029cd9c09e"), looks := false }, kinds := [], alts := [], laidByText := true, laidKinds := [.data], laidTests := true, laidLooks := .later }
def FnHeapCallUptoCardSaid : Prop := Claim7.holds Tryz.pinned (.plain (OpenSpec.upto fnHeapCallSpec)) fnHeapCallUptoCard

/-- THE SECOND FORM's CARD OF 'laws.FnHeapRet'. -/
def fnHeapRetUptoCard : Claim7 := { stood := { row := fnHeapRetUptoRow, standIns := [], harness := (true, "cae680ec7684e993e64ba15bf186ece6cfddb1d3e1394b520dd056029cd9c09e"), looks := false }, kinds := [], alts := [], laidByText := true, laidKinds := [.data], laidTests := true, laidLooks := .later }
def FnHeapRetUptoCardSaid : Prop := Claim7.holds Tryz.pinned (.plain (OpenSpec.upto fnHeapRetSpec)) fnHeapRetUptoCard

/-- THE SECOND FORM's CARD OF 'laws.FnHeapHere'. -/
def fnHeapHereUptoCard : Claim7 := { stood := { row := fnHeapHereUptoRow, standIns := [], harness := (true, "cae680ec7684e993e64ba15bf186ece6cfddb1d3e1394b520dd056029cd9c09e"), looks := false }, kinds := [], alts := [], laidByText := true, laidKinds := [.data], laidTests := true, laidLooks := .later }
def FnHeapHereUptoCardSaid : Prop := Claim7.holds Tryz.pinned (.plain (OpenSpec.upto fnHeapHereSpec)) fnHeapHereUptoCard

/-- THE SECOND FORM's CARD OF 'laws.FnHeapSender'. -/
def fnHeapSenderUptoCard : Claim7 := { stood := { row := fnHeapSenderUptoRow, standIns := [], harness := (true, "cae680ec7684e993e64ba15bf186ece6cfddb1d3e1394b520dd056029cd9c09e"), looks := false }, kinds := [], alts := [], laidByText := true, laidKinds := [.data], laidTests := true, laidLooks := .later }
def FnHeapSenderUptoCardSaid : Prop := Claim7.holds Tryz.pinned (.plain (OpenSpec.upto fnHeapSenderSpec)) fnHeapSenderUptoCard

/-- THE SECOND FORM's CARD OF 'laws.FnHeapPeek'. -/
def fnHeapPeekUptoCard : Claim7 := { stood := { row := fnHeapPeekUptoRow, standIns := [], harness := (true, "cae680ec7684e993e64ba15bf186ece6cfddb1d3e1394b520dd056029cd9c09e"), looks := false }, kinds := [], alts := [], laidByText := true, laidKinds := [.data], laidTests := true, laidLooks := .later }
def FnHeapPeekUptoCardSaid : Prop := Claim7.holds Tryz.pinned (.plain (OpenSpec.upto fnHeapPeekSpec)) fnHeapPeekUptoCard

/-- THE SECOND FORM's CARD OF 'laws.FnHeapPoke'. -/
def fnHeapPokeUptoCard : Claim7 := { stood := { row := fnHeapPokeUptoRow, standIns := [], harness := (true, "cae680ec7684e993e64ba15bf186ece6cfddb1d3e1394b520dd056029cd9c09e"), looks := false }, kinds := [], alts := [], laidByText := true, laidKinds := [.data], laidTests := true, laidLooks := .later }
def FnHeapPokeUptoCardSaid : Prop := Claim7.holds Tryz.pinned (.plain (OpenSpec.upto fnHeapPokeSpec)) fnHeapPokeUptoCard

/-- THE SECOND FORM's CARD OF 'laws.FnHeapBack'. -/
def fnHeapBackUptoCard : Claim7 := { stood := { row := fnHeapBackUptoRow, standIns := [], harness := (true, "cae680ec7684e993e64ba15bf186ece6cfddb1d3e1394b520dd056029cd9c09e"), looks := false }, kinds := [], alts := [], laidByText := true, laidKinds := [.data], laidTests := true, laidLooks := .later }
def FnHeapBackUptoCardSaid : Prop := Claim7.holds Tryz.pinned (.plain (OpenSpec.upto fnHeapBackSpec)) fnHeapBackUptoCard

/-- THE SECOND FORM's CARD OF 'laws.FnHeapSay'. -/
def fnHeapSayUptoCard : Claim7 := { stood := { row := fnHeapSayUptoRow, standIns := [], harness := (true, "cae680ec7684e993e64ba15bf186ece6cfddb1d3e1394b520dd056029cd9c09e"), looks := false }, kinds := [], alts := [], laidByText := true, laidKinds := [.data], laidTests := true, laidLooks := .later }
def FnHeapSayUptoCardSaid : Prop := Claim7.holds Tryz.pinned (.plain (OpenSpec.upto fnHeapSaySpec)) fnHeapSayUptoCard
end Rows
end Go.Proofs.YtoaalcijdcmboabGreatDoor
