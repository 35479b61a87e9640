/-
  DERIVED. GIVEN WITH THE SEED: THE CARDS: each row of YtindklhklnpfgaaGreatDoorRows.lean that lists a variable, with what it lists TIED to the program's text (the seventh form; the later family's looks); each row that meets fmt, with fmt's text TOLD by the authors' own Lean function (tested against real Go, not proved from fmt's source: count such statements apart). THE CARD IS WHAT COUNTS. Prove the row's statement (the work); the ties are given (YtindklhklnpfgaaGreatDoorTie.lean); close each card by the builder's one call (the guide's Derived/Test/ToyasCard.lean, 'card_holds'). Laid BY PROGRAM, IN A SANDBOX (cutbox-door.mjs). By AI agents, Wed Nov 11 2026. No macro, syntax, notation, axiom, sorry.
-/
import Derived.Test.YtindklhklnpfgaaGreatDoorRows
import GoSem.ClaimSeven
namespace Go.Proofs.YtindklhklnpfgaaGreatDoor
namespace Rows

/-- THE TIED CARD OF 'laws.FnHeapNum'. -/
def fnHeapNumCard : Claim7 := { stood := { row := fnHeapNumRow, standIns := [], harness := (true, "e458a4b8417e68a117baffc2fe8afc4b0442c8c0a15759c575f0df1dddccb0b8"), looks := false }, kinds := [], alts := [], laidByText := true, laidKinds := [.data], laidTests := true, laidLooks := .later }
def FnHeapNumCardSaid : Prop := Claim7.holds Tryz.pinned (.plain (OpenSpec.ofChange fnHeapNumSpec)) fnHeapNumCard

/-- THE TIED CARD OF 'laws.FnHeapTemp'. -/
def fnHeapTempCard : Claim7 := { stood := { row := fnHeapTempRow, standIns := [], harness := (true, "e458a4b8417e68a117baffc2fe8afc4b0442c8c0a15759c575f0df1dddccb0b8"), looks := false }, kinds := [], alts := [], laidByText := true, laidKinds := [.data], laidTests := true, laidLooks := .later }
def FnHeapTempCardSaid : Prop := Claim7.holds Tryz.pinned (.plain (OpenSpec.ofChange fnHeapTempSpec)) fnHeapTempCard

/-- THE TIED CARD OF 'laws.FnHeapSet'. -/
def fnHeapSetCard : Claim7 := { stood := { row := fnHeapSetRow, standIns := [], harness := (true, "e458a4b8417e68a117baffc2fe8afc4b0442c8c0a15759c575f0df1dddccb0b8"), looks := false }, kinds := [], alts := [], laidByText := true, laidKinds := [.data], laidTests := true, laidLooks := .later }
def FnHeapSetCardSaid : Prop := Claim7.holds Tryz.pinned (.plain (OpenSpec.ofChange fnHeapSetSpec)) fnHeapSetCard

/-- THE TIED CARD OF 'laws.FnHeapDrop'. -/
def fnHeapDropCard : Claim7 := { stood := { row := fnHeapDropRow, standIns := [], harness := (true, "e458a4b8417e68a117baffc2fe8afc4b0442c8c0a15759c575f0df1dddccb0b8"), looks := false }, kinds := [], alts := [], laidByText := true, laidKinds := [.data], laidTests := true, laidLooks := .later }
def FnHeapDropCardSaid : Prop := Claim7.holds Tryz.pinned (.plain (OpenSpec.ofChange fnHeapDropSpec)) fnHeapDropCard

/-- THE TIED CARD OF 'laws.FnHeapAdd'. -/
def fnHeapAddCard : Claim7 := { stood := { row := fnHeapAddRow, standIns := [], harness := (true, "e458a4b8417e68a117baffc2fe8afc4b0442c8c0a15759c575f0df1dddccb0b8"), looks := false }, kinds := [], alts := [], laidByText := true, laidKinds := [.data], laidTests := true, laidLooks := .later }
def FnHeapAddCardSaid : Prop := Claim7.holds Tryz.pinned (.plain (OpenSpec.ofChange fnHeapAddSpec)) fnHeapAddCard

/-- THE TIED CARD OF 'laws.FnHeapLook'. -/
def fnHeapLookCard : Claim7 := { stood := { row := fnHeapLookRow, standIns := [], harness := (true, "e458a4b8417e68a117baffc2fe8afc4b0442c8c0a15759c575f0df1dddccb0b8"), looks := false }, kinds := [], alts := [], laidByText := true, laidKinds := [.data], laidTests := true, laidLooks := .later }
def FnHeapLookCardSaid : Prop := Claim7.holds Tryz.pinned (.plain (OpenSpec.ofChange fnHeapLookSpec)) fnHeapLookCard

/-- THE TIED CARD OF 'laws.FnHeapWhere'. -/
def fnHeapWhereCard : Claim7 := { stood := { row := fnHeapWhereRow, standIns := [], harness := (true, "e458a4b8417e68a117baffc2fe8afc4b0442c8c0a15759c575f0df1dddccb0b8"), looks := false }, kinds := [], alts := [], laidByText := true, laidKinds := [.data], laidTests := true, laidLooks := .later }
def FnHeapWhereCardSaid : Prop := Claim7.holds Tryz.pinned (.plain (OpenSpec.ofChange fnHeapWhereSpec)) fnHeapWhereCard

/-- THE TIED CARD OF 'laws.FnHeapRoom'. -/
def fnHeapRoomCard : Claim7 := { stood := { row := fnHeapRoomRow, standIns := [], harness := (true, "e458a4b8417e68a117baffc2fe8afc4b0442c8c0a15759c575f0df1dddccb0b8"), looks := false }, kinds := [], alts := [], laidByText := true, laidKinds := [.data], laidTests := true, laidLooks := .later }
def FnHeapRoomCardSaid : Prop := Claim7.holds Tryz.pinned (.plain (OpenSpec.ofChange fnHeapRoomSpec)) fnHeapRoomCard

/-- THE SECOND FORM's CARD OF 'laws.FnHeapNum'. -/
def fnHeapNumUptoCard : Claim7 := { stood := { row := fnHeapNumUptoRow, standIns := [], harness := (true, "e458a4b8417e68a117baffc2fe8afc4b0442c8c0a15759c575f0df1dddccb0b8"), looks := false }, kinds := [], alts := [], laidByText := true, laidKinds := [.data], laidTests := true, laidLooks := .later }
def FnHeapNumUptoCardSaid : Prop := Claim7.holds Tryz.pinned (.plain (OpenSpec.upto fnHeapNumSpec)) fnHeapNumUptoCard

/-- THE SECOND FORM's CARD OF 'laws.FnHeapTemp'. -/
def fnHeapTempUptoCard : Claim7 := { stood := { row := fnHeapTempUptoRow, standIns := [], harness := (true, "e458a4b8417e68a117baffc2fe8afc4b0442c8c0a15759c575f0df1dddccb0b8"), looks := false }, kinds := [], alts := [], laidByText := true, laidKinds := [.data], laidTests := true, laidLooks := .later }
def FnHeapTempUptoCardSaid : Prop := Claim7.holds Tryz.pinned (.plain (OpenSpec.upto fnHeapTempSpec)) fnHeapTempUptoCard

/-- THE SECOND FORM's CARD OF 'laws.FnHeapSet'. -/
def fnHeapSetUptoCard : Claim7 := { stood := { row := fnHeapSetUptoRow, standIns := [], harness := (true, "e458a4b8417e68a117baffc2fe8afc4b0442c8c0a15759c575f0df1dddccb0b8"), looks := false }, kinds := [], alts := [], laidByText := true, laidKinds := [.data], laidTests := true, laidLooks := .later }
def FnHeapSetUptoCardSaid : Prop := Claim7.holds Tryz.pinned (.plain (OpenSpec.upto fnHeapSetSpec)) fnHeapSetUptoCard

/-- THE SECOND FORM's CARD OF 'laws.FnHeapDrop'. -/
def fnHeapDropUptoCard : Claim7 := { stood := { row := fnHeapDropUptoRow, standIns := [], harness := (true, "e458a4b8417e68a117baffc2fe8afc4b0442c8c0a15759c575f0df1dddccb0b8"), looks := false }, kinds := [], alts := [], laidByText := true, laidKinds := [.data], laidTests := true, laidLooks := .later }
def FnHeapDropUptoCardSaid : Prop := Claim7.holds Tryz.pinned (.plain (OpenSpec.upto fnHeapDropSpec)) fnHeapDropUptoCard

/-- THE SECOND FORM's CARD OF 'laws.FnHeapAdd'. -/
def fnHeapAddUptoCard : Claim7 := { stood := { row := fnHeapAddUptoRow, standIns := [], harness := (true, "e458a4b8417e68a117baffc2fe8afc4b0442c8c0a15759c575f0df1dddccb0b8"), looks := false }, kinds := [], alts := [], laidByText := true, laidKinds := [.data], laidTests := true, laidLooks := .later }
def FnHeapAddUptoCardSaid : Prop := Claim7.holds Tryz.pinned (.plain (OpenSpec.upto fnHeapAddSpec)) fnHeapAddUptoCard

/-- THE SECOND FORM's CARD OF 'laws.FnHeapLook'. -/
def fnHeapLookUptoCard : Claim7 := { stood := { row := fnHeapLookUptoRow, standIns := [], harness := (true, "e458a4b8417e68a117baffc2fe8afc4b0442c8c0a15759c575f0df1dddccb0b8"), looks := false }, kinds := [], alts := [], laidByText := true, laidKinds := [.data], laidTests := true, laidLooks := .later }
def FnHeapLookUptoCardSaid : Prop := Claim7.holds Tryz.pinned (.plain (OpenSpec.upto fnHeapLookSpec)) fnHeapLookUptoCard

/-- THE SECOND FORM's CARD OF 'laws.FnHeapWhere'. -/
def fnHeapWhereUptoCard : Claim7 := { stood := { row := fnHeapWhereUptoRow, standIns := [], harness := (true, "e458a4b8417e68a117baffc2fe8afc4b0442c8c0a15759c575f0df1dddccb0b8"), looks := false }, kinds := [], alts := [], laidByText := true, laidKinds := [.data], laidTests := true, laidLooks := .later }
def FnHeapWhereUptoCardSaid : Prop := Claim7.holds Tryz.pinned (.plain (OpenSpec.upto fnHeapWhereSpec)) fnHeapWhereUptoCard

/-- THE SECOND FORM's CARD OF 'laws.FnHeapRoom'. -/
def fnHeapRoomUptoCard : Claim7 := { stood := { row := fnHeapRoomUptoRow, standIns := [], harness := (true, "e458a4b8417e68a117baffc2fe8afc4b0442c8c0a15759c575f0df1dddccb0b8"), looks := false }, kinds := [], alts := [], laidByText := true, laidKinds := [.data], laidTests := true, laidLooks := .later }
def FnHeapRoomUptoCardSaid : Prop := Claim7.holds Tryz.pinned (.plain (OpenSpec.upto fnHeapRoomSpec)) fnHeapRoomUptoCard
end Rows
end Go.Proofs.YtindklhklnpfgaaGreatDoor
