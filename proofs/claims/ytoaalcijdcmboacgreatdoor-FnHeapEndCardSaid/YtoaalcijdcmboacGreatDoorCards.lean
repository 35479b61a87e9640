/-
  DERIVED. GIVEN WITH THE SEED: THE CARDS: each row of YtoaalcijdcmboacGreatDoorRows.lean that lists a variable, with what it lists TIED to the program's text (the seventh form; the later family's looks); each row that meets fmt, with fmt's text TOLD by the authors' own Lean function (tested against real Go, not proved from fmt's source: count such statements apart). THE CARD IS WHAT COUNTS. Prove the row's statement (the work); the ties are given (YtoaalcijdcmboacGreatDoorTie.lean); close each card by the builder's one call (the guide's Derived/Test/ToyasCard.lean, 'card_holds'). Laid BY PROGRAM, IN A SANDBOX (cutbox-door.mjs). By AI agents, Wed Nov 11 2026. No macro, syntax, notation, axiom, sorry.
-/
import Derived.Test.YtoaalcijdcmboacGreatDoorRows
import GoSem.ClaimSeven
namespace Go.Proofs.YtoaalcijdcmboacGreatDoor
namespace Rows

/-- THE TIED CARD OF 'laws.FnHeapLook'. -/
def fnHeapLookCard : Claim7 := { stood := { row := fnHeapLookRow, standIns := [], harness := (true, "fffba67bd56966407b7fe6f9da591fedc9e4ec137a53752e8f26053fefa19c97"), looks := false }, kinds := [], alts := [], laidByText := true, laidKinds := [.data], laidTests := true, laidLooks := .later }
def FnHeapLookCardSaid : Prop := Claim7.holds Tryz.pinned (.plain (OpenSpec.ofChange fnHeapLookSpec)) fnHeapLookCard

/-- THE TIED CARD OF 'laws.FnHeapWhere'. -/
def fnHeapWhereCard : Claim7 := { stood := { row := fnHeapWhereRow, standIns := [], harness := (true, "fffba67bd56966407b7fe6f9da591fedc9e4ec137a53752e8f26053fefa19c97"), looks := false }, kinds := [], alts := [], laidByText := true, laidKinds := [.data], laidTests := true, laidLooks := .later }
def FnHeapWhereCardSaid : Prop := Claim7.holds Tryz.pinned (.plain (OpenSpec.ofChange fnHeapWhereSpec)) fnHeapWhereCard

/-- THE TIED CARD OF 'laws.FnHeapRoom'. -/
def fnHeapRoomCard : Claim7 := { stood := { row := fnHeapRoomRow, standIns := [], harness := (true, "fffba67bd56966407b7fe6f9da591fedc9e4ec137a53752e8f26053fefa19c97"), looks := false }, kinds := [], alts := [], laidByText := true, laidKinds := [.data], laidTests := true, laidLooks := .later }
def FnHeapRoomCardSaid : Prop := Claim7.holds Tryz.pinned (.plain (OpenSpec.ofChange fnHeapRoomSpec)) fnHeapRoomCard

/-- THE TIED CARD OF 'laws.FnHeapBorn'. -/
def fnHeapBornCard : Claim7 := { stood := { row := fnHeapBornRow, standIns := [], harness := (true, "fffba67bd56966407b7fe6f9da591fedc9e4ec137a53752e8f26053fefa19c97"), looks := false }, kinds := [], alts := [], laidByText := true, laidKinds := [.data], laidTests := true, laidLooks := .later }
def FnHeapBornCardSaid : Prop := Claim7.holds Tryz.pinned (.plain (OpenSpec.ofChange fnHeapBornSpec)) fnHeapBornCard

/-- THE TIED CARD OF 'laws.FnHeapSaidFew'. -/
def fnHeapSaidFewCard : Claim7 := { stood := { row := fnHeapSaidFewRow, standIns := [], harness := (true, "fffba67bd56966407b7fe6f9da591fedc9e4ec137a53752e8f26053fefa19c97"), looks := false }, kinds := [], alts := [], laidByText := true, laidKinds := [.data], laidTests := true, laidLooks := .later }
def FnHeapSaidFewCardSaid : Prop := Claim7.holds Tryz.pinned (.plain (OpenSpec.ofChange fnHeapSaidFewSpec)) fnHeapSaidFewCard

/-- THE TIED CARD OF 'laws.FnHeapEnd'. -/
def fnHeapEndCard : Claim7 := { stood := { row := fnHeapEndRow, standIns := [], harness := (true, "fffba67bd56966407b7fe6f9da591fedc9e4ec137a53752e8f26053fefa19c97"), looks := false }, kinds := [], alts := [], laidByText := true, laidKinds := [.data], laidTests := true, laidLooks := .later }
def FnHeapEndCardSaid : Prop := Claim7.holds Tryz.pinned (.plain (OpenSpec.ofChange fnHeapEndSpec)) fnHeapEndCard

/-- THE TIED CARD OF 'laws.FnHeapNoLook'. -/
def fnHeapNoLookCard : Claim7 := { stood := { row := fnHeapNoLookRow, standIns := [], harness := (true, "fffba67bd56966407b7fe6f9da591fedc9e4ec137a53752e8f26053fefa19c97"), looks := false }, kinds := [], alts := [], laidByText := true, laidKinds := [.data], laidTests := true, laidLooks := .later }
def FnHeapNoLookCardSaid : Prop := Claim7.holds Tryz.pinned (.plain (OpenSpec.ofChange fnHeapNoLookSpec)) fnHeapNoLookCard

/-- THE TIED CARD OF 'laws.FnHeapMethod'. -/
def fnHeapMethodCard : Claim7 := { stood := { row := fnHeapMethodRow, standIns := [], harness := (true, "fffba67bd56966407b7fe6f9da591fedc9e4ec137a53752e8f26053fefa19c97"), looks := false }, kinds := [], alts := [], laidByText := true, laidKinds := [.data], laidTests := true, laidLooks := .later }
def FnHeapMethodCardSaid : Prop := Claim7.holds Tryz.pinned (.plain (OpenSpec.ofChange fnHeapMethodSpec)) fnHeapMethodCard

/-- THE SECOND FORM's CARD OF 'laws.FnHeapLook'. -/
def fnHeapLookUptoCard : Claim7 := { stood := { row := fnHeapLookUptoRow, standIns := [], harness := (true, "fffba67bd56966407b7fe6f9da591fedc9e4ec137a53752e8f26053fefa19c97"), looks := false }, kinds := [], alts := [], laidByText := true, laidKinds := [.data], laidTests := true, laidLooks := .later }
def FnHeapLookUptoCardSaid : Prop := Claim7.holds Tryz.pinned (.plain (OpenSpec.upto fnHeapLookSpec)) fnHeapLookUptoCard

/-- THE SECOND FORM's CARD OF 'laws.FnHeapWhere'. -/
def fnHeapWhereUptoCard : Claim7 := { stood := { row := fnHeapWhereUptoRow, standIns := [], harness := (true, "fffba67bd56966407b7fe6f9da591fedc9e4ec137a53752e8f26053fefa19c97"), looks := false }, kinds := [], alts := [], laidByText := true, laidKinds := [.data], laidTests := true, laidLooks := .later }
def FnHeapWhereUptoCardSaid : Prop := Claim7.holds Tryz.pinned (.plain (OpenSpec.upto fnHeapWhereSpec)) fnHeapWhereUptoCard

/-- THE SECOND FORM's CARD OF 'laws.FnHeapRoom'. -/
def fnHeapRoomUptoCard : Claim7 := { stood := { row := fnHeapRoomUptoRow, standIns := [], harness := (true, "fffba67bd56966407b7fe6f9da591fedc9e4ec137a53752e8f26053fefa19c97"), looks := false }, kinds := [], alts := [], laidByText := true, laidKinds := [.data], laidTests := true, laidLooks := .later }
def FnHeapRoomUptoCardSaid : Prop := Claim7.holds Tryz.pinned (.plain (OpenSpec.upto fnHeapRoomSpec)) fnHeapRoomUptoCard

/-- THE SECOND FORM's CARD OF 'laws.FnHeapBorn'. -/
def fnHeapBornUptoCard : Claim7 := { stood := { row := fnHeapBornUptoRow, standIns := [], harness := (true, "fffba67bd56966407b7fe6f9da591fedc9e4ec137a53752e8f26053fefa19c97"), looks := false }, kinds := [], alts := [], laidByText := true, laidKinds := [.data], laidTests := true, laidLooks := .later }
def FnHeapBornUptoCardSaid : Prop := Claim7.holds Tryz.pinned (.plain (OpenSpec.upto fnHeapBornSpec)) fnHeapBornUptoCard

/-- THE SECOND FORM's CARD OF 'laws.FnHeapSaidFew'. -/
def fnHeapSaidFewUptoCard : Claim7 := { stood := { row := fnHeapSaidFewUptoRow, standIns := [], harness := (true, "fffba67bd56966407b7fe6f9da591fedc9e4ec137a53752e8f26053fefa19c97"), looks := false }, kinds := [], alts := [], laidByText := true, laidKinds := [.data], laidTests := true, laidLooks := .later }
def FnHeapSaidFewUptoCardSaid : Prop := Claim7.holds Tryz.pinned (.plain (OpenSpec.upto fnHeapSaidFewSpec)) fnHeapSaidFewUptoCard

/-- THE SECOND FORM's CARD OF 'laws.FnHeapEnd'. -/
def fnHeapEndUptoCard : Claim7 := { stood := { row := fnHeapEndUptoRow, standIns := [], harness := (true, "fffba67bd56966407b7fe6f9da591fedc9e4ec137a53752e8f26053fefa19c97"), looks := false }, kinds := [], alts := [], laidByText := true, laidKinds := [.data], laidTests := true, laidLooks := .later }
def FnHeapEndUptoCardSaid : Prop := Claim7.holds Tryz.pinned (.plain (OpenSpec.upto fnHeapEndSpec)) fnHeapEndUptoCard

/-- THE SECOND FORM's CARD OF 'laws.FnHeapNoLook'. -/
def fnHeapNoLookUptoCard : Claim7 := { stood := { row := fnHeapNoLookUptoRow, standIns := [], harness := (true, "fffba67bd56966407b7fe6f9da591fedc9e4ec137a53752e8f26053fefa19c97"), looks := false }, kinds := [], alts := [], laidByText := true, laidKinds := [.data], laidTests := true, laidLooks := .later }
def FnHeapNoLookUptoCardSaid : Prop := Claim7.holds Tryz.pinned (.plain (OpenSpec.upto fnHeapNoLookSpec)) fnHeapNoLookUptoCard

/-- THE SECOND FORM's CARD OF 'laws.FnHeapMethod'. -/
def fnHeapMethodUptoCard : Claim7 := { stood := { row := fnHeapMethodUptoRow, standIns := [], harness := (true, "fffba67bd56966407b7fe6f9da591fedc9e4ec137a53752e8f26053fefa19c97"), looks := false }, kinds := [], alts := [], laidByText := true, laidKinds := [.data], laidTests := true, laidLooks := .later }
def FnHeapMethodUptoCardSaid : Prop := Claim7.holds Tryz.pinned (.plain (OpenSpec.upto fnHeapMethodSpec)) fnHeapMethodUptoCard
end Rows
end Go.Proofs.YtoaalcijdcmboacGreatDoor
