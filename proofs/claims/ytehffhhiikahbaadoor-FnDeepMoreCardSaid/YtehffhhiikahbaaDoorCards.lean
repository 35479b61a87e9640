/-
  DERIVED. GIVEN WITH THE SEED: THE CARDS: each row of YtehffhhiikahbaaDoorRows.lean that lists a variable, with what it lists TIED to the program's text (the seventh form; the later family's looks); each row that meets fmt, with fmt's text TOLD by the authors' own Lean function (tested against real Go, not proved from fmt's source: count such statements apart). THE CARD IS WHAT COUNTS. Prove the row's statement (the work); the ties are given (YtehffhhiikahbaaDoorTie.lean); close each card by the builder's one call (the guide's Derived/Test/ToyasCard.lean, 'card_holds'). Laid BY PROGRAM, IN A SANDBOX (cutbox-door.mjs). By AI agents, Wed Nov 11 2026. No macro, syntax, notation, axiom, sorry.
-/
import Derived.Test.YtehffhhiikahbaaDoorRows
import GoSem.ClaimSeven
namespace Go.Proofs.YtehffhhiikahbaaDoor
namespace Rows

/-- THE TIED CARD OF 'laws.FnOpTakes'. -/
def fnOpTakesCard : Claim7 := { stood := { row := fnOpTakesRow, standIns := [], harness := (true, "b8b7882e9e99acc3d28b1a8811610cf36dbc2f9a046d599bf38e76545eabb305"), looks := false }, kinds := [], alts := [], laidByText := true, laidKinds := [.data], laidTests := true, laidLooks := .later }
def FnOpTakesCardSaid : Prop := Claim7.holds Tryd.pinned (.plain (OpenSpec.ofChange fnOpTakesSpec)) fnOpTakesCard

/-- THE TIED CARD OF 'laws.FnDeepAt'. -/
def fnDeepAtCard : Claim7 := { stood := { row := fnDeepAtRow, standIns := [], harness := (true, "b8b7882e9e99acc3d28b1a8811610cf36dbc2f9a046d599bf38e76545eabb305"), looks := false }, kinds := [], alts := [], laidByText := true, laidKinds := [.data], laidTests := true, laidLooks := .later }
def FnDeepAtCardSaid : Prop := Claim7.holds Tryd.pinned (.plain (OpenSpec.ofChange fnDeepAtSpec)) fnDeepAtCard

/-- THE TIED CARD OF 'laws.FnDeepMost'. -/
def fnDeepMostCard : Claim7 := { stood := { row := fnDeepMostRow, standIns := [], harness := (true, "b8b7882e9e99acc3d28b1a8811610cf36dbc2f9a046d599bf38e76545eabb305"), looks := false }, kinds := [], alts := [], laidByText := true, laidKinds := [.data], laidTests := true, laidLooks := .later }
def FnDeepMostCardSaid : Prop := Claim7.holds Tryd.pinned (.plain (OpenSpec.ofChange fnDeepMostSpec)) fnDeepMostCard

/-- THE TIED CARD OF 'laws.FnDeepOk'. -/
def fnDeepOkCard : Claim7 := { stood := { row := fnDeepOkRow, standIns := [], harness := (true, "b8b7882e9e99acc3d28b1a8811610cf36dbc2f9a046d599bf38e76545eabb305"), looks := false }, kinds := [], alts := [], laidByText := true, laidKinds := [.data], laidTests := true, laidLooks := .later }
def FnDeepOkCardSaid : Prop := Claim7.holds Tryd.pinned (.plain (OpenSpec.ofChange fnDeepOkSpec)) fnDeepOkCard

/-- THE TIED CARD OF 'laws.FnDeepMore'. -/
def fnDeepMoreCard : Claim7 := { stood := { row := fnDeepMoreRow, standIns := [], harness := (true, "b8b7882e9e99acc3d28b1a8811610cf36dbc2f9a046d599bf38e76545eabb305"), looks := false }, kinds := [], alts := [], laidByText := true, laidKinds := [.data], laidTests := true, laidLooks := .later }
def FnDeepMoreCardSaid : Prop := Claim7.holds Tryd.pinned (.plain (OpenSpec.ofChange fnDeepMoreSpec)) fnDeepMoreCard

/-- THE SECOND FORM's CARD OF 'laws.FnOpTakes'. -/
def fnOpTakesUptoCard : Claim7 := { stood := { row := fnOpTakesUptoRow, standIns := [], harness := (true, "b8b7882e9e99acc3d28b1a8811610cf36dbc2f9a046d599bf38e76545eabb305"), looks := false }, kinds := [], alts := [], laidByText := true, laidKinds := [.data], laidTests := true, laidLooks := .later }
def FnOpTakesUptoCardSaid : Prop := Claim7.holds Tryd.pinned (.plain (OpenSpec.upto fnOpTakesSpec)) fnOpTakesUptoCard

/-- THE SECOND FORM's CARD OF 'laws.FnDeepAt'. -/
def fnDeepAtUptoCard : Claim7 := { stood := { row := fnDeepAtUptoRow, standIns := [], harness := (true, "b8b7882e9e99acc3d28b1a8811610cf36dbc2f9a046d599bf38e76545eabb305"), looks := false }, kinds := [], alts := [], laidByText := true, laidKinds := [.data], laidTests := true, laidLooks := .later }
def FnDeepAtUptoCardSaid : Prop := Claim7.holds Tryd.pinned (.plain (OpenSpec.upto fnDeepAtSpec)) fnDeepAtUptoCard

/-- THE SECOND FORM's CARD OF 'laws.FnDeepMost'. -/
def fnDeepMostUptoCard : Claim7 := { stood := { row := fnDeepMostUptoRow, standIns := [], harness := (true, "b8b7882e9e99acc3d28b1a8811610cf36dbc2f9a046d599bf38e76545eabb305"), looks := false }, kinds := [], alts := [], laidByText := true, laidKinds := [.data], laidTests := true, laidLooks := .later }
def FnDeepMostUptoCardSaid : Prop := Claim7.holds Tryd.pinned (.plain (OpenSpec.upto fnDeepMostSpec)) fnDeepMostUptoCard

/-- THE SECOND FORM's CARD OF 'laws.FnDeepOk'. -/
def fnDeepOkUptoCard : Claim7 := { stood := { row := fnDeepOkUptoRow, standIns := [], harness := (true, "b8b7882e9e99acc3d28b1a8811610cf36dbc2f9a046d599bf38e76545eabb305"), looks := false }, kinds := [], alts := [], laidByText := true, laidKinds := [.data], laidTests := true, laidLooks := .later }
def FnDeepOkUptoCardSaid : Prop := Claim7.holds Tryd.pinned (.plain (OpenSpec.upto fnDeepOkSpec)) fnDeepOkUptoCard

/-- THE SECOND FORM's CARD OF 'laws.FnDeepMore'. -/
def fnDeepMoreUptoCard : Claim7 := { stood := { row := fnDeepMoreUptoRow, standIns := [], harness := (true, "b8b7882e9e99acc3d28b1a8811610cf36dbc2f9a046d599bf38e76545eabb305"), looks := false }, kinds := [], alts := [], laidByText := true, laidKinds := [.data], laidTests := true, laidLooks := .later }
def FnDeepMoreUptoCardSaid : Prop := Claim7.holds Tryd.pinned (.plain (OpenSpec.upto fnDeepMoreSpec)) fnDeepMoreUptoCard
end Rows
end Go.Proofs.YtehffhhiikahbaaDoor
