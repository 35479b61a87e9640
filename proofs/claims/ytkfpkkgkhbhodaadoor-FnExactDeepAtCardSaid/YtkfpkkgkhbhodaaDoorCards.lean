/-
  DERIVED. GIVEN WITH THE SEED: THE CARDS: each row of YtkfpkkgkhbhodaaDoorRows.lean that lists a variable, with what it lists TIED to the program's text (the seventh form; the later family's looks); each row that meets fmt, with fmt's text TOLD by the authors' own Lean function (tested against real Go, not proved from fmt's source: count such statements apart). THE CARD IS WHAT COUNTS. Prove the row's statement (the work); the ties are given (YtkfpkkgkhbhodaaDoorTie.lean); close each card by the builder's one call (the guide's Derived/Test/ToyasCard.lean, 'card_holds'). Laid BY PROGRAM, IN A SANDBOX (cutbox-door.mjs). By AI agents, Wed Nov 11 2026. No macro, syntax, notation, axiom, sorry.
-/
import Derived.Test.YtkfpkkgkhbhodaaDoorRows
import GoSem.ClaimSeven
namespace Go.Proofs.YtkfpkkgkhbhodaaDoor
namespace Rows

/-- THE TIED CARD OF 'laws.FnExactDeepAt'. -/
def fnExactDeepAtCard : Claim7 := { stood := { row := fnExactDeepAtRow, standIns := [], harness := (true, "492cea211a400e9f8486eba7cf5d48415a80e6692f5f027a3dc0dc3546e23eea"), looks := false }, kinds := [], alts := [], laidByText := true, laidKinds := [.data], laidTests := true, laidLooks := .later }
def FnExactDeepAtCardSaid : Prop := Claim7.holds Tryd.pinned (.plain (OpenSpec.ofChange fnExactDeepAtSpec)) fnExactDeepAtCard

/-- THE TIED CARD OF 'laws.FnExactDeepMost'. -/
def fnExactDeepMostCard : Claim7 := { stood := { row := fnExactDeepMostRow, standIns := [], harness := (true, "492cea211a400e9f8486eba7cf5d48415a80e6692f5f027a3dc0dc3546e23eea"), looks := false }, kinds := [], alts := [], laidByText := true, laidKinds := [.data], laidTests := true, laidLooks := .later }
def FnExactDeepMostCardSaid : Prop := Claim7.holds Tryd.pinned (.plain (OpenSpec.ofChange fnExactDeepMostSpec)) fnExactDeepMostCard

/-- THE TIED CARD OF 'laws.FnExactDeepOk'. -/
def fnExactDeepOkCard : Claim7 := { stood := { row := fnExactDeepOkRow, standIns := [], harness := (true, "492cea211a400e9f8486eba7cf5d48415a80e6692f5f027a3dc0dc3546e23eea"), looks := false }, kinds := [], alts := [], laidByText := true, laidKinds := [.data], laidTests := true, laidLooks := .later }
def FnExactDeepOkCardSaid : Prop := Claim7.holds Tryd.pinned (.plain (OpenSpec.ofChange fnExactDeepOkSpec)) fnExactDeepOkCard

/-- THE SECOND FORM's CARD OF 'laws.FnExactDeepAt'. -/
def fnExactDeepAtUptoCard : Claim7 := { stood := { row := fnExactDeepAtUptoRow, standIns := [], harness := (true, "492cea211a400e9f8486eba7cf5d48415a80e6692f5f027a3dc0dc3546e23eea"), looks := false }, kinds := [], alts := [], laidByText := true, laidKinds := [.data], laidTests := true, laidLooks := .later }
def FnExactDeepAtUptoCardSaid : Prop := Claim7.holds Tryd.pinned (.plain (OpenSpec.upto fnExactDeepAtSpec)) fnExactDeepAtUptoCard

/-- THE SECOND FORM's CARD OF 'laws.FnExactDeepMost'. -/
def fnExactDeepMostUptoCard : Claim7 := { stood := { row := fnExactDeepMostUptoRow, standIns := [], harness := (true, "492cea211a400e9f8486eba7cf5d48415a80e6692f5f027a3dc0dc3546e23eea"), looks := false }, kinds := [], alts := [], laidByText := true, laidKinds := [.data], laidTests := true, laidLooks := .later }
def FnExactDeepMostUptoCardSaid : Prop := Claim7.holds Tryd.pinned (.plain (OpenSpec.upto fnExactDeepMostSpec)) fnExactDeepMostUptoCard

/-- THE SECOND FORM's CARD OF 'laws.FnExactDeepOk'. -/
def fnExactDeepOkUptoCard : Claim7 := { stood := { row := fnExactDeepOkUptoRow, standIns := [], harness := (true, "492cea211a400e9f8486eba7cf5d48415a80e6692f5f027a3dc0dc3546e23eea"), looks := false }, kinds := [], alts := [], laidByText := true, laidKinds := [.data], laidTests := true, laidLooks := .later }
def FnExactDeepOkUptoCardSaid : Prop := Claim7.holds Tryd.pinned (.plain (OpenSpec.upto fnExactDeepOkSpec)) fnExactDeepOkUptoCard
end Rows
end Go.Proofs.YtkfpkkgkhbhodaaDoor
