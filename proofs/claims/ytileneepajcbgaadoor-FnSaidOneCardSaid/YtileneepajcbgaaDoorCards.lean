/-
  DERIVED. GIVEN WITH THE SEED: THE CARDS: each row of YtileneepajcbgaaDoorRows.lean that lists a variable, with what it lists TIED to the program's text (the seventh form; the later family's looks); each row that meets fmt, with fmt's text TOLD by the authors' own Lean function (tested against real Go, not proved from fmt's source: count such statements apart). THE CARD IS WHAT COUNTS. Prove the row's statement (the work); the ties are given (YtileneepajcbgaaDoorTie.lean); close each card by the builder's one call (the guide's Derived/Test/ToyasCard.lean, 'card_holds'). Laid BY PROGRAM, IN A SANDBOX (cutbox-door.mjs). By AI agents, Wed Nov 11 2026. No macro, syntax, notation, axiom, sorry.
-/
import Derived.Test.YtileneepajcbgaaDoorRows
import GoSem.ClaimSeven
namespace Go.Proofs.YtileneepajcbgaaDoor
namespace Rows

/-- THE TIED CARD OF 'laws.FnSaidText'. -/
def fnSaidTextCard : Claim7 := { stood := { row := fnSaidTextRow, standIns := [], harness := (true, "1cd01c72e3d60313d9efe0b60c37140776bdb0be3e01dbbcf538275d9e6e102c"), looks := false }, kinds := [], alts := [], laidByText := true, laidKinds := [.data, .data, .data], laidTests := true, laidLooks := .later }
def FnSaidTextCardSaid : Prop := Claim7.holds Tryd.pinned (.plain (OpenSpec.ofChange fnSaidTextSpec)) fnSaidTextCard

/-- THE TIED CARD OF 'laws.FnSaidOne'. -/
def fnSaidOneCard : Claim7 := { stood := { row := fnSaidOneRow, standIns := [], harness := (true, "1cd01c72e3d60313d9efe0b60c37140776bdb0be3e01dbbcf538275d9e6e102c"), looks := false }, kinds := [], alts := [], laidByText := true, laidKinds := [.data, .data, .data], laidTests := true, laidLooks := .later }
def FnSaidOneCardSaid : Prop := Claim7.holds Tryd.pinned (.plain (OpenSpec.ofChange fnSaidOneSpec)) fnSaidOneCard

/-- THE SECOND FORM's CARD OF 'laws.FnSaidText'. -/
def fnSaidTextUptoCard : Claim7 := { stood := { row := fnSaidTextUptoRow, standIns := [], harness := (true, "1cd01c72e3d60313d9efe0b60c37140776bdb0be3e01dbbcf538275d9e6e102c"), looks := false }, kinds := [], alts := [], laidByText := true, laidKinds := [.data, .data, .data], laidTests := true, laidLooks := .later }
def FnSaidTextUptoCardSaid : Prop := Claim7.holds Tryd.pinned (.plain (OpenSpec.upto fnSaidTextSpec)) fnSaidTextUptoCard

/-- THE SECOND FORM's CARD OF 'laws.FnSaidOne'. -/
def fnSaidOneUptoCard : Claim7 := { stood := { row := fnSaidOneUptoRow, standIns := [], harness := (true, "1cd01c72e3d60313d9efe0b60c37140776bdb0be3e01dbbcf538275d9e6e102c"), looks := false }, kinds := [], alts := [], laidByText := true, laidKinds := [.data, .data, .data], laidTests := true, laidLooks := .later }
def FnSaidOneUptoCardSaid : Prop := Claim7.holds Tryd.pinned (.plain (OpenSpec.upto fnSaidOneSpec)) fnSaidOneUptoCard
end Rows
end Go.Proofs.YtileneepajcbgaaDoor
