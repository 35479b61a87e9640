/-
  DERIVED. GIVEN WITH THE SEED: THE CARDS: each row of YtohpoknfmlajgaaDoorRows.lean that lists a variable, with what it lists TIED to the program's text (the seventh form; the later family's looks); each row that meets fmt, with fmt's text TOLD by the authors' own Lean function (tested against real Go, not proved from fmt's source: count such statements apart). THE CARD IS WHAT COUNTS. Prove the row's statement (the work); the ties are given (YtohpoknfmlajgaaDoorTie.lean); close each card by the builder's one call (the guide's Derived/Test/ToyasCard.lean, 'card_holds'). Laid BY PROGRAM, IN A SANDBOX (cutbox-door.mjs). By AI agents, Wed Nov 11 2026. No macro, syntax, notation, axiom, sorry.
-/
import Derived.Test.YtohpoknfmlajgaaDoorRows
import GoSem.ClaimSeven
namespace Go.Proofs.YtohpoknfmlajgaaDoor
namespace Rows

/-- THE TIED CARD OF 'laws.FnProgBack'. -/
def fnProgBackCard : Claim7 := { stood := { row := fnProgBackRow, standIns := [], harness := (true, "2cc400991c0d571041e06aea381e1ef3fc4c5b359be0f1e1c5ee9a44d6469e63"), looks := true }, kinds := [], alts := [], laidByText := true, laidKinds := [.data, .data, .data, .data], laidTests := true, laidLooks := .later }
def FnProgBackCardSaid : Prop := Claim7.holds Tryd.pinned (.plain (OpenSpec.ofChange fnProgBackSpec)) fnProgBackCard

/-- THE TIED CARD OF 'laws.FnProgStrict'. -/
def fnProgStrictCard : Claim7 := { stood := { row := fnProgStrictRow, standIns := [], harness := (true, "2cc400991c0d571041e06aea381e1ef3fc4c5b359be0f1e1c5ee9a44d6469e63"), looks := true }, kinds := [], alts := [], laidByText := true, laidKinds := [.data, .data, .data, .data], laidTests := true, laidLooks := .later }
def FnProgStrictCardSaid : Prop := Claim7.holds Tryd.pinned (.plain (OpenSpec.ofChange fnProgStrictSpec)) fnProgStrictCard

/-- THE TIED CARD OF 'laws.FnProgOne'. -/
def fnProgOneCard : Claim7 := { stood := { row := fnProgOneRow, standIns := [], harness := (true, "2cc400991c0d571041e06aea381e1ef3fc4c5b359be0f1e1c5ee9a44d6469e63"), looks := true }, kinds := [], alts := [], laidByText := true, laidKinds := [.data, .data, .data, .data], laidTests := true, laidLooks := .later }
def FnProgOneCardSaid : Prop := Claim7.holds Tryd.pinned (.plain (OpenSpec.ofChange fnProgOneSpec)) fnProgOneCard

/-- THE TIED CARD OF 'laws.FnExactProgText'. -/
def fnExactProgTextCard : Claim7 := { stood := { row := fnExactProgTextRow, standIns := [], harness := (true, "2cc400991c0d571041e06aea381e1ef3fc4c5b359be0f1e1c5ee9a44d6469e63"), looks := true }, kinds := [], alts := [], laidByText := true, laidKinds := [.data, .data, .data, .data], laidTests := true, laidLooks := .later }
def FnExactProgTextCardSaid : Prop := Claim7.holds Tryd.pinned (.plain (OpenSpec.ofChange fnExactProgTextSpec)) fnExactProgTextCard

/-- THE TIED CARD OF 'laws.FnExactProgRead'. -/
def fnExactProgReadCard : Claim7 := { stood := { row := fnExactProgReadRow, standIns := [], harness := (true, "2cc400991c0d571041e06aea381e1ef3fc4c5b359be0f1e1c5ee9a44d6469e63"), looks := true }, kinds := [], alts := [], laidByText := true, laidKinds := [.data, .data, .data, .data], laidTests := true, laidLooks := .later }
def FnExactProgReadCardSaid : Prop := Claim7.holds Tryd.pinned (.plain (OpenSpec.ofChange fnExactProgReadSpec)) fnExactProgReadCard

/-- THE SECOND FORM's CARD OF 'laws.FnProgBack'. -/
def fnProgBackUptoCard : Claim7 := { stood := { row := fnProgBackUptoRow, standIns := [], harness := (true, "2cc400991c0d571041e06aea381e1ef3fc4c5b359be0f1e1c5ee9a44d6469e63"), looks := true }, kinds := [], alts := [], laidByText := true, laidKinds := [.data, .data, .data, .data], laidTests := true, laidLooks := .later }
def FnProgBackUptoCardSaid : Prop := Claim7.holds Tryd.pinned (.plain (OpenSpec.upto fnProgBackSpec)) fnProgBackUptoCard

/-- THE SECOND FORM's CARD OF 'laws.FnProgStrict'. -/
def fnProgStrictUptoCard : Claim7 := { stood := { row := fnProgStrictUptoRow, standIns := [], harness := (true, "2cc400991c0d571041e06aea381e1ef3fc4c5b359be0f1e1c5ee9a44d6469e63"), looks := true }, kinds := [], alts := [], laidByText := true, laidKinds := [.data, .data, .data, .data], laidTests := true, laidLooks := .later }
def FnProgStrictUptoCardSaid : Prop := Claim7.holds Tryd.pinned (.plain (OpenSpec.upto fnProgStrictSpec)) fnProgStrictUptoCard

/-- THE SECOND FORM's CARD OF 'laws.FnProgOne'. -/
def fnProgOneUptoCard : Claim7 := { stood := { row := fnProgOneUptoRow, standIns := [], harness := (true, "2cc400991c0d571041e06aea381e1ef3fc4c5b359be0f1e1c5ee9a44d6469e63"), looks := true }, kinds := [], alts := [], laidByText := true, laidKinds := [.data, .data, .data, .data], laidTests := true, laidLooks := .later }
def FnProgOneUptoCardSaid : Prop := Claim7.holds Tryd.pinned (.plain (OpenSpec.upto fnProgOneSpec)) fnProgOneUptoCard

/-- THE SECOND FORM's CARD OF 'laws.FnExactProgText'. -/
def fnExactProgTextUptoCard : Claim7 := { stood := { row := fnExactProgTextUptoRow, standIns := [], harness := (true, "2cc400991c0d571041e06aea381e1ef3fc4c5b359be0f1e1c5ee9a44d6469e63"), looks := true }, kinds := [], alts := [], laidByText := true, laidKinds := [.data, .data, .data, .data], laidTests := true, laidLooks := .later }
def FnExactProgTextUptoCardSaid : Prop := Claim7.holds Tryd.pinned (.plain (OpenSpec.upto fnExactProgTextSpec)) fnExactProgTextUptoCard

/-- THE SECOND FORM's CARD OF 'laws.FnExactProgRead'. -/
def fnExactProgReadUptoCard : Claim7 := { stood := { row := fnExactProgReadUptoRow, standIns := [], harness := (true, "2cc400991c0d571041e06aea381e1ef3fc4c5b359be0f1e1c5ee9a44d6469e63"), looks := true }, kinds := [], alts := [], laidByText := true, laidKinds := [.data, .data, .data, .data], laidTests := true, laidLooks := .later }
def FnExactProgReadUptoCardSaid : Prop := Claim7.holds Tryd.pinned (.plain (OpenSpec.upto fnExactProgReadSpec)) fnExactProgReadUptoCard
end Rows
end Go.Proofs.YtohpoknfmlajgaaDoor
