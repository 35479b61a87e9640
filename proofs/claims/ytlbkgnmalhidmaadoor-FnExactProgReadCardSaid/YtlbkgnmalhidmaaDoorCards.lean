/-
  DERIVED. GIVEN WITH THE SEED: THE CARDS: each row of YtlbkgnmalhidmaaDoorRows.lean that lists a variable, with what it lists TIED to the program's text (the seventh form; the later family's looks); each row that meets fmt, with fmt's text TOLD by the authors' own Lean function (tested against real Go, not proved from fmt's source: count such statements apart). THE CARD IS WHAT COUNTS. Prove the row's statement (the work); the ties are given (YtlbkgnmalhidmaaDoorTie.lean); close each card by the builder's one call (the guide's Derived/Test/ToyasCard.lean, 'card_holds'). Laid BY PROGRAM, IN A SANDBOX (cutbox-door.mjs). By AI agents, Wed Nov 11 2026. No macro, syntax, notation, axiom, sorry.
-/
import Derived.Test.YtlbkgnmalhidmaaDoorRows
import GoSem.ClaimSeven
namespace Go.Proofs.YtlbkgnmalhidmaaDoor
namespace Rows

/-- THE TIED CARD OF 'laws.FnProgStrict'. -/
def fnProgStrictCard : Claim7 := { stood := { row := fnProgStrictRow, standIns := [], harness := (true, "c84c0bfe64c0efaca294e7b6d97530fc51ce9a5e8f175b9d26c3ca78c9218c21"), looks := true }, kinds := [], alts := [], laidByText := true, laidKinds := [.data, .data, .data, .data], laidTests := true, laidLooks := .later }
def FnProgStrictCardSaid : Prop := Claim7.holds Tryd.pinned (.plain (OpenSpec.ofChange fnProgStrictSpec)) fnProgStrictCard

/-- THE TIED CARD OF 'laws.FnExactProgRead'. -/
def fnExactProgReadCard : Claim7 := { stood := { row := fnExactProgReadRow, standIns := [], harness := (true, "c84c0bfe64c0efaca294e7b6d97530fc51ce9a5e8f175b9d26c3ca78c9218c21"), looks := true }, kinds := [], alts := [], laidByText := true, laidKinds := [.data, .data, .data, .data], laidTests := true, laidLooks := .later }
def FnExactProgReadCardSaid : Prop := Claim7.holds Tryd.pinned (.plain (OpenSpec.ofChange fnExactProgReadSpec)) fnExactProgReadCard

/-- THE SECOND FORM's CARD OF 'laws.FnProgStrict'. -/
def fnProgStrictUptoCard : Claim7 := { stood := { row := fnProgStrictUptoRow, standIns := [], harness := (true, "c84c0bfe64c0efaca294e7b6d97530fc51ce9a5e8f175b9d26c3ca78c9218c21"), looks := true }, kinds := [], alts := [], laidByText := true, laidKinds := [.data, .data, .data, .data], laidTests := true, laidLooks := .later }
def FnProgStrictUptoCardSaid : Prop := Claim7.holds Tryd.pinned (.plain (OpenSpec.upto fnProgStrictSpec)) fnProgStrictUptoCard

/-- THE SECOND FORM's CARD OF 'laws.FnExactProgRead'. -/
def fnExactProgReadUptoCard : Claim7 := { stood := { row := fnExactProgReadUptoRow, standIns := [], harness := (true, "c84c0bfe64c0efaca294e7b6d97530fc51ce9a5e8f175b9d26c3ca78c9218c21"), looks := true }, kinds := [], alts := [], laidByText := true, laidKinds := [.data, .data, .data, .data], laidTests := true, laidLooks := .later }
def FnExactProgReadUptoCardSaid : Prop := Claim7.holds Tryd.pinned (.plain (OpenSpec.upto fnExactProgReadSpec)) fnExactProgReadUptoCard
end Rows
end Go.Proofs.YtlbkgnmalhidmaaDoor
