/-
  DERIVED. GIVEN WITH THE SEED: THE CARDS: each row of YtobdeobjjjkddaaGreatDoorRows.lean that lists a variable, with what it lists TIED to the program's text (the seventh form; the later family's looks); each row that meets fmt, with fmt's text TOLD by the authors' own Lean function (tested against real Go, not proved from fmt's source: count such statements apart). THE CARD IS WHAT COUNTS. Prove the row's statement (the work); the ties are given (YtobdeobjjjkddaaGreatDoorTie.lean); close each card by the builder's one call (the guide's Derived/Test/ToyasCard.lean, 'card_holds'). Laid BY PROGRAM, IN A SANDBOX (cutbox-door.mjs). By AI agents, Wed Nov 11 2026. No macro, syntax, notation, axiom, sorry.
-/
import Derived.Test.YtobdeobjjjkddaaGreatDoorRows
import GoSem.ClaimSeven
namespace Go.Proofs.YtobdeobjjjkddaaGreatDoor
namespace Rows

/-- THE TIED CARD OF 'laws.FnHeapCall'. -/
def fnHeapCallCard : Claim7 := { stood := { row := fnHeapCallRow, standIns := [], harness := (true, "19135f648e54990bdd21b691aa2137534a2551bacd1b6cf5e3cf12fc7eb3eef7"), looks := false }, kinds := [], alts := [], laidByText := true, laidKinds := [.data], laidTests := true, laidLooks := .later }
def FnHeapCallCardSaid : Prop := Claim7.holds Tryz.pinned (.plain (OpenSpec.ofChange fnHeapCallSpec)) fnHeapCallCard

/-- THE TIED CARD OF 'laws.FnHeapRet'. -/
def fnHeapRetCard : Claim7 := { stood := { row := fnHeapRetRow, standIns := [], harness := (true, "19135f648e54990bdd21b691aa2137534a2551bacd1b6cf5e3cf12fc7eb3eef7"), looks := false }, kinds := [], alts := [], laidByText := true, laidKinds := [.data], laidTests := true, laidLooks := .later }
def FnHeapRetCardSaid : Prop := Claim7.holds Tryz.pinned (.plain (OpenSpec.ofChange fnHeapRetSpec)) fnHeapRetCard

/-- THE TIED CARD OF 'laws.FnHeapBack'. -/
def fnHeapBackCard : Claim7 := { stood := { row := fnHeapBackRow, standIns := [], harness := (true, "19135f648e54990bdd21b691aa2137534a2551bacd1b6cf5e3cf12fc7eb3eef7"), looks := false }, kinds := [], alts := [], laidByText := true, laidKinds := [.data], laidTests := true, laidLooks := .later }
def FnHeapBackCardSaid : Prop := Claim7.holds Tryz.pinned (.plain (OpenSpec.ofChange fnHeapBackSpec)) fnHeapBackCard

/-- THE SECOND FORM's CARD OF 'laws.FnHeapCall'. -/
def fnHeapCallUptoCard : Claim7 := { stood := { row := fnHeapCallUptoRow, standIns := [], harness := (true, "19135f648e54990bdd21b691aa2137534a2551bacd1b6cf5e3cf12fc7eb3eef7"), looks := false }, kinds := [], alts := [], laidByText := true, laidKinds := [.data], laidTests := true, laidLooks := .later }
def FnHeapCallUptoCardSaid : Prop := Claim7.holds Tryz.pinned (.plain (OpenSpec.upto fnHeapCallSpec)) fnHeapCallUptoCard

/-- THE SECOND FORM's CARD OF 'laws.FnHeapRet'. -/
def fnHeapRetUptoCard : Claim7 := { stood := { row := fnHeapRetUptoRow, standIns := [], harness := (true, "19135f648e54990bdd21b691aa2137534a2551bacd1b6cf5e3cf12fc7eb3eef7"), looks := false }, kinds := [], alts := [], laidByText := true, laidKinds := [.data], laidTests := true, laidLooks := .later }
def FnHeapRetUptoCardSaid : Prop := Claim7.holds Tryz.pinned (.plain (OpenSpec.upto fnHeapRetSpec)) fnHeapRetUptoCard

/-- THE SECOND FORM's CARD OF 'laws.FnHeapBack'. -/
def fnHeapBackUptoCard : Claim7 := { stood := { row := fnHeapBackUptoRow, standIns := [], harness := (true, "19135f648e54990bdd21b691aa2137534a2551bacd1b6cf5e3cf12fc7eb3eef7"), looks := false }, kinds := [], alts := [], laidByText := true, laidKinds := [.data], laidTests := true, laidLooks := .later }
def FnHeapBackUptoCardSaid : Prop := Claim7.holds Tryz.pinned (.plain (OpenSpec.upto fnHeapBackSpec)) fnHeapBackUptoCard
end Rows
end Go.Proofs.YtobdeobjjjkddaaGreatDoor
