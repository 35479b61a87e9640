/-
  DERIVED. GIVEN WITH THE SEED: THE CARDS: each row of YtbjgjjkgfnfejaaGreatDoorRows.lean that lists a variable, with what it lists TIED to the program's text (the seventh form; the later family's looks); each row that meets fmt, with fmt's text TOLD by the authors' own Lean function (tested against real Go, not proved from fmt's source: count such statements apart). THE CARD IS WHAT COUNTS. Prove the row's statement (the work); the ties are given (YtbjgjjkgfnfejaaGreatDoorTie.lean); close each card by the builder's one call (the guide's Derived/Test/ToyasCard.lean, 'card_holds'). Laid BY PROGRAM, IN A SANDBOX (cutbox-door.mjs). By AI agents, Wed Nov 11 2026. No macro, syntax, notation, axiom, sorry.
-/
import Derived.Test.YtbjgjjkgfnfejaaGreatDoorRows
import GoSem.ClaimSeven
namespace Go.Proofs.YtbjgjjkgfnfejaaGreatDoor
namespace Rows

/-- THE TIED CARD OF 'laws.FnMachNoLook'. -/
def fnMachNoLookCard : Claim7 := { stood := { row := fnMachNoLookRow, standIns := [], harness := (true, "8262d7b682c267e3c8043bd8047658af5d816f837fb68c1c6b014ebaaa42050e"), looks := false }, kinds := [], alts := [], laidByText := true, laidKinds := [.data], laidTests := true, laidLooks := .later }
def FnMachNoLookCardSaid : Prop := Claim7.holds Tryz.pinned (.plain (OpenSpec.ofChange fnMachNoLookSpec)) fnMachNoLookCard

/-- THE TIED CARD OF 'laws.FnTwinEnd'. -/
def fnTwinEndCard : Claim7 := { stood := { row := fnTwinEndRow, standIns := [], harness := (true, "8262d7b682c267e3c8043bd8047658af5d816f837fb68c1c6b014ebaaa42050e"), looks := false }, kinds := [], alts := [], laidByText := true, laidKinds := [.data], laidTests := true, laidLooks := .later }
def FnTwinEndCardSaid : Prop := Claim7.holds Tryz.pinned (.plain (OpenSpec.ofChange fnTwinEndSpec)) fnTwinEndCard

/-- THE TIED CARD OF 'laws.FnTwinRooms'. -/
def fnTwinRoomsCard : Claim7 := { stood := { row := fnTwinRoomsRow, standIns := [], harness := (true, "8262d7b682c267e3c8043bd8047658af5d816f837fb68c1c6b014ebaaa42050e"), looks := false }, kinds := [], alts := [], laidByText := true, laidKinds := [.data], laidTests := true, laidLooks := .later }
def FnTwinRoomsCardSaid : Prop := Claim7.holds Tryz.pinned (.plain (OpenSpec.ofChange fnTwinRoomsSpec)) fnTwinRoomsCard

/-- THE TIED CARD OF 'laws.FnTwinSaid'. -/
def fnTwinSaidCard : Claim7 := { stood := { row := fnTwinSaidRow, standIns := [], harness := (true, "8262d7b682c267e3c8043bd8047658af5d816f837fb68c1c6b014ebaaa42050e"), looks := false }, kinds := [], alts := [], laidByText := true, laidKinds := [.data], laidTests := true, laidLooks := .later }
def FnTwinSaidCardSaid : Prop := Claim7.holds Tryz.pinned (.plain (OpenSpec.ofChange fnTwinSaidSpec)) fnTwinSaidCard

/-- THE TIED CARD OF 'laws.FnTwinEach'. -/
def fnTwinEachCard : Claim7 := { stood := { row := fnTwinEachRow, standIns := [], harness := (true, "8262d7b682c267e3c8043bd8047658af5d816f837fb68c1c6b014ebaaa42050e"), looks := false }, kinds := [], alts := [], laidByText := true, laidKinds := [.data], laidTests := true, laidLooks := .later }
def FnTwinEachCardSaid : Prop := Claim7.holds Tryz.pinned (.plain (OpenSpec.ofChange fnTwinEachSpec)) fnTwinEachCard

/-- THE TIED CARD OF 'laws.FnTwinFlush'. -/
def fnTwinFlushCard : Claim7 := { stood := { row := fnTwinFlushRow, standIns := [], harness := (true, "8262d7b682c267e3c8043bd8047658af5d816f837fb68c1c6b014ebaaa42050e"), looks := false }, kinds := [], alts := [], laidByText := true, laidKinds := [.data], laidTests := true, laidLooks := .later }
def FnTwinFlushCardSaid : Prop := Claim7.holds Tryz.pinned (.plain (OpenSpec.ofChange fnTwinFlushSpec)) fnTwinFlushCard

/-- THE TIED CARD OF 'laws.FnTwinMove'. -/
def fnTwinMoveCard : Claim7 := { stood := { row := fnTwinMoveRow, standIns := [], harness := (true, "8262d7b682c267e3c8043bd8047658af5d816f837fb68c1c6b014ebaaa42050e"), looks := false }, kinds := [], alts := [], laidByText := true, laidKinds := [.data], laidTests := true, laidLooks := .later }
def FnTwinMoveCardSaid : Prop := Claim7.holds Tryz.pinned (.plain (OpenSpec.ofChange fnTwinMoveSpec)) fnTwinMoveCard

/-- THE TIED CARD OF 'laws.FnMoveInRun'. -/
def fnMoveInRunCard : Claim7 := { stood := { row := fnMoveInRunRow, standIns := [], harness := (true, "8262d7b682c267e3c8043bd8047658af5d816f837fb68c1c6b014ebaaa42050e"), looks := false }, kinds := [], alts := [], laidByText := true, laidKinds := [.data], laidTests := true, laidLooks := .later }
def FnMoveInRunCardSaid : Prop := Claim7.holds Tryz.pinned (.plain (OpenSpec.ofChange fnMoveInRunSpec)) fnMoveInRunCard

/-- THE SECOND FORM's CARD OF 'laws.FnMachNoLook'. -/
def fnMachNoLookUptoCard : Claim7 := { stood := { row := fnMachNoLookUptoRow, standIns := [], harness := (true, "8262d7b682c267e3c8043bd8047658af5d816f837fb68c1c6b014ebaaa42050e"), looks := false }, kinds := [], alts := [], laidByText := true, laidKinds := [.data], laidTests := true, laidLooks := .later }
def FnMachNoLookUptoCardSaid : Prop := Claim7.holds Tryz.pinned (.plain (OpenSpec.upto fnMachNoLookSpec)) fnMachNoLookUptoCard

/-- THE SECOND FORM's CARD OF 'laws.FnTwinEnd'. -/
def fnTwinEndUptoCard : Claim7 := { stood := { row := fnTwinEndUptoRow, standIns := [], harness := (true, "8262d7b682c267e3c8043bd8047658af5d816f837fb68c1c6b014ebaaa42050e"), looks := false }, kinds := [], alts := [], laidByText := true, laidKinds := [.data], laidTests := true, laidLooks := .later }
def FnTwinEndUptoCardSaid : Prop := Claim7.holds Tryz.pinned (.plain (OpenSpec.upto fnTwinEndSpec)) fnTwinEndUptoCard

/-- THE SECOND FORM's CARD OF 'laws.FnTwinRooms'. -/
def fnTwinRoomsUptoCard : Claim7 := { stood := { row := fnTwinRoomsUptoRow, standIns := [], harness := (true, "8262d7b682c267e3c8043bd8047658af5d816f837fb68c1c6b014ebaaa42050e"), looks := false }, kinds := [], alts := [], laidByText := true, laidKinds := [.data], laidTests := true, laidLooks := .later }
def FnTwinRoomsUptoCardSaid : Prop := Claim7.holds Tryz.pinned (.plain (OpenSpec.upto fnTwinRoomsSpec)) fnTwinRoomsUptoCard

/-- THE SECOND FORM's CARD OF 'laws.FnTwinSaid'. -/
def fnTwinSaidUptoCard : Claim7 := { stood := { row := fnTwinSaidUptoRow, standIns := [], harness := (true, "8262d7b682c267e3c8043bd8047658af5d816f837fb68c1c6b014ebaaa42050e"), looks := false }, kinds := [], alts := [], laidByText := true, laidKinds := [.data], laidTests := true, laidLooks := .later }
def FnTwinSaidUptoCardSaid : Prop := Claim7.holds Tryz.pinned (.plain (OpenSpec.upto fnTwinSaidSpec)) fnTwinSaidUptoCard

/-- THE SECOND FORM's CARD OF 'laws.FnTwinEach'. -/
def fnTwinEachUptoCard : Claim7 := { stood := { row := fnTwinEachUptoRow, standIns := [], harness := (true, "8262d7b682c267e3c8043bd8047658af5d816f837fb68c1c6b014ebaaa42050e"), looks := false }, kinds := [], alts := [], laidByText := true, laidKinds := [.data], laidTests := true, laidLooks := .later }
def FnTwinEachUptoCardSaid : Prop := Claim7.holds Tryz.pinned (.plain (OpenSpec.upto fnTwinEachSpec)) fnTwinEachUptoCard

/-- THE SECOND FORM's CARD OF 'laws.FnTwinFlush'. -/
def fnTwinFlushUptoCard : Claim7 := { stood := { row := fnTwinFlushUptoRow, standIns := [], harness := (true, "8262d7b682c267e3c8043bd8047658af5d816f837fb68c1c6b014ebaaa42050e"), looks := false }, kinds := [], alts := [], laidByText := true, laidKinds := [.data], laidTests := true, laidLooks := .later }
def FnTwinFlushUptoCardSaid : Prop := Claim7.holds Tryz.pinned (.plain (OpenSpec.upto fnTwinFlushSpec)) fnTwinFlushUptoCard

/-- THE SECOND FORM's CARD OF 'laws.FnTwinMove'. -/
def fnTwinMoveUptoCard : Claim7 := { stood := { row := fnTwinMoveUptoRow, standIns := [], harness := (true, "8262d7b682c267e3c8043bd8047658af5d816f837fb68c1c6b014ebaaa42050e"), looks := false }, kinds := [], alts := [], laidByText := true, laidKinds := [.data], laidTests := true, laidLooks := .later }
def FnTwinMoveUptoCardSaid : Prop := Claim7.holds Tryz.pinned (.plain (OpenSpec.upto fnTwinMoveSpec)) fnTwinMoveUptoCard

/-- THE SECOND FORM's CARD OF 'laws.FnMoveInRun'. -/
def fnMoveInRunUptoCard : Claim7 := { stood := { row := fnMoveInRunUptoRow, standIns := [], harness := (true, "8262d7b682c267e3c8043bd8047658af5d816f837fb68c1c6b014ebaaa42050e"), looks := false }, kinds := [], alts := [], laidByText := true, laidKinds := [.data], laidTests := true, laidLooks := .later }
def FnMoveInRunUptoCardSaid : Prop := Claim7.holds Tryz.pinned (.plain (OpenSpec.upto fnMoveInRunSpec)) fnMoveInRunUptoCard
end Rows
end Go.Proofs.YtbjgjjkgfnfejaaGreatDoor
