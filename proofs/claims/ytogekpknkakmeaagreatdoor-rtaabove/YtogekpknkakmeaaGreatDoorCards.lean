/-
  DERIVED. GIVEN WITH THE SEED: THE CARDS: each row of YtogekpknkakmeaaGreatDoorRows.lean that lists a variable, with what it lists TIED to the program's text (the seventh form; the later family's looks); each row that meets fmt, with fmt's text TOLD by the authors' own Lean function (tested against real Go, not proved from fmt's source: count such statements apart). THE CARD IS WHAT COUNTS. Prove the row's statement (the work); the ties are given (YtogekpknkakmeaaGreatDoorTie.lean); close each card by the builder's one call (the guide's Derived/Test/ToyasCard.lean, 'card_holds'). Laid BY PROGRAM, IN A SANDBOX (cutbox-door.mjs). By AI agents, Wed Nov 11 2026. No macro, syntax, notation, axiom, sorry.
-/
import Derived.Test.YtogekpknkakmeaaGreatDoorRows
import GoSem.ClaimSeven
namespace Go.Proofs.YtogekpknkakmeaaGreatDoor
namespace Rows

/-- THE TIED CARD OF 'bulkheadlaw25.RtaAbove'. -/
def rtaAboveCard : Claim7 := { stood := { row := rtaAboveRow, standIns := [], harness := (true, "7ec82125b6d7e7572487f1052f9e80979902c58e1cc95786b80ef8ca82c52b08"), looks := true }, kinds := [], alts := [], laidByText := true, laidKinds := [.handle, .data], laidTests := true, laidLooks := .later }
def RtaAboveCardSaid : Prop := Claim7.holds Tryz.pinned (.plain (OpenSpec.ofChange rtaAboveSpec)) rtaAboveCard

/-- THE SECOND FORM's CARD OF 'bulkheadlaw25.RtaAbove'. -/
def rtaAboveUptoCard : Claim7 := { stood := { row := rtaAboveUptoRow, standIns := [], harness := (true, "7ec82125b6d7e7572487f1052f9e80979902c58e1cc95786b80ef8ca82c52b08"), looks := true }, kinds := [], alts := [], laidByText := true, laidKinds := [.handle, .data], laidTests := true, laidLooks := .later }
def RtaAboveUptoCardSaid : Prop := Claim7.holds Tryz.pinned (.plain (OpenSpec.upto rtaAboveSpec)) rtaAboveUptoCard
end Rows
end Go.Proofs.YtogekpknkakmeaaGreatDoor
