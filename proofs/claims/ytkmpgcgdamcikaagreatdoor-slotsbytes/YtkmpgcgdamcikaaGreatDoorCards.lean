/-
  DERIVED. GIVEN WITH THE SEED: THE CARDS: each row of YtkmpgcgdamcikaaGreatDoorRows.lean that lists a variable, with what it lists TIED to the program's text (the seventh form; the later family's looks); each row that meets fmt, with fmt's text TOLD by the authors' own Lean function (tested against real Go, not proved from fmt's source: count such statements apart). THE CARD IS WHAT COUNTS. Prove the row's statement (the work); the ties are given (YtkmpgcgdamcikaaGreatDoorTie.lean); close each card by the builder's one call (the guide's Derived/Test/ToyasCard.lean, 'card_holds'). Laid BY PROGRAM, IN A SANDBOX (cutbox-door.mjs). By AI agents, Wed Nov 11 2026. No macro, syntax, notation, axiom, sorry.
-/
import Derived.Test.YtkmpgcgdamcikaaGreatDoorRows
import GoSem.ClaimSeven
namespace Go.Proofs.YtkmpgcgdamcikaaGreatDoor
namespace Rows

/-- THE TIED CARD OF 'bulkheadlaw13.SlotsBytes'. -/
def slotsBytesCard : Claim7 := { stood := { row := slotsBytesRow, standIns := [], harness := (true, "c29b20351c00972b45cf92e1d7d44bcb6bfaff3e25df79294d7697b199a778ad"), looks := true }, kinds := [], alts := [], laidByText := true, laidKinds := [.handle], laidTests := true, laidLooks := .later }
def SlotsBytesCardSaid : Prop := Claim7.holds Tryz.pinned (.plain (OpenSpec.ofChange slotsBytesSpec)) slotsBytesCard

/-- THE SECOND FORM's CARD OF 'bulkheadlaw13.SlotsBytes'. -/
def slotsBytesUptoCard : Claim7 := { stood := { row := slotsBytesUptoRow, standIns := [], harness := (true, "c29b20351c00972b45cf92e1d7d44bcb6bfaff3e25df79294d7697b199a778ad"), looks := true }, kinds := [], alts := [], laidByText := true, laidKinds := [.handle], laidTests := true, laidLooks := .later }
def SlotsBytesUptoCardSaid : Prop := Claim7.holds Tryz.pinned (.plain (OpenSpec.upto slotsBytesSpec)) slotsBytesUptoCard
end Rows
end Go.Proofs.YtkmpgcgdamcikaaGreatDoor
