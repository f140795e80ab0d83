/-
  DERIVED. GIVEN WITH THE SEED: THE CARDS: each row of YtahhkkkgaoekcaaGreatDoorRows.lean that lists a variable, with what it lists TIED to the program's text (the seventh form; the later family's looks); each row that meets fmt, with fmt's text TOLD by the authors' own Lean function (tested against real Go, not proved from fmt's source: count such statements apart). THE CARD IS WHAT COUNTS. Prove the row's statement (the work); the ties are given (YtahhkkkgaoekcaaGreatDoorTie.lean); close each card by the builder's one call (the guide's Derived/Test/ToyasCard.lean, 'card_holds'). Laid BY PROGRAM, IN A SANDBOX (cutbox-door.mjs). By AI agents, Wed Nov 11 2026. No macro, syntax, notation, axiom, sorry.
-/
import Derived.Test.YtahhkkkgaoekcaaGreatDoorRows
import GoSem.ClaimSeven
namespace Go.Proofs.YtahhkkkgaoekcaaGreatDoor
namespace Rows

/-- THE TIED CARD OF 'bulkheadlaw11.OccTicks'. -/
def occTicksCard : Claim7 := { stood := { row := occTicksRow, standIns := [], harness := (true, "50a8b470f1475abb6d71eaad45a83c53ec0c5445b1d863f865caa1983df8816b"), looks := true }, kinds := [], alts := [], laidByText := true, laidKinds := [.handle], laidTests := true, laidLooks := .later }
def OccTicksCardSaid : Prop := Claim7.holds Tryz.pinned (.plain (OpenSpec.ofChange occTicksSpec)) occTicksCard

/-- THE SECOND FORM's CARD OF 'bulkheadlaw11.OccTicks'. -/
def occTicksUptoCard : Claim7 := { stood := { row := occTicksUptoRow, standIns := [], harness := (true, "50a8b470f1475abb6d71eaad45a83c53ec0c5445b1d863f865caa1983df8816b"), looks := true }, kinds := [], alts := [], laidByText := true, laidKinds := [.handle], laidTests := true, laidLooks := .later }
def OccTicksUptoCardSaid : Prop := Claim7.holds Tryz.pinned (.plain (OpenSpec.upto occTicksSpec)) occTicksUptoCard
end Rows
end Go.Proofs.YtahhkkkgaoekcaaGreatDoor
