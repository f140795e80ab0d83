/-
  DERIVED. GIVEN WITH THE SEED: THE CARDS: each row of YtgpaaoflhffcbaaGreatDoorRows.lean that lists a variable, with what it lists TIED to the program's text (the seventh form; the later family's looks); each row that meets fmt, with fmt's text TOLD by the authors' own Lean function (tested against real Go, not proved from fmt's source: count such statements apart). THE CARD IS WHAT COUNTS. Prove the row's statement (the work); the ties are given (YtgpaaoflhffcbaaGreatDoorTie.lean); close each card by the builder's one call (the guide's Derived/Test/ToyasCard.lean, 'card_holds'). Laid BY PROGRAM, IN A SANDBOX (cutbox-door.mjs). By AI agents, Wed Nov 11 2026. No macro, syntax, notation, axiom, sorry.
-/
import Derived.Test.YtgpaaoflhffcbaaGreatDoorRows
import GoSem.ClaimSeven
namespace Go.Proofs.YtgpaaoflhffcbaaGreatDoor
namespace Rows

/-- THE TIED CARD OF 'bulkheadlaw27.ReportAddsUp'. -/
def reportAddsUpCard : Claim7 := { stood := { row := reportAddsUpRow, standIns := [], harness := (true, "962e205b8eeea2723304995405b06e7884ea31c49866f5b77faf236901301f52"), looks := true }, kinds := [], alts := [], laidByText := true, laidKinds := [.handle], laidTests := true, laidLooks := .later }
def ReportAddsUpCardSaid : Prop := Claim7.holds Tryz.pinned (.plain (OpenSpec.ofChange reportAddsUpSpec)) reportAddsUpCard

/-- THE SECOND FORM's CARD OF 'bulkheadlaw27.ReportAddsUp'. -/
def reportAddsUpUptoCard : Claim7 := { stood := { row := reportAddsUpUptoRow, standIns := [], harness := (true, "962e205b8eeea2723304995405b06e7884ea31c49866f5b77faf236901301f52"), looks := true }, kinds := [], alts := [], laidByText := true, laidKinds := [.handle], laidTests := true, laidLooks := .later }
def ReportAddsUpUptoCardSaid : Prop := Claim7.holds Tryz.pinned (.plain (OpenSpec.upto reportAddsUpSpec)) reportAddsUpUptoCard
end Rows
end Go.Proofs.YtgpaaoflhffcbaaGreatDoor
