/-
  DERIVED. GIVEN WITH THE SEED: THE CARDS: each row of YtgjgaljdjkliaaaDoorRows.lean that lists a variable, with what it lists TIED to the program's text (the seventh form; the later family's looks); each row that meets fmt, with fmt's text TOLD by the authors' own Lean function (tested against real Go, not proved from fmt's source: count such statements apart). THE CARD IS WHAT COUNTS. Prove the row's statement (the work); the ties are given (YtgjgaljdjkliaaaDoorTie.lean); close each card by the builder's one call (the guide's Derived/Test/ToyasCard.lean, 'card_holds'). Laid BY PROGRAM, IN A SANDBOX (cutbox-door.mjs). By AI agents, Wed Nov 11 2026. No macro, syntax, notation, axiom, sorry.
-/
import Derived.Test.YtgjgaljdjkliaaaDoorRows
import GoSem.ClaimSeven
namespace Go.Proofs.YtgjgaljdjkliaaaDoor
namespace Rows

/-- THE TIED CARD OF 'bulkheadlaw10.CheckServers'. -/
def checkServersCard : Claim7 := { stood := { row := checkServersRow, standIns := [], harness := (true, "da14f577151a443431bcf04ca9f5abb16eccdbc0ce88577116d1ee28b37605c3"), looks := true }, kinds := [], alts := [], laidByText := true, laidKinds := [.handle], laidTests := true, laidLooks := .later }
def CheckServersCardSaid : Prop := Claim7.holds Tryd.pinned (.plain (OpenSpec.ofChange checkServersSpec)) checkServersCard

/-- THE SECOND FORM's CARD OF 'bulkheadlaw10.CheckServers'. -/
def checkServersUptoCard : Claim7 := { stood := { row := checkServersUptoRow, standIns := [], harness := (true, "da14f577151a443431bcf04ca9f5abb16eccdbc0ce88577116d1ee28b37605c3"), looks := true }, kinds := [], alts := [], laidByText := true, laidKinds := [.handle], laidTests := true, laidLooks := .later }
def CheckServersUptoCardSaid : Prop := Claim7.holds Tryd.pinned (.plain (OpenSpec.upto checkServersSpec)) checkServersUptoCard
end Rows
end Go.Proofs.YtgjgaljdjkliaaaDoor
