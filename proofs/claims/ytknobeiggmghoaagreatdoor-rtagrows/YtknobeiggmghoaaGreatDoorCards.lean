/-
  DERIVED. GIVEN WITH THE SEED: THE CARDS: each row of YtknobeiggmghoaaGreatDoorRows.lean that lists a variable, with what it lists TIED to the program's text (the seventh form; the later family's looks); each row that meets fmt, with fmt's text TOLD by the authors' own Lean function (tested against real Go, not proved from fmt's source: count such statements apart). THE CARD IS WHAT COUNTS. Prove the row's statement (the work); the ties are given (YtknobeiggmghoaaGreatDoorTie.lean); close each card by the builder's one call (the guide's Derived/Test/ToyasCard.lean, 'card_holds'). Laid BY PROGRAM, IN A SANDBOX (cutbox-door.mjs). By AI agents, Wed Nov 11 2026. No macro, syntax, notation, axiom, sorry.
-/
import Derived.Test.YtknobeiggmghoaaGreatDoorRows
import GoSem.ClaimSeven
namespace Go.Proofs.YtknobeiggmghoaaGreatDoor
namespace Rows

/-- THE TIED CARD OF 'bulkheadlaw25.RtaGrows'. -/
def rtaGrowsCard : Claim7 := { stood := { row := rtaGrowsRow, standIns := [], harness := (true, "ccff1409d892010de09eb4a436d7b03608d74b67e7a8287bcfb6ba4c89400339"), looks := true }, kinds := [], alts := [], laidByText := true, laidKinds := [.handle, .data], laidTests := true, laidLooks := .later }
def RtaGrowsCardSaid : Prop := Claim7.holds Tryz.pinned (.plain (OpenSpec.ofChange rtaGrowsSpec)) rtaGrowsCard

/-- THE SECOND FORM's CARD OF 'bulkheadlaw25.RtaGrows'. -/
def rtaGrowsUptoCard : Claim7 := { stood := { row := rtaGrowsUptoRow, standIns := [], harness := (true, "ccff1409d892010de09eb4a436d7b03608d74b67e7a8287bcfb6ba4c89400339"), looks := true }, kinds := [], alts := [], laidByText := true, laidKinds := [.handle, .data], laidTests := true, laidLooks := .later }
def RtaGrowsUptoCardSaid : Prop := Claim7.holds Tryz.pinned (.plain (OpenSpec.upto rtaGrowsSpec)) rtaGrowsUptoCard
end Rows
end Go.Proofs.YtknobeiggmghoaaGreatDoor
