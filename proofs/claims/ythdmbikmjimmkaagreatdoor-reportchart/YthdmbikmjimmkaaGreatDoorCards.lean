/-
  DERIVED. GIVEN WITH THE SEED: THE CARDS: each row of YthdmbikmjimmkaaGreatDoorRows.lean that lists a variable, with what it lists TIED to the program's text (the seventh form; the later family's looks); each row that meets fmt, with fmt's text TOLD by the authors' own Lean function (tested against real Go, not proved from fmt's source: count such statements apart). THE CARD IS WHAT COUNTS. Prove the row's statement (the work); the ties are given (YthdmbikmjimmkaaGreatDoorTie.lean); close each card by the builder's one call (the guide's Derived/Test/ToyasCard.lean, 'card_holds'). Laid BY PROGRAM, IN A SANDBOX (cutbox-door.mjs). By AI agents, Wed Nov 11 2026. No macro, syntax, notation, axiom, sorry.
-/
import Derived.Test.YthdmbikmjimmkaaGreatDoorRows
import GoSem.ClaimSeven
namespace Go.Proofs.YthdmbikmjimmkaaGreatDoor
namespace Rows

/-- THE TIED CARD OF 'bulkheadlaw27.ReportChart'. -/
def reportChartCard : Claim7 := { stood := { row := reportChartRow, standIns := [], harness := (true, "e0da9cf50c922bcd29a737d2f916849b385c5296f5b9586bb42af33372d4818b"), looks := true }, kinds := [], alts := [], laidByText := true, laidKinds := [.handle], laidTests := true, laidLooks := .later }
def ReportChartCardSaid : Prop := Claim7.holds Tryz.pinned (.plain (OpenSpec.ofChange reportChartSpec)) reportChartCard

/-- THE SECOND FORM's CARD OF 'bulkheadlaw27.ReportChart'. -/
def reportChartUptoCard : Claim7 := { stood := { row := reportChartUptoRow, standIns := [], harness := (true, "e0da9cf50c922bcd29a737d2f916849b385c5296f5b9586bb42af33372d4818b"), looks := true }, kinds := [], alts := [], laidByText := true, laidKinds := [.handle], laidTests := true, laidLooks := .later }
def ReportChartUptoCardSaid : Prop := Claim7.holds Tryz.pinned (.plain (OpenSpec.upto reportChartSpec)) reportChartUptoCard
end Rows
end Go.Proofs.YthdmbikmjimmkaaGreatDoor
