/-
  DERIVED. GIVEN WITH THE SEED: THE CARDS: each row of YtggejpccjmolhaaGreatDoorRows.lean that lists a variable, with what it lists TIED to the program's text (the seventh form; the later family's looks); each row that meets fmt, with fmt's text TOLD by the authors' own Lean function (tested against real Go, not proved from fmt's source: count such statements apart). THE CARD IS WHAT COUNTS. Prove the row's statement (the work); the ties are given (YtggejpccjmolhaaGreatDoorTie.lean); close each card by the builder's one call (the guide's Derived/Test/ToyasCard.lean, 'card_holds'). Laid BY PROGRAM, IN A SANDBOX (cutbox-door.mjs). By AI agents, Wed Nov 11 2026. No macro, syntax, notation, axiom, sorry.
-/
import Derived.Test.YtggejpccjmolhaaGreatDoorRows
import GoSem.ClaimSeven
namespace Go.Proofs.YtggejpccjmolhaaGreatDoor
namespace Rows

/-- THE TIED CARD OF 'bulkheadlaw26.AgeFresh'. -/
def ageFreshCard : Claim7 := { stood := { row := ageFreshRow, standIns := [], harness := (true, "4839c1bfe26252956ae49d3157b5b9d9a953f941abccd75b316b776c10fffc2a"), looks := true }, kinds := [], alts := [], laidByText := true, laidKinds := [.handle], laidTests := true, laidLooks := .later }
def AgeFreshCardSaid : Prop := Claim7.holds Tryz.pinned (.plain (OpenSpec.ofChange ageFreshSpec)) ageFreshCard

/-- THE TIED CARD OF 'bulkheadlaw26.AgeRates'. -/
def ageRatesCard : Claim7 := { stood := { row := ageRatesRow, standIns := [], harness := (true, "4839c1bfe26252956ae49d3157b5b9d9a953f941abccd75b316b776c10fffc2a"), looks := true }, kinds := [], alts := [], laidByText := true, laidKinds := [.handle], laidTests := true, laidLooks := .later }
def AgeRatesCardSaid : Prop := Claim7.holds Tryz.pinned (.plain (OpenSpec.ofChange ageRatesSpec)) ageRatesCard

/-- THE SECOND FORM's CARD OF 'bulkheadlaw26.AgeFresh'. -/
def ageFreshUptoCard : Claim7 := { stood := { row := ageFreshUptoRow, standIns := [], harness := (true, "4839c1bfe26252956ae49d3157b5b9d9a953f941abccd75b316b776c10fffc2a"), looks := true }, kinds := [], alts := [], laidByText := true, laidKinds := [.handle], laidTests := true, laidLooks := .later }
def AgeFreshUptoCardSaid : Prop := Claim7.holds Tryz.pinned (.plain (OpenSpec.upto ageFreshSpec)) ageFreshUptoCard

/-- THE SECOND FORM's CARD OF 'bulkheadlaw26.AgeRates'. -/
def ageRatesUptoCard : Claim7 := { stood := { row := ageRatesUptoRow, standIns := [], harness := (true, "4839c1bfe26252956ae49d3157b5b9d9a953f941abccd75b316b776c10fffc2a"), looks := true }, kinds := [], alts := [], laidByText := true, laidKinds := [.handle], laidTests := true, laidLooks := .later }
def AgeRatesUptoCardSaid : Prop := Claim7.holds Tryz.pinned (.plain (OpenSpec.upto ageRatesSpec)) ageRatesUptoCard
end Rows
end Go.Proofs.YtggejpccjmolhaaGreatDoor
