/-
  DERIVED. GIVEN WITH THE SEED: THE CARDS: each row of YticnkekedhhbaaaDoorRows.lean that lists a variable, with what it lists TIED to the program's text (the seventh form; the later family's looks); each row that meets fmt, with fmt's text TOLD by the authors' own Lean function (tested against real Go, not proved from fmt's source: count such statements apart). THE CARD IS WHAT COUNTS. Prove the row's statement (the work); the ties are given (YticnkekedhhbaaaDoorTie.lean); close each card by the builder's one call (the guide's Derived/Test/ToyasCard.lean, 'card_holds'). Laid BY PROGRAM, IN A SANDBOX (cutbox-door.mjs). By AI agents, Wed Nov 11 2026. No macro, syntax, notation, axiom, sorry.
-/
import Derived.Test.YticnkekedhhbaaaDoorRows
import GoSem.ClaimSeven
namespace Go.Proofs.YticnkekedhhbaaaDoor
namespace Rows

/-- THE TIED CARD OF 'bulkheadlaw11.OccAgain'. -/
def occAgainCard : Claim7 := { stood := { row := occAgainRow, standIns := [], harness := (true, "80268609c83219a29ea05deea3ed99324a95a3371be1b204fae42f9b7c29fa8c"), looks := true }, kinds := [], alts := [], laidByText := true, laidKinds := [.handle], laidTests := true, laidLooks := .later }
def OccAgainCardSaid : Prop := Claim7.holds Tryd.pinned (.plain (OpenSpec.ofChange occAgainSpec)) occAgainCard

/-- THE SECOND FORM's CARD OF 'bulkheadlaw11.OccAgain'. -/
def occAgainUptoCard : Claim7 := { stood := { row := occAgainUptoRow, standIns := [], harness := (true, "80268609c83219a29ea05deea3ed99324a95a3371be1b204fae42f9b7c29fa8c"), looks := true }, kinds := [], alts := [], laidByText := true, laidKinds := [.handle], laidTests := true, laidLooks := .later }
def OccAgainUptoCardSaid : Prop := Claim7.holds Tryd.pinned (.plain (OpenSpec.upto occAgainSpec)) occAgainUptoCard
end Rows
end Go.Proofs.YticnkekedhhbaaaDoor
