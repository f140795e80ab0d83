/-
  DERIVED. GIVEN WITH THE SEED: THE CARDS: each row of YtkjnhhoniodbcaaGreatDoorRows.lean that lists a variable, with what it lists TIED to the program's text (the seventh form; the later family's looks); each row that meets fmt, with fmt's text TOLD by the authors' own Lean function (tested against real Go, not proved from fmt's source: count such statements apart). THE CARD IS WHAT COUNTS. Prove the row's statement (the work); the ties are given (YtkjnhhoniodbcaaGreatDoorTie.lean); close each card by the builder's one call (the guide's Derived/Test/ToyasCard.lean, 'card_holds'). Laid BY PROGRAM, IN A SANDBOX (cutbox-door.mjs). By AI agents, Wed Nov 11 2026. No macro, syntax, notation, axiom, sorry.
-/
import Derived.Test.YtkjnhhoniodbcaaGreatDoorRows
import GoSem.ClaimSeven
namespace Go.Proofs.YtkjnhhoniodbcaaGreatDoor
namespace Rows

/-- THE TIED CARD OF 'bulkheadlaw11.OccSpans'. -/
def occSpansCard : Claim7 := { stood := { row := occSpansRow, standIns := [], harness := (true, "63e1942c0119828aecd3971ad6a163fb1b678b1941116e11cc2055795bf7ffe7"), looks := true }, kinds := [], alts := [], laidByText := true, laidKinds := [.handle], laidTests := true, laidLooks := .later }
def OccSpansCardSaid : Prop := Claim7.holds Tryz.pinned (.plain (OpenSpec.ofChange occSpansSpec)) occSpansCard

/-- THE SECOND FORM's CARD OF 'bulkheadlaw11.OccSpans'. -/
def occSpansUptoCard : Claim7 := { stood := { row := occSpansUptoRow, standIns := [], harness := (true, "63e1942c0119828aecd3971ad6a163fb1b678b1941116e11cc2055795bf7ffe7"), looks := true }, kinds := [], alts := [], laidByText := true, laidKinds := [.handle], laidTests := true, laidLooks := .later }
def OccSpansUptoCardSaid : Prop := Claim7.holds Tryz.pinned (.plain (OpenSpec.upto occSpansSpec)) occSpansUptoCard
end Rows
end Go.Proofs.YtkjnhhoniodbcaaGreatDoor
