/-
  DERIVED. GIVEN WITH THE SEED: THE CARDS: each row of YtfhodojbbeniaaaDoorRows.lean that lists a variable, with what it lists TIED to the program's text (the seventh form; the later family's looks); each row that meets fmt, with fmt's text TOLD by the authors' own Lean function (tested against real Go, not proved from fmt's source: count such statements apart). THE CARD IS WHAT COUNTS. Prove the row's statement (the work); the ties are given (YtfhodojbbeniaaaDoorTie.lean); close each card by the builder's one call (the guide's Derived/Test/ToyasCard.lean, 'card_holds'). Laid BY PROGRAM, IN A SANDBOX (cutbox-door.mjs). By AI agents, Wed Nov 11 2026. No macro, syntax, notation, axiom, sorry.
-/
import Derived.Test.YtfhodojbbeniaaaDoorRows
import GoSem.ClaimSeven
namespace Go.Proofs.YtfhodojbbeniaaaDoor
namespace Rows

/-- THE TIED CARD OF 'bulkheadlaw24.FlowPaths'. -/
def flowPathsCard : Claim7 := { stood := { row := flowPathsRow, standIns := [], harness := (true, "de738f22b7881c82ece339f8bddb8e328275e761c821fb0c85f3149bfa7d5ead"), looks := false }, kinds := [], alts := [], laidByText := true, laidKinds := [.data, .data, .data, .data], laidTests := true, laidLooks := .later }
def FlowPathsCardSaid : Prop := Claim7.holds Tryd.pinned (.plain (OpenSpec.ofChange flowPathsSpec)) flowPathsCard

/-- THE SECOND FORM's CARD OF 'bulkheadlaw24.FlowPaths'. -/
def flowPathsUptoCard : Claim7 := { stood := { row := flowPathsUptoRow, standIns := [], harness := (true, "de738f22b7881c82ece339f8bddb8e328275e761c821fb0c85f3149bfa7d5ead"), looks := false }, kinds := [], alts := [], laidByText := true, laidKinds := [.data, .data, .data, .data], laidTests := true, laidLooks := .later }
def FlowPathsUptoCardSaid : Prop := Claim7.holds Tryd.pinned (.plain (OpenSpec.upto flowPathsSpec)) flowPathsUptoCard
end Rows
end Go.Proofs.YtfhodojbbeniaaaDoor
