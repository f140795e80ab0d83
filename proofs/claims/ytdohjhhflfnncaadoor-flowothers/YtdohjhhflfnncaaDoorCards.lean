/-
  DERIVED. GIVEN WITH THE SEED: THE CARDS: each row of YtdohjhhflfnncaaDoorRows.lean that lists a variable, with what it lists TIED to the program's text (the seventh form; the later family's looks); each row that meets fmt, with fmt's text TOLD by the authors' own Lean function (tested against real Go, not proved from fmt's source: count such statements apart). THE CARD IS WHAT COUNTS. Prove the row's statement (the work); the ties are given (YtdohjhhflfnncaaDoorTie.lean); close each card by the builder's one call (the guide's Derived/Test/ToyasCard.lean, 'card_holds'). Laid BY PROGRAM, IN A SANDBOX (cutbox-door.mjs). By AI agents, Wed Nov 11 2026. No macro, syntax, notation, axiom, sorry.
-/
import Derived.Test.YtdohjhhflfnncaaDoorRows
import GoSem.ClaimSeven
namespace Go.Proofs.YtdohjhhflfnncaaDoor
namespace Rows

/-- THE TIED CARD OF 'bulkheadlaw24.FlowOthers'. -/
def flowOthersCard : Claim7 := { stood := { row := flowOthersRow, standIns := [], harness := (true, "7e2ac9e45eef4aacb116ffe01654cbbe903b6808cbb15919f60093b088c0be52"), looks := false }, kinds := [], alts := [], laidByText := true, laidKinds := [.data, .data, .data, .data], laidTests := true, laidLooks := .later }
def FlowOthersCardSaid : Prop := Claim7.holds Tryd.pinned (.plain (OpenSpec.ofChange flowOthersSpec)) flowOthersCard

/-- THE SECOND FORM's CARD OF 'bulkheadlaw24.FlowOthers'. -/
def flowOthersUptoCard : Claim7 := { stood := { row := flowOthersUptoRow, standIns := [], harness := (true, "7e2ac9e45eef4aacb116ffe01654cbbe903b6808cbb15919f60093b088c0be52"), looks := false }, kinds := [], alts := [], laidByText := true, laidKinds := [.data, .data, .data, .data], laidTests := true, laidLooks := .later }
def FlowOthersUptoCardSaid : Prop := Claim7.holds Tryd.pinned (.plain (OpenSpec.upto flowOthersSpec)) flowOthersUptoCard
end Rows
end Go.Proofs.YtdohjhhflfnncaaDoor
