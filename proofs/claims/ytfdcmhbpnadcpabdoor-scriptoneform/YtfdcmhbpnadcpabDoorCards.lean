/-
  DERIVED. GIVEN WITH THE SEED: THE CARDS: each row of YtfdcmhbpnadcpabDoorRows.lean that lists a variable, with what it lists TIED to the program's text (the seventh form; the later family's looks); each row that meets fmt, with fmt's text TOLD by the authors' own Lean function (tested against real Go, not proved from fmt's source: count such statements apart). THE CARD IS WHAT COUNTS. Prove the row's statement (the work); the ties are given (YtfdcmhbpnadcpabDoorTie.lean); close each card by the builder's one call (the guide's Derived/Test/ToyasCard.lean, 'card_holds'). Laid BY PROGRAM, IN A SANDBOX (cutbox-door.mjs). By AI agents, Wed Nov 11 2026. No macro, syntax, notation, axiom, sorry.
-/
import Derived.Test.YtfdcmhbpnadcpabDoorRows
import GoSem.ClaimSeven
namespace Go.Proofs.YtfdcmhbpnadcpabDoor
namespace Rows

/-- THE TIED CARD OF 'bulkheadlaw21.ScriptOneForm'. -/
def scriptOneFormCard : Claim7 := { stood := { row := scriptOneFormRow, standIns := [], harness := (true, "01b22c2a600f81ee3958378e1838e6113095a943c1bc5f0e80d6ba6c6c84252f"), looks := false }, kinds := [], alts := [], laidByText := true, laidKinds := [.data, .data, .data, .data], laidTests := true, laidLooks := .later }
def ScriptOneFormCardSaid : Prop := Claim7.holds Tryd.pinned (.plain (OpenSpec.ofChange scriptOneFormSpec)) scriptOneFormCard

/-- THE TIED CARD OF 'bulkheadlaw21.ScriptThere'. -/
def scriptThereCard : Claim7 := { stood := { row := scriptThereRow, standIns := [], harness := (true, "01b22c2a600f81ee3958378e1838e6113095a943c1bc5f0e80d6ba6c6c84252f"), looks := false }, kinds := [], alts := [], laidByText := true, laidKinds := [.data, .data, .data, .data], laidTests := true, laidLooks := .later }
def ScriptThereCardSaid : Prop := Claim7.holds Tryd.pinned (.plain (OpenSpec.ofChange scriptThereSpec)) scriptThereCard

/-- THE SECOND FORM's CARD OF 'bulkheadlaw21.ScriptOneForm'. -/
def scriptOneFormUptoCard : Claim7 := { stood := { row := scriptOneFormUptoRow, standIns := [], harness := (true, "01b22c2a600f81ee3958378e1838e6113095a943c1bc5f0e80d6ba6c6c84252f"), looks := false }, kinds := [], alts := [], laidByText := true, laidKinds := [.data, .data, .data, .data], laidTests := true, laidLooks := .later }
def ScriptOneFormUptoCardSaid : Prop := Claim7.holds Tryd.pinned (.plain (OpenSpec.upto scriptOneFormSpec)) scriptOneFormUptoCard

/-- THE SECOND FORM's CARD OF 'bulkheadlaw21.ScriptThere'. -/
def scriptThereUptoCard : Claim7 := { stood := { row := scriptThereUptoRow, standIns := [], harness := (true, "01b22c2a600f81ee3958378e1838e6113095a943c1bc5f0e80d6ba6c6c84252f"), looks := false }, kinds := [], alts := [], laidByText := true, laidKinds := [.data, .data, .data, .data], laidTests := true, laidLooks := .later }
def ScriptThereUptoCardSaid : Prop := Claim7.holds Tryd.pinned (.plain (OpenSpec.upto scriptThereSpec)) scriptThereUptoCard
end Rows
end Go.Proofs.YtfdcmhbpnadcpabDoor
