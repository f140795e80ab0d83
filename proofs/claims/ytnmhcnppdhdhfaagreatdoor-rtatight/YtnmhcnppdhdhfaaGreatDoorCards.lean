/-
  DERIVED. GIVEN WITH THE SEED: THE CARDS: each row of YtnmhcnppdhdhfaaGreatDoorRows.lean that lists a variable, with what it lists TIED to the program's text (the seventh form; the later family's looks); each row that meets fmt, with fmt's text TOLD by the authors' own Lean function (tested against real Go, not proved from fmt's source: count such statements apart). THE CARD IS WHAT COUNTS. Prove the row's statement (the work); the ties are given (YtnmhcnppdhdhfaaGreatDoorTie.lean); close each card by the builder's one call (the guide's Derived/Test/ToyasCard.lean, 'card_holds'). Laid BY PROGRAM, IN A SANDBOX (cutbox-door.mjs). By AI agents, Wed Nov 11 2026. No macro, syntax, notation, axiom, sorry.
-/
import Derived.Test.YtnmhcnppdhdhfaaGreatDoorRows
import GoSem.ClaimSeven
namespace Go.Proofs.YtnmhcnppdhdhfaaGreatDoor
namespace Rows

/-- THE TIED CARD OF 'bulkheadlaw25.RtaSafe'. -/
def rtaSafeCard : Claim7 := { stood := { row := rtaSafeRow, standIns := [], harness := (true, "49e88bd0ec28be60accdc864af9892304892cd139ac0959b72814f992b416a89"), looks := true }, kinds := [], alts := [], laidByText := true, laidKinds := [.handle, .data], laidTests := true, laidLooks := .later }
def RtaSafeCardSaid : Prop := Claim7.holds Tryz.pinned (.plain (OpenSpec.ofChange rtaSafeSpec)) rtaSafeCard

/-- THE TIED CARD OF 'bulkheadlaw25.RtaTight'. -/
def rtaTightCard : Claim7 := { stood := { row := rtaTightRow, standIns := [], harness := (true, "49e88bd0ec28be60accdc864af9892304892cd139ac0959b72814f992b416a89"), looks := true }, kinds := [], alts := [], laidByText := true, laidKinds := [.handle, .data], laidTests := true, laidLooks := .later }
def RtaTightCardSaid : Prop := Claim7.holds Tryz.pinned (.plain (OpenSpec.ofChange rtaTightSpec)) rtaTightCard

/-- THE SECOND FORM's CARD OF 'bulkheadlaw25.RtaSafe'. -/
def rtaSafeUptoCard : Claim7 := { stood := { row := rtaSafeUptoRow, standIns := [], harness := (true, "49e88bd0ec28be60accdc864af9892304892cd139ac0959b72814f992b416a89"), looks := true }, kinds := [], alts := [], laidByText := true, laidKinds := [.handle, .data], laidTests := true, laidLooks := .later }
def RtaSafeUptoCardSaid : Prop := Claim7.holds Tryz.pinned (.plain (OpenSpec.upto rtaSafeSpec)) rtaSafeUptoCard

/-- THE SECOND FORM's CARD OF 'bulkheadlaw25.RtaTight'. -/
def rtaTightUptoCard : Claim7 := { stood := { row := rtaTightUptoRow, standIns := [], harness := (true, "49e88bd0ec28be60accdc864af9892304892cd139ac0959b72814f992b416a89"), looks := true }, kinds := [], alts := [], laidByText := true, laidKinds := [.handle, .data], laidTests := true, laidLooks := .later }
def RtaTightUptoCardSaid : Prop := Claim7.holds Tryz.pinned (.plain (OpenSpec.upto rtaTightSpec)) rtaTightUptoCard
end Rows
end Go.Proofs.YtnmhcnppdhdhfaaGreatDoor
