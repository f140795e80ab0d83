/-
  DERIVED. GIVEN WITH THE SEED: THE CARDS: each row of YtffgcijicmfmlaaGreatDoorRows.lean that lists a variable, with what it lists TIED to the program's text (the seventh form; the later family's looks); each row that meets fmt, with fmt's text TOLD by the authors' own Lean function (tested against real Go, not proved from fmt's source: count such statements apart). THE CARD IS WHAT COUNTS. Prove the row's statement (the work); the ties are given (YtffgcijicmfmlaaGreatDoorTie.lean); close each card by the builder's one call (the guide's Derived/Test/ToyasCard.lean, 'card_holds'). Laid BY PROGRAM, IN A SANDBOX (cutbox-door.mjs). By AI agents, Wed Nov 11 2026. No macro, syntax, notation, axiom, sorry.
-/
import Derived.Test.YtffgcijicmfmlaaGreatDoorRows
import GoSem.ClaimSeven
namespace Go.Proofs.YtffgcijicmfmlaaGreatDoor
namespace Rows

/-- THE TIED CARD OF 'bulkheadlaw12.OnlineSteps'. -/
def onlineStepsCard : Claim7 := { stood := { row := onlineStepsRow, standIns := [], harness := (true, "1d1e4248065408536f4aa0c64d8c3935b5bf733ab54c4480a405a74938eda2f2"), looks := true }, kinds := [], alts := [], laidByText := true, laidKinds := [.handle], laidTests := true, laidLooks := .later }
def OnlineStepsCardSaid : Prop := Claim7.holds Tryz.pinned (.plain (OpenSpec.ofChange onlineStepsSpec)) onlineStepsCard

/-- THE TIED CARD OF 'bulkheadlaw12.OnlineAgain'. -/
def onlineAgainCard : Claim7 := { stood := { row := onlineAgainRow, standIns := [], harness := (true, "1d1e4248065408536f4aa0c64d8c3935b5bf733ab54c4480a405a74938eda2f2"), looks := true }, kinds := [], alts := [], laidByText := true, laidKinds := [.handle], laidTests := true, laidLooks := .later }
def OnlineAgainCardSaid : Prop := Claim7.holds Tryz.pinned (.plain (OpenSpec.ofChange onlineAgainSpec)) onlineAgainCard

/-- THE TIED CARD OF 'bulkheadlaw12.OnlineApart'. -/
def onlineApartCard : Claim7 := { stood := { row := onlineApartRow, standIns := [], harness := (true, "1d1e4248065408536f4aa0c64d8c3935b5bf733ab54c4480a405a74938eda2f2"), looks := true }, kinds := [], alts := [], laidByText := true, laidKinds := [.handle], laidTests := true, laidLooks := .later }
def OnlineApartCardSaid : Prop := Claim7.holds Tryz.pinned (.plain (OpenSpec.ofChange onlineApartSpec)) onlineApartCard

/-- THE TIED CARD OF 'bulkheadlaw12.OnlineRule'. -/
def onlineRuleCard : Claim7 := { stood := { row := onlineRuleRow, standIns := [], harness := (true, "1d1e4248065408536f4aa0c64d8c3935b5bf733ab54c4480a405a74938eda2f2"), looks := true }, kinds := [], alts := [], laidByText := true, laidKinds := [.handle], laidTests := true, laidLooks := .later }
def OnlineRuleCardSaid : Prop := Claim7.holds Tryz.pinned (.plain (OpenSpec.ofChange onlineRuleSpec)) onlineRuleCard

/-- THE TIED CARD OF 'bulkheadlaw12.OnlineExact'. -/
def onlineExactCard : Claim7 := { stood := { row := onlineExactRow, standIns := [], harness := (true, "1d1e4248065408536f4aa0c64d8c3935b5bf733ab54c4480a405a74938eda2f2"), looks := true }, kinds := [], alts := [], laidByText := true, laidKinds := [.handle], laidTests := true, laidLooks := .later }
def OnlineExactCardSaid : Prop := Claim7.holds Tryz.pinned (.plain (OpenSpec.ofChange onlineExactSpec)) onlineExactCard

/-- THE TIED CARD OF 'bulkheadlaw12.OnlineFollows'. -/
def onlineFollowsCard : Claim7 := { stood := { row := onlineFollowsRow, standIns := [], harness := (true, "1d1e4248065408536f4aa0c64d8c3935b5bf733ab54c4480a405a74938eda2f2"), looks := true }, kinds := [], alts := [], laidByText := true, laidKinds := [.handle], laidTests := true, laidLooks := .later }
def OnlineFollowsCardSaid : Prop := Claim7.holds Tryz.pinned (.plain (OpenSpec.ofChange onlineFollowsSpec)) onlineFollowsCard

/-- THE SECOND FORM's CARD OF 'bulkheadlaw12.OnlineSteps'. -/
def onlineStepsUptoCard : Claim7 := { stood := { row := onlineStepsUptoRow, standIns := [], harness := (true, "1d1e4248065408536f4aa0c64d8c3935b5bf733ab54c4480a405a74938eda2f2"), looks := true }, kinds := [], alts := [], laidByText := true, laidKinds := [.handle], laidTests := true, laidLooks := .later }
def OnlineStepsUptoCardSaid : Prop := Claim7.holds Tryz.pinned (.plain (OpenSpec.upto onlineStepsSpec)) onlineStepsUptoCard

/-- THE SECOND FORM's CARD OF 'bulkheadlaw12.OnlineAgain'. -/
def onlineAgainUptoCard : Claim7 := { stood := { row := onlineAgainUptoRow, standIns := [], harness := (true, "1d1e4248065408536f4aa0c64d8c3935b5bf733ab54c4480a405a74938eda2f2"), looks := true }, kinds := [], alts := [], laidByText := true, laidKinds := [.handle], laidTests := true, laidLooks := .later }
def OnlineAgainUptoCardSaid : Prop := Claim7.holds Tryz.pinned (.plain (OpenSpec.upto onlineAgainSpec)) onlineAgainUptoCard

/-- THE SECOND FORM's CARD OF 'bulkheadlaw12.OnlineApart'. -/
def onlineApartUptoCard : Claim7 := { stood := { row := onlineApartUptoRow, standIns := [], harness := (true, "1d1e4248065408536f4aa0c64d8c3935b5bf733ab54c4480a405a74938eda2f2"), looks := true }, kinds := [], alts := [], laidByText := true, laidKinds := [.handle], laidTests := true, laidLooks := .later }
def OnlineApartUptoCardSaid : Prop := Claim7.holds Tryz.pinned (.plain (OpenSpec.upto onlineApartSpec)) onlineApartUptoCard

/-- THE SECOND FORM's CARD OF 'bulkheadlaw12.OnlineRule'. -/
def onlineRuleUptoCard : Claim7 := { stood := { row := onlineRuleUptoRow, standIns := [], harness := (true, "1d1e4248065408536f4aa0c64d8c3935b5bf733ab54c4480a405a74938eda2f2"), looks := true }, kinds := [], alts := [], laidByText := true, laidKinds := [.handle], laidTests := true, laidLooks := .later }
def OnlineRuleUptoCardSaid : Prop := Claim7.holds Tryz.pinned (.plain (OpenSpec.upto onlineRuleSpec)) onlineRuleUptoCard

/-- THE SECOND FORM's CARD OF 'bulkheadlaw12.OnlineExact'. -/
def onlineExactUptoCard : Claim7 := { stood := { row := onlineExactUptoRow, standIns := [], harness := (true, "1d1e4248065408536f4aa0c64d8c3935b5bf733ab54c4480a405a74938eda2f2"), looks := true }, kinds := [], alts := [], laidByText := true, laidKinds := [.handle], laidTests := true, laidLooks := .later }
def OnlineExactUptoCardSaid : Prop := Claim7.holds Tryz.pinned (.plain (OpenSpec.upto onlineExactSpec)) onlineExactUptoCard

/-- THE SECOND FORM's CARD OF 'bulkheadlaw12.OnlineFollows'. -/
def onlineFollowsUptoCard : Claim7 := { stood := { row := onlineFollowsUptoRow, standIns := [], harness := (true, "1d1e4248065408536f4aa0c64d8c3935b5bf733ab54c4480a405a74938eda2f2"), looks := true }, kinds := [], alts := [], laidByText := true, laidKinds := [.handle], laidTests := true, laidLooks := .later }
def OnlineFollowsUptoCardSaid : Prop := Claim7.holds Tryz.pinned (.plain (OpenSpec.upto onlineFollowsSpec)) onlineFollowsUptoCard
end Rows
end Go.Proofs.YtffgcijicmfmlaaGreatDoor
