/-
  NARROWER THAN 'FOR EVERY INPUT', by the rows' own cells (each row's printed sentence says how): SlotsTell: laid · SlotsAlong: laid · SlotsMake: laid · SlotsBack: laid · SlotsBytes: laid · SlotsExact: laid.
  DERIVED. THE GIVEN ROWS OF THIS SEAT. 6 by the template 'for every input the law returns true; each argument reads behind the call as it read before'; 0 by the template 'total and deterministic' (their statements: YtdcfcgmmjobdcaaGreatDoorTotals.lean).
  GIVEN WITH THE SEED: the statements are not yours to turn. If you find one false, say at which input.
  Laid BY PROGRAM, IN A SANDBOX (cutbox-rows.mjs): the forced cells as the released guide's own fill.sh prints them over the translation 463c9dfc1af17762… (all of the seat's roots in one cut). By AI agents, Wed Nov 11 2026. No macro, syntax, notation, axiom, sorry.
-/
import Derived.Test.YtdcfcgmmjobdcaaGreatDoorChecked
import GoSem.Claim
import GoSem.ClaimJoined
import GoSem.ClaimMapViews
import Derived.JoinedTies
import Derived.KernelRfl
namespace Go.Proofs.YtdcfcgmmjobdcaaGreatDoor
/- THE CELL 'sum', in the pinned program and in every row, IS THE sha256 OF THE DUMP (.gsa) THAT YtdcfcgmmjobdcaaGreatDoorProg.lean LOADS. Nothing in Lean hashes anything: it is a label: what it is worth is what the hold of that sum in a sandbox is worth. -/
noncomputable def Tryz.pinned : Pinned := { name := "ytdcfcgmmjobdcaagreatdoor", sum := "463c9dfc1af177629407334d76927af7bb164eb848494a0b0c4be80bcec25181", checked := Tryz.checked }
namespace Rows
def none {H : Type} : Left H := { results := [], args := [] }

/- WHAT THE LISTED PACKAGE-LEVEL VARIABLES READ AS WHEN THE CALL BEGINS. Each datum BY PROGRAM (the guide's laid-datum.mjs) off the statement by which the dump's own 'gosem.cut.vars' lays the variable. In a bare row this is a premise. The card (YtdcfcgmmjobdcaaGreatDoorCards.lean) ties it to the program's text. -/
def laid_errors_errorType {H : Type} : DataW H := .iface "internal/reflectlite.rtype" (.agg [.ptr (.lit (.string [101, 114, 114, 111, 114]))])

/-- 'bulkheadlaw13.SlotsTell': WHATEVER THE INPUT: true; the input reads as it did. -/
def slotsTellSpec : ChangeSpec := { name := "slotsTell", fn := fun _ => fun
  | [d1, d2] => { results := [.lit (.bool true)], args := [d1, d2] }
  | _ => none }
def slotsTellRow : OpenClaim := { program := "ytdcfcgmmjobdcaagreatdoor", sum := "463c9dfc1af177629407334d76927af7bb164eb848494a0b0c4be80bcec25181", func := "bulkhead/bulkheadlaw13.SlotsTell", spec := "slotsTell", inPlace := ["internal/reflectlite.ValueOf", "(internal/reflectlite.Value).Type", "(internal/reflectlite.Value).IsNil", "internal/reflectlite.TypeOf", "(internal/reflectlite.Value).Elem", "(internal/reflectlite.Value).Set"], unfollowed := true, recurses := true, named := ["errors.errorType"], apart := false, laid := [("errors.errorType", laid_errors_errorType)] }
def SlotsTellSaid : Prop := slotsTellRow.holds Tryz.pinned (OpenSpec.ofChange slotsTellSpec)

/-- ITS FALSE NEIGHBOUR: 'it returns false'. Refute it at one input. -/
def slotsTellWrong : ChangeSpec := { name := "slotsTell", fn := fun _ => fun
  | [d1, d2] => { results := [.lit (.bool false)], args := [d1, d2] }
  | _ => none }
def SlotsTellWrongFalsely : Prop := slotsTellRow.holds Tryz.pinned (OpenSpec.ofChange slotsTellWrong)

/-- 'bulkheadlaw13.SlotsAlong': WHATEVER THE INPUT: true; the input reads as it did. -/
def slotsAlongSpec : ChangeSpec := { name := "slotsAlong", fn := fun _ => fun
  | [d1, d2, d3, d4] => { results := [.lit (.bool true)], args := [d1, d2, d3, d4] }
  | _ => none }
def slotsAlongRow : OpenClaim := { program := "ytdcfcgmmjobdcaagreatdoor", sum := "463c9dfc1af177629407334d76927af7bb164eb848494a0b0c4be80bcec25181", func := "bulkhead/bulkheadlaw13.SlotsAlong", spec := "slotsAlong", inPlace := ["internal/reflectlite.ValueOf", "(internal/reflectlite.Value).Type", "(internal/reflectlite.Value).IsNil", "internal/reflectlite.TypeOf", "(internal/reflectlite.Value).Elem", "(internal/reflectlite.Value).Set"], unfollowed := true, recurses := true, named := ["errors.errorType"], apart := false, laid := [("errors.errorType", laid_errors_errorType)] }
def SlotsAlongSaid : Prop := slotsAlongRow.holds Tryz.pinned (OpenSpec.ofChange slotsAlongSpec)

/-- ITS FALSE NEIGHBOUR: 'it returns false'. Refute it at one input. -/
def slotsAlongWrong : ChangeSpec := { name := "slotsAlong", fn := fun _ => fun
  | [d1, d2, d3, d4] => { results := [.lit (.bool false)], args := [d1, d2, d3, d4] }
  | _ => none }
def SlotsAlongWrongFalsely : Prop := slotsAlongRow.holds Tryz.pinned (OpenSpec.ofChange slotsAlongWrong)

/-- 'bulkheadlaw13.SlotsMake': WHATEVER THE INPUT: true; the input reads as it did. -/
def slotsMakeSpec : ChangeSpec := { name := "slotsMake", fn := fun _ => fun
  | [d] => { results := [.lit (.bool true)], args := [d] }
  | _ => none }
def slotsMakeRow : OpenClaim := { program := "ytdcfcgmmjobdcaagreatdoor", sum := "463c9dfc1af177629407334d76927af7bb164eb848494a0b0c4be80bcec25181", func := "bulkhead/bulkheadlaw13.SlotsMake", spec := "slotsMake", inPlace := ["internal/reflectlite.ValueOf", "(internal/reflectlite.Value).Type", "(internal/reflectlite.Value).IsNil", "internal/reflectlite.TypeOf", "(internal/reflectlite.Value).Elem", "(internal/reflectlite.Value).Set"], unfollowed := true, recurses := true, named := ["errors.errorType"], apart := false, laid := [("errors.errorType", laid_errors_errorType)] }
def SlotsMakeSaid : Prop := slotsMakeRow.holds Tryz.pinned (OpenSpec.ofChange slotsMakeSpec)

/-- ITS FALSE NEIGHBOUR: 'it returns false'. Refute it at one input. -/
def slotsMakeWrong : ChangeSpec := { name := "slotsMake", fn := fun _ => fun
  | [d] => { results := [.lit (.bool false)], args := [d] }
  | _ => none }
def SlotsMakeWrongFalsely : Prop := slotsMakeRow.holds Tryz.pinned (OpenSpec.ofChange slotsMakeWrong)

/-- 'bulkheadlaw13.SlotsBack': WHATEVER THE INPUT: true; the input reads as it did. -/
def slotsBackSpec : ChangeSpec := { name := "slotsBack", fn := fun _ => fun
  | [d1, d2, d3, d4] => { results := [.lit (.bool true)], args := [d1, d2, d3, d4] }
  | _ => none }
def slotsBackRow : OpenClaim := { program := "ytdcfcgmmjobdcaagreatdoor", sum := "463c9dfc1af177629407334d76927af7bb164eb848494a0b0c4be80bcec25181", func := "bulkhead/bulkheadlaw13.SlotsBack", spec := "slotsBack", inPlace := ["internal/reflectlite.ValueOf", "(internal/reflectlite.Value).Type", "(internal/reflectlite.Value).IsNil", "internal/reflectlite.TypeOf", "(internal/reflectlite.Value).Elem", "(internal/reflectlite.Value).Set"], unfollowed := true, recurses := true, named := ["errors.errorType"], apart := false, laid := [("errors.errorType", laid_errors_errorType)] }
def SlotsBackSaid : Prop := slotsBackRow.holds Tryz.pinned (OpenSpec.ofChange slotsBackSpec)

/-- ITS FALSE NEIGHBOUR: 'it returns false'. Refute it at one input. -/
def slotsBackWrong : ChangeSpec := { name := "slotsBack", fn := fun _ => fun
  | [d1, d2, d3, d4] => { results := [.lit (.bool false)], args := [d1, d2, d3, d4] }
  | _ => none }
def SlotsBackWrongFalsely : Prop := slotsBackRow.holds Tryz.pinned (OpenSpec.ofChange slotsBackWrong)

/-- 'bulkheadlaw13.SlotsBytes': WHATEVER THE INPUT: true; the input reads as it did. -/
def slotsBytesSpec : ChangeSpec := { name := "slotsBytes", fn := fun _ => fun
  | [d] => { results := [.lit (.bool true)], args := [d] }
  | _ => none }
def slotsBytesRow : OpenClaim := { program := "ytdcfcgmmjobdcaagreatdoor", sum := "463c9dfc1af177629407334d76927af7bb164eb848494a0b0c4be80bcec25181", func := "bulkhead/bulkheadlaw13.SlotsBytes", spec := "slotsBytes", inPlace := ["internal/reflectlite.ValueOf", "(internal/reflectlite.Value).Type", "(internal/reflectlite.Value).IsNil", "internal/reflectlite.TypeOf", "(internal/reflectlite.Value).Elem", "(internal/reflectlite.Value).Set"], unfollowed := true, recurses := true, named := ["errors.errorType"], apart := false, laid := [("errors.errorType", laid_errors_errorType)] }
def SlotsBytesSaid : Prop := slotsBytesRow.holds Tryz.pinned (OpenSpec.ofChange slotsBytesSpec)

/-- ITS FALSE NEIGHBOUR: 'it returns false'. Refute it at one input. -/
def slotsBytesWrong : ChangeSpec := { name := "slotsBytes", fn := fun _ => fun
  | [d] => { results := [.lit (.bool false)], args := [d] }
  | _ => none }
def SlotsBytesWrongFalsely : Prop := slotsBytesRow.holds Tryz.pinned (OpenSpec.ofChange slotsBytesWrong)

/-- 'bulkheadlaw13.SlotsExact': WHATEVER THE INPUT: true; the input reads as it did. -/
def slotsExactSpec : ChangeSpec := { name := "slotsExact", fn := fun _ => fun
  | [d1, d2, d3] => { results := [.lit (.bool true)], args := [d1, d2, d3] }
  | _ => none }
def slotsExactRow : OpenClaim := { program := "ytdcfcgmmjobdcaagreatdoor", sum := "463c9dfc1af177629407334d76927af7bb164eb848494a0b0c4be80bcec25181", func := "bulkhead/bulkheadlaw13.SlotsExact", spec := "slotsExact", inPlace := ["internal/reflectlite.ValueOf", "(internal/reflectlite.Value).Type", "(internal/reflectlite.Value).IsNil", "internal/reflectlite.TypeOf", "(internal/reflectlite.Value).Elem", "(internal/reflectlite.Value).Set"], unfollowed := true, recurses := true, named := ["errors.errorType"], apart := false, laid := [("errors.errorType", laid_errors_errorType)] }
def SlotsExactSaid : Prop := slotsExactRow.holds Tryz.pinned (OpenSpec.ofChange slotsExactSpec)

/-- ITS FALSE NEIGHBOUR: 'it returns false'. Refute it at one input. -/
def slotsExactWrong : ChangeSpec := { name := "slotsExact", fn := fun _ => fun
  | [d1, d2, d3] => { results := [.lit (.bool false)], args := [d1, d2, d3] }
  | _ => none }
def SlotsExactWrongFalsely : Prop := slotsExactRow.holds Tryz.pinned (OpenSpec.ofChange slotsExactWrong)

/- THE SECOND FORM. 'bulk': how many values and letters a reading holds, each counted each time it is reached (what is shared counts as often as it is met; a slice's spare places count too). A statement '..UptoSaid' is the law's where the arguments, and the package variables that the reading takes, are together of bulk at most 1048576: NARROWER than '..Said'. Prove '..Said' where nothing that the law and all that it calls make is longer than what came in: it says more and counts as full. Else prove '..UptoSaid'. A law counts once. -/
mutual
def uptoBulk {H : Type} : DataW H → Nat
  | .lit (.string bytes) => bytes.length + 1
  | .lit _ => 1
  | .nil => 1
  | .ptr d => uptoBulk d + 1
  | .slice elems spare => uptoBulkAll elems + uptoBulkAll spare + 1
  | .agg parts => uptoBulkAll parts + 1
  | .iface _ d => uptoBulk d + 1
  | .map entries => uptoBulkEntries entries + 1
  | .held _ => 1
def uptoBulkAll {H : Type} : List (DataW H) → Nat
  | [] => 0
  | d :: r => uptoBulk d + uptoBulkAll r
def uptoBulkEntries {H : Type} : List (Lit × DataW H) → Nat
  | [] => 0
  | x :: r => uptoBulkEntry x + uptoBulkEntries r
def uptoBulkEntry {H : Type} : Lit × DataW H → Nat
  | (.string bytes, d) => bytes.length + uptoBulk d + 1
  | (_, d) => uptoBulk d + 1
 end
def uptoSmall : (H : Type) → List (DataW H) → Bool := fun _ ds => decide (uptoBulkAll ds ≤ 1048576)
def OpenSpec.upto (s : _root_.Go.ChangeSpec) : _root_.Go.OpenSpec := { _root_.Go.OpenSpec.ofChange s with cond := some uptoSmall }

/-- 'bulkheadlaw13.SlotsTell', WHERE WHAT IT READS IS OF BULK AT MOST 1048576: true; the input reads as it did. -/
def slotsTellUptoRow : OpenClaim := { program := "ytdcfcgmmjobdcaagreatdoor", sum := "463c9dfc1af177629407334d76927af7bb164eb848494a0b0c4be80bcec25181", func := "bulkhead/bulkheadlaw13.SlotsTell", spec := "slotsTell", inPlace := ["internal/reflectlite.ValueOf", "(internal/reflectlite.Value).Type", "(internal/reflectlite.Value).IsNil", "internal/reflectlite.TypeOf", "(internal/reflectlite.Value).Elem", "(internal/reflectlite.Value).Set"], unfollowed := true, recurses := true, named := ["errors.errorType"], apart := false, laid := [("errors.errorType", laid_errors_errorType)], narrowed := true }
def SlotsTellUptoSaid : Prop := slotsTellUptoRow.holds Tryz.pinned (OpenSpec.upto slotsTellSpec)

/-- 'bulkheadlaw13.SlotsAlong', WHERE WHAT IT READS IS OF BULK AT MOST 1048576: true; the input reads as it did. -/
def slotsAlongUptoRow : OpenClaim := { program := "ytdcfcgmmjobdcaagreatdoor", sum := "463c9dfc1af177629407334d76927af7bb164eb848494a0b0c4be80bcec25181", func := "bulkhead/bulkheadlaw13.SlotsAlong", spec := "slotsAlong", inPlace := ["internal/reflectlite.ValueOf", "(internal/reflectlite.Value).Type", "(internal/reflectlite.Value).IsNil", "internal/reflectlite.TypeOf", "(internal/reflectlite.Value).Elem", "(internal/reflectlite.Value).Set"], unfollowed := true, recurses := true, named := ["errors.errorType"], apart := false, laid := [("errors.errorType", laid_errors_errorType)], narrowed := true }
def SlotsAlongUptoSaid : Prop := slotsAlongUptoRow.holds Tryz.pinned (OpenSpec.upto slotsAlongSpec)

/-- 'bulkheadlaw13.SlotsMake', WHERE WHAT IT READS IS OF BULK AT MOST 1048576: true; the input reads as it did. -/
def slotsMakeUptoRow : OpenClaim := { program := "ytdcfcgmmjobdcaagreatdoor", sum := "463c9dfc1af177629407334d76927af7bb164eb848494a0b0c4be80bcec25181", func := "bulkhead/bulkheadlaw13.SlotsMake", spec := "slotsMake", inPlace := ["internal/reflectlite.ValueOf", "(internal/reflectlite.Value).Type", "(internal/reflectlite.Value).IsNil", "internal/reflectlite.TypeOf", "(internal/reflectlite.Value).Elem", "(internal/reflectlite.Value).Set"], unfollowed := true, recurses := true, named := ["errors.errorType"], apart := false, laid := [("errors.errorType", laid_errors_errorType)], narrowed := true }
def SlotsMakeUptoSaid : Prop := slotsMakeUptoRow.holds Tryz.pinned (OpenSpec.upto slotsMakeSpec)

/-- 'bulkheadlaw13.SlotsBack', WHERE WHAT IT READS IS OF BULK AT MOST 1048576: true; the input reads as it did. -/
def slotsBackUptoRow : OpenClaim := { program := "ytdcfcgmmjobdcaagreatdoor", sum := "463c9dfc1af177629407334d76927af7bb164eb848494a0b0c4be80bcec25181", func := "bulkhead/bulkheadlaw13.SlotsBack", spec := "slotsBack", inPlace := ["internal/reflectlite.ValueOf", "(internal/reflectlite.Value).Type", "(internal/reflectlite.Value).IsNil", "internal/reflectlite.TypeOf", "(internal/reflectlite.Value).Elem", "(internal/reflectlite.Value).Set"], unfollowed := true, recurses := true, named := ["errors.errorType"], apart := false, laid := [("errors.errorType", laid_errors_errorType)], narrowed := true }
def SlotsBackUptoSaid : Prop := slotsBackUptoRow.holds Tryz.pinned (OpenSpec.upto slotsBackSpec)

/-- 'bulkheadlaw13.SlotsBytes', WHERE WHAT IT READS IS OF BULK AT MOST 1048576: true; the input reads as it did. -/
def slotsBytesUptoRow : OpenClaim := { program := "ytdcfcgmmjobdcaagreatdoor", sum := "463c9dfc1af177629407334d76927af7bb164eb848494a0b0c4be80bcec25181", func := "bulkhead/bulkheadlaw13.SlotsBytes", spec := "slotsBytes", inPlace := ["internal/reflectlite.ValueOf", "(internal/reflectlite.Value).Type", "(internal/reflectlite.Value).IsNil", "internal/reflectlite.TypeOf", "(internal/reflectlite.Value).Elem", "(internal/reflectlite.Value).Set"], unfollowed := true, recurses := true, named := ["errors.errorType"], apart := false, laid := [("errors.errorType", laid_errors_errorType)], narrowed := true }
def SlotsBytesUptoSaid : Prop := slotsBytesUptoRow.holds Tryz.pinned (OpenSpec.upto slotsBytesSpec)

/-- 'bulkheadlaw13.SlotsExact', WHERE WHAT IT READS IS OF BULK AT MOST 1048576: true; the input reads as it did. -/
def slotsExactUptoRow : OpenClaim := { program := "ytdcfcgmmjobdcaagreatdoor", sum := "463c9dfc1af177629407334d76927af7bb164eb848494a0b0c4be80bcec25181", func := "bulkhead/bulkheadlaw13.SlotsExact", spec := "slotsExact", inPlace := ["internal/reflectlite.ValueOf", "(internal/reflectlite.Value).Type", "(internal/reflectlite.Value).IsNil", "internal/reflectlite.TypeOf", "(internal/reflectlite.Value).Elem", "(internal/reflectlite.Value).Set"], unfollowed := true, recurses := true, named := ["errors.errorType"], apart := false, laid := [("errors.errorType", laid_errors_errorType)], narrowed := true }
def SlotsExactUptoSaid : Prop := slotsExactUptoRow.holds Tryz.pinned (OpenSpec.upto slotsExactSpec)

end Rows
end Go.Proofs.YtdcfcgmmjobdcaaGreatDoor
