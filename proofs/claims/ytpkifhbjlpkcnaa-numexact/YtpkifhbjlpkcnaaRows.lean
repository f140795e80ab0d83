/-
  No cell of these rows narrows 'for every input' (looked for: loops, veiled, ifaces, maps, wideKeys, modest, calm, conditions, laid).
  DERIVED. THE GIVEN ROWS OF THIS SEAT. 5 by the template 'for every input the law returns true; each argument reads behind the call as it read before'; 0 by the template 'total and deterministic' (their statements: YtpkifhbjlpkcnaaTotals.lean).
  GIVEN WITH THE SEED: the statements are not yours to turn. If you find one false, say at which input.
  Laid BY PROGRAM, IN A SANDBOX (cutbox-rows.mjs): the forced cells as the released guide's own fill.sh prints them over the translation f3d188199759baba… (all of the seat's roots in one cut). By AI agents, Wed Nov 11 2026. No macro, syntax, notation, axiom, sorry.
-/
import Derived.Test.YtpkifhbjlpkcnaaChecked
import GoSem.Claim
import GoSem.ClaimJoined
import GoSem.ClaimMapViews
import Derived.JoinedTies
import Derived.KernelRfl
namespace Go.Proofs.Ytpkifhbjlpkcnaa
/- THE CELL 'sum', in the pinned program and in every row, IS THE sha256 OF THE DUMP (.gsa) THAT YtpkifhbjlpkcnaaProg.lean LOADS. Nothing in Lean hashes anything: it is a label: what it is worth is what the hold of that sum in a sandbox is worth. -/
noncomputable def Try.pinned : Pinned := { name := "ytpkifhbjlpkcnaa", sum := "f3d188199759babaaa3f2259204863e069ffdb2d34ec1ab9f3bb23820356843d", checked := Try.checked }
namespace Rows
def none {H : Type} : Left H := { results := [], args := [] }

/-- 'bulkheadlaw01.NumLeast': WHATEVER THE INPUT: true; the input reads as it did. -/
def numLeastSpec : ChangeSpec := { name := "numLeast", fn := fun _ => fun
  | [d1, d2, d3, d4, d5, d6] => { results := [.lit (.bool true)], args := [d1, d2, d3, d4, d5, d6] }
  | _ => none }
def numLeastRow : OpenClaim := { program := "ytpkifhbjlpkcnaa", sum := "f3d188199759babaaa3f2259204863e069ffdb2d34ec1ab9f3bb23820356843d", func := "bulkhead/bulkheadlaw01.NumLeast", spec := "numLeast", apart := false }
def NumLeastSaid : Prop := numLeastRow.holds Try.pinned (OpenSpec.ofChange numLeastSpec)

/-- ITS FALSE NEIGHBOUR: 'it returns false'. Refute it at one input. -/
def numLeastWrong : ChangeSpec := { name := "numLeast", fn := fun _ => fun
  | [d1, d2, d3, d4, d5, d6] => { results := [.lit (.bool false)], args := [d1, d2, d3, d4, d5, d6] }
  | _ => none }
def NumLeastWrongFalsely : Prop := numLeastRow.holds Try.pinned (OpenSpec.ofChange numLeastWrong)

/-- 'bulkheadlaw01.NumLater': WHATEVER THE INPUT: true; the input reads as it did. -/
def numLaterSpec : ChangeSpec := { name := "numLater", fn := fun _ => fun
  | [d1, d2, d3] => { results := [.lit (.bool true)], args := [d1, d2, d3] }
  | _ => none }
def numLaterRow : OpenClaim := { program := "ytpkifhbjlpkcnaa", sum := "f3d188199759babaaa3f2259204863e069ffdb2d34ec1ab9f3bb23820356843d", func := "bulkhead/bulkheadlaw01.NumLater", spec := "numLater", apart := false }
def NumLaterSaid : Prop := numLaterRow.holds Try.pinned (OpenSpec.ofChange numLaterSpec)

/-- ITS FALSE NEIGHBOUR: 'it returns false'. Refute it at one input. -/
def numLaterWrong : ChangeSpec := { name := "numLater", fn := fun _ => fun
  | [d1, d2, d3] => { results := [.lit (.bool false)], args := [d1, d2, d3] }
  | _ => none }
def NumLaterWrongFalsely : Prop := numLaterRow.holds Try.pinned (OpenSpec.ofChange numLaterWrong)

/-- 'bulkheadlaw01.NumTicks': WHATEVER THE INPUT: true; the input reads as it did. -/
def numTicksSpec : ChangeSpec := { name := "numTicks", fn := fun _ => fun
  | [d1, d2, d3, d4, d5] => { results := [.lit (.bool true)], args := [d1, d2, d3, d4, d5] }
  | _ => none }
def numTicksRow : OpenClaim := { program := "ytpkifhbjlpkcnaa", sum := "f3d188199759babaaa3f2259204863e069ffdb2d34ec1ab9f3bb23820356843d", func := "bulkhead/bulkheadlaw01.NumTicks", spec := "numTicks", apart := false }
def NumTicksSaid : Prop := numTicksRow.holds Try.pinned (OpenSpec.ofChange numTicksSpec)

/-- ITS FALSE NEIGHBOUR: 'it returns false'. Refute it at one input. -/
def numTicksWrong : ChangeSpec := { name := "numTicks", fn := fun _ => fun
  | [d1, d2, d3, d4, d5] => { results := [.lit (.bool false)], args := [d1, d2, d3, d4, d5] }
  | _ => none }
def NumTicksWrongFalsely : Prop := numTicksRow.holds Try.pinned (OpenSpec.ofChange numTicksWrong)

/-- 'bulkheadlaw01.NumDivides': WHATEVER THE INPUT: true; the input reads as it did. -/
def numDividesSpec : ChangeSpec := { name := "numDivides", fn := fun _ => fun
  | [d1, d2] => { results := [.lit (.bool true)], args := [d1, d2] }
  | _ => none }
def numDividesRow : OpenClaim := { program := "ytpkifhbjlpkcnaa", sum := "f3d188199759babaaa3f2259204863e069ffdb2d34ec1ab9f3bb23820356843d", func := "bulkhead/bulkheadlaw01.NumDivides", spec := "numDivides", apart := false }
def NumDividesSaid : Prop := numDividesRow.holds Try.pinned (OpenSpec.ofChange numDividesSpec)

/-- ITS FALSE NEIGHBOUR: 'it returns false'. Refute it at one input. -/
def numDividesWrong : ChangeSpec := { name := "numDivides", fn := fun _ => fun
  | [d1, d2] => { results := [.lit (.bool false)], args := [d1, d2] }
  | _ => none }
def NumDividesWrongFalsely : Prop := numDividesRow.holds Try.pinned (OpenSpec.ofChange numDividesWrong)

/-- 'bulkheadlaw01.NumExact': WHATEVER THE INPUT: true; the input reads as it did. -/
def numExactSpec : ChangeSpec := { name := "numExact", fn := fun _ => fun
  | [d] => { results := [.lit (.bool true)], args := [d] }
  | _ => none }
def numExactRow : OpenClaim := { program := "ytpkifhbjlpkcnaa", sum := "f3d188199759babaaa3f2259204863e069ffdb2d34ec1ab9f3bb23820356843d", func := "bulkhead/bulkheadlaw01.NumExact", spec := "numExact", apart := false }
def NumExactSaid : Prop := numExactRow.holds Try.pinned (OpenSpec.ofChange numExactSpec)

/-- ITS FALSE NEIGHBOUR: 'it returns false'. Refute it at one input. -/
def numExactWrong : ChangeSpec := { name := "numExact", fn := fun _ => fun
  | [d] => { results := [.lit (.bool false)], args := [d] }
  | _ => none }
def NumExactWrongFalsely : Prop := numExactRow.holds Try.pinned (OpenSpec.ofChange numExactWrong)

/- THE SECOND FORM. 'bulk': how many values and letters a reading holds, each counted each time it is reached (what is shared counts as often as it is met; a slice's spare places count too). A statement '..UptoSaid' is the law's where the arguments, and the package variables that the reading takes, are together of bulk at most 1048576: NARROWER than '..Said'. Prove '..Said' where nothing that the law and all that it calls make is longer than what came in: it says more and counts as full. Else prove '..UptoSaid'. A law counts once. -/
mutual
def uptoBulk {H : Type} : DataW H → Nat
  | .lit (.string bytes) => bytes.length + 1
  | .lit _ => 1
  | .nil => 1
  | .ptr d => uptoBulk d + 1
  | .slice elems spare => uptoBulkAll elems + uptoBulkAll spare + 1
  | .agg parts => uptoBulkAll parts + 1
  | .iface _ d => uptoBulk d + 1
  | .map entries => uptoBulkEntries entries + 1
  | .held _ => 1
def uptoBulkAll {H : Type} : List (DataW H) → Nat
  | [] => 0
  | d :: r => uptoBulk d + uptoBulkAll r
def uptoBulkEntries {H : Type} : List (Lit × DataW H) → Nat
  | [] => 0
  | x :: r => uptoBulkEntry x + uptoBulkEntries r
def uptoBulkEntry {H : Type} : Lit × DataW H → Nat
  | (.string bytes, d) => bytes.length + uptoBulk d + 1
  | (_, d) => uptoBulk d + 1
 end
def uptoSmall : (H : Type) → List (DataW H) → Bool := fun _ ds => decide (uptoBulkAll ds ≤ 1048576)
def OpenSpec.upto (s : _root_.Go.ChangeSpec) : _root_.Go.OpenSpec := { _root_.Go.OpenSpec.ofChange s with cond := some uptoSmall }

/-- 'bulkheadlaw01.NumLeast', WHERE WHAT IT READS IS OF BULK AT MOST 1048576: true; the input reads as it did. -/
def numLeastUptoRow : OpenClaim := { program := "ytpkifhbjlpkcnaa", sum := "f3d188199759babaaa3f2259204863e069ffdb2d34ec1ab9f3bb23820356843d", func := "bulkhead/bulkheadlaw01.NumLeast", spec := "numLeast", apart := false, narrowed := true }
def NumLeastUptoSaid : Prop := numLeastUptoRow.holds Try.pinned (OpenSpec.upto numLeastSpec)

/-- 'bulkheadlaw01.NumLater', WHERE WHAT IT READS IS OF BULK AT MOST 1048576: true; the input reads as it did. -/
def numLaterUptoRow : OpenClaim := { program := "ytpkifhbjlpkcnaa", sum := "f3d188199759babaaa3f2259204863e069ffdb2d34ec1ab9f3bb23820356843d", func := "bulkhead/bulkheadlaw01.NumLater", spec := "numLater", apart := false, narrowed := true }
def NumLaterUptoSaid : Prop := numLaterUptoRow.holds Try.pinned (OpenSpec.upto numLaterSpec)

/-- 'bulkheadlaw01.NumTicks', WHERE WHAT IT READS IS OF BULK AT MOST 1048576: true; the input reads as it did. -/
def numTicksUptoRow : OpenClaim := { program := "ytpkifhbjlpkcnaa", sum := "f3d188199759babaaa3f2259204863e069ffdb2d34ec1ab9f3bb23820356843d", func := "bulkhead/bulkheadlaw01.NumTicks", spec := "numTicks", apart := false, narrowed := true }
def NumTicksUptoSaid : Prop := numTicksUptoRow.holds Try.pinned (OpenSpec.upto numTicksSpec)

/-- 'bulkheadlaw01.NumDivides', WHERE WHAT IT READS IS OF BULK AT MOST 1048576: true; the input reads as it did. -/
def numDividesUptoRow : OpenClaim := { program := "ytpkifhbjlpkcnaa", sum := "f3d188199759babaaa3f2259204863e069ffdb2d34ec1ab9f3bb23820356843d", func := "bulkhead/bulkheadlaw01.NumDivides", spec := "numDivides", apart := false, narrowed := true }
def NumDividesUptoSaid : Prop := numDividesUptoRow.holds Try.pinned (OpenSpec.upto numDividesSpec)

/-- 'bulkheadlaw01.NumExact', WHERE WHAT IT READS IS OF BULK AT MOST 1048576: true; the input reads as it did. -/
def numExactUptoRow : OpenClaim := { program := "ytpkifhbjlpkcnaa", sum := "f3d188199759babaaa3f2259204863e069ffdb2d34ec1ab9f3bb23820356843d", func := "bulkhead/bulkheadlaw01.NumExact", spec := "numExact", apart := false, narrowed := true }
def NumExactUptoSaid : Prop := numExactUptoRow.holds Try.pinned (OpenSpec.upto numExactSpec)

end Rows
end Go.Proofs.Ytpkifhbjlpkcnaa
