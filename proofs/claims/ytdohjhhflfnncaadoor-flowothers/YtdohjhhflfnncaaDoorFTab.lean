/-
  The tables, as they are laid.
-/
import Derived.Test.YtdohjhhflfnncaaDoorRows
import Derived.Test.YtdohjhhflfnncaaDoorFBld
import Derived.LaidMore
import Derived.OpenShut
import Derived.ProofKit
import Derived.ChangeSame
namespace Go.Proofs.YtdohjhhflfnncaaDoor
open Go.ChangeShapes Go.WideShapes Go.ChangeAt Go.RowKit
set_option linter.unusedVariables false
set_option maxRecDepth 100000

theorem gLt : Tryd.prog.globalNamed "bulkhead/flow.letters" = some 0 := by kernel_rfl
theorem tLt : (Tryd.prog.globals[0]?).map (·.type) = some 73 := by kernel_rfl
theorem gPw : Tryd.prog.globalNamed "internal/strconv.uint64pow10" = some 1 := by kernel_rfl
theorem tPw : (Tryd.prog.globals[1]?).map (·.type) = some 116 := by kernel_rfl
theorem kn_of {W : World} {cs : Array Value} {fuel : Nat} {p : List MemPlace} {enc : TypeId × Value → Unit} {base : Nat} {sp : Nat → Bool} {held : Bool}
    (hv : W.var? Tryd.prog "bulkhead/flow.letters" = some cs) (hd : DataW.trod enc Tryd.prog W base sp held fuel 73 cs.toList = some (Rows.laid_bulkhead_flow_letters, p)) : ∀ j x, LT[j]? = some x → W.cell? ⟨0, j, none⟩ = some (.int .u8 (x.toNat : Int)) := by
  have e : (Rows.laid_bulkhead_flow_letters : DataW Unit) = Lib.tabData .u8 [46, 114, 61, 100] := by kernel_rfl
  rw [e] at hd
  have hc := Lib.cells_of_tab Tryd.underlying73 Tryd.underlying5 (by kernel_rfl) (by kernel_rfl) hd
  intro j x hj
  have hj4 : j < 4 := (List.getElem?_eq_some_iff.1 hj).1
  rw [World.var?_cell gLt hv, ← Array.getElem?_toList, hc]
  rcases (show j = 0 ∨ j = 1 ∨ j = 2 ∨ j = 3 by omega) with rfl | rfl | rfl | rfl <;> (simp [LT] at hj; subst hj; rfl)
theorem en_of {W : World} {cs ds : Array Value} {f g : Nat} {p q : List MemPlace} {enc enc' : TypeId × Value → Unit} {base base' : Nat} {sp sp' : Nat → Bool} {held held' : Bool}
    (hv : W.var? Tryd.prog "bulkhead/flow.letters" = some cs) (hd : DataW.trod enc Tryd.prog W base sp held f 73 cs.toList = some (Rows.laid_bulkhead_flow_letters, p))
    (hv' : W.var? Tryd.prog "internal/strconv.uint64pow10" = some ds) (hd' : DataW.trod enc' Tryd.prog W base' sp' held' g 116 ds.toList = some (Rows.laid_internal_strconv_uint64pow10, q)) : En W := by
  refine ⟨kn_of hv hd, ?_⟩
  have e : (Rows.laid_internal_strconv_uint64pow10 : DataW Unit) = Lib.tabData .u64 Lib.pow10Tab := by kernel_rfl
  rw [e] at hd'
  unfold Lib.TabIs
  rw [hv', ← Lib.cells_of_tab Tryd.underlying116 Tryd.underlying106 (by kernel_rfl) (by kernel_rfl) hd']
end Go.Proofs.YtdohjhhflfnncaaDoor
