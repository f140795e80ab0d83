/-
  The tables, as they are laid.
-/
import Derived.Test.YtjhhldgbllbbhaaGreatDoorRows
import Derived.Test.YtjhhldgbllbbhaaGreatDoorVShow
import Derived.LaidMore
import Derived.OpenShut
import Derived.ProofKit
import Derived.ChangeSame
namespace Go.Proofs.YtjhhldgbllbbhaaGreatDoor
open Go.ChangeShapes Go.WideShapes Go.ChangeAt Go.RowKit
set_option linter.unusedVariables false
set_option maxRecDepth 100000

theorem gNm : Tryz.prog.globalNamed "bulkhead/trace.names" = some 0 := by kernel_rfl
theorem tNm : (Tryz.prog.globals[0]?).map (·.type) = some 64 := by kernel_rfl
theorem gPw : Tryz.prog.globalNamed "internal/strconv.uint64pow10" = some 1 := by kernel_rfl
theorem tPw : (Tryz.prog.globals[1]?).map (·.type) = some 114 := by kernel_rfl
theorem co_s : Tryz.prog.cellsOf 9 = 1 := by kernel_rfl
def NmB : List (List UInt8) := NMS.map (·.data.toList)
theorem laid_names : (Rows.laid_bulkhead_trace_names : DataW Unit) = .agg (NmB.map (fun s => .lit (.string s))) := by kernel_rfl
theorem nm_of {W : World} {cs : Array Value} {fuel : Nat} {p : List MemPlace} {enc : TypeId × Value → Unit} {base : Nat} {sp : Nat → Bool} {held : Bool}
    (hv : W.var? Tryz.prog "bulkhead/trace.names" = some cs) (hd : DataW.trod enc Tryz.prog W base sp held fuel 64 cs.toList = some (Rows.laid_bulkhead_trace_names, p)) : ∀ j s, NMS[j]? = some s → W.cell? ⟨0, j, none⟩ = some (.string s) := by
  obtain ⟨xs, m, _, hx, hlc, hlen, hel⟩ := DataW.trod_array Tryz.underlying64 hd
  intro j s hj
  have hj13 : j < 13 := (List.getElem?_eq_some_iff.1 hj).1
  have h0 := hel j hj13
  rw [co_s, Nat.mul_one] at h0
  have hxs := congrArg Prod.fst hx
  rw [laid_names] at hxs
  simp at hxs
  obtain ⟨y, hy⟩ : ∃ y, xs[j]? = some y := ⟨_, List.getElem?_eq_getElem (by rw [hlen]; exact hj13)⟩
  rw [hy] at h0
  obtain ⟨v0, e0, r0, _⟩ := DataW.trod_string Tryz.underlying9 h0
  have h1 : (NmB.map (fun s => (DataW.lit (Lit.string s) : DataW Unit)))[j]? = some y.1 := by rw [hxs, List.getElem?_map, hy]; rfl
  unfold NmB at h1
  rw [List.getElem?_map, List.getElem?_map, hj, r0] at h1
  simp at h1
  have h2 : s = v0 := by
    cases s; cases v0
    simp at h1
    rw [h1]
  subst h2
  have h3 : cs.toList[j]? = some (.string s) := by
    have h4 : (List.take 1 (List.drop j cs.toList))[0]? = some (.string s) := by rw [e0]; rfl
    rw [List.getElem?_take_of_lt (by omega), List.getElem?_drop, Nat.add_zero] at h4
    exact h4
  rw [World.var?_cell gNm hv, ← Array.getElem?_toList]
  exact h3
theorem en_of {W : World} {cs ds : Array Value} {f g : Nat} {p q : List MemPlace} {enc enc' : TypeId × Value → Unit} {base base' : Nat} {sp sp' : Nat → Bool} {held held' : Bool}
    (hv : W.var? Tryz.prog "bulkhead/trace.names" = some cs) (hd : DataW.trod enc Tryz.prog W base sp held f 64 cs.toList = some (Rows.laid_bulkhead_trace_names, p))
    (hv' : W.var? Tryz.prog "internal/strconv.uint64pow10" = some ds) (hd' : DataW.trod enc' Tryz.prog W base' sp' held' g 114 ds.toList = some (Rows.laid_internal_strconv_uint64pow10, q)) : En W := by
  refine ⟨nm_of hv hd, ?_⟩
  have e : (Rows.laid_internal_strconv_uint64pow10 : DataW Unit) = Lib.tabData .u64 Lib.pow10Tab := by kernel_rfl
  rw [e] at hd'
  unfold Lib.TabIs
  rw [hv', ← Lib.cells_of_tab Tryz.underlying114 Tryz.underlying99 (by kernel_rfl) (by kernel_rfl) hd']
end Go.Proofs.YtjhhldgbllbbhaaGreatDoor
