/-
  One text: YTab.
-/
import Derived.Test.YtnmhcnppdhdhfaaGreatDoorHYOpn
import Derived.Test.YtnmhcnppdhdhfaaGreatDoorHRLeg
import Derived.ChangeSame
namespace Go.Proofs.YtnmhcnppdhdhfaaGreatDoor
open Go.RowKit
set_option linter.unusedVariables false
set_option linter.unusedSimpArgs false
set_option maxRecDepth 100000

theorem gEt : Tryz.prog.globalNamed "errors.errorType" = some 0 := by kernel_rfl
theorem gRt : (Tryz.prog.cutTypes.find? (·.1 == "internal/reflectlite.rtype")).map (·.2) = some 241 := by kernel_rfl
theorem gRow : ((List.range 331).filter fun t => Tryz.prog.rowNamed t [101, 114, 114, 111, 114]) = [97] := by kernel_rfl
theorem gSize : Tryz.prog.types.size = 331 := by kernel_rfl
theorem gl_of {W : World} (h : laidMetH Tryz.prog [("errors.errorType", Rows.laid_errors_errorType), ("bulkhead/isa.operations", Rows.laid_bulkhead_isa_operations)] W) : Gl W := by
  have h' : laidMet Tryz.prog [("bulkhead/isa.operations", Rows.laid_bulkhead_isa_operations)] W ∧ handlesMet Tryz.prog [("errors.errorType", Rows.laid_errors_errorType)] W := h
  obtain ⟨name, u, ty, e1, e2, e3, e4, e5⟩ := h'.2 _ (List.mem_singleton.2 rfl)
  have en : name = [101, 114, 114, 111, 114] := (Option.some.inj e1).symm
  subst en
  obtain rfl := Option.some.inj (gRt.symm.trans e2)
  have hm : ty ∈ (List.range 331).filter fun t => Tryz.prog.rowNamed t [101, 114, 114, 111, 114] := List.mem_filter.2 ⟨List.mem_range.2 (by rw [← gSize]; exact e3), e4⟩
  rw [gRow] at hm
  obtain rfl := List.mem_singleton.1 hm
  have hh : typeHandle Tryz.prog 97 = .pointer (some ⟨2, 97, none⟩) := by kernel_rfl
  rw [hh] at e5
  show W.cell? ⟨0, 0, none⟩ = _
  simpa using World.var?_cell gEt e5 0

def opsD : DataW Unit := .agg ((List.range 27).map fun i => .agg [.lit (.string (Lg.nms.getD (i + 1) [])), .lit (.string (Lg.shs.getD (i + 1) []))])
theorem opsD_eq : Rows.laid_bulkhead_isa_operations = opsD := by kernel_rfl
theorem gOps : Tryz.prog.globalNamed "bulkhead/isa.operations" = some 1 := by kernel_rfl
theorem tOps : (Tryz.prog.globals[1]?).map (·.type) = some 280 := by kernel_rfl
theorem cells39 : Tryz.prog.cellsOf 279 = 2 := by kernel_rfl
theorem cells9 : Tryz.prog.cellsOf 9 = 1 := by kernel_rfl
theorem opsL_of {W : World} {cs : Array Value} {fuel : Nat} {p : List MemPlace} {enc : TypeId × Value → Unit} {base : Nat} {sp : Nat → Bool} {held : Bool}
    (hv : W.var? Tryz.prog "bulkhead/isa.operations" = some cs) (hd : DataW.trod enc Tryz.prog W base sp held fuel 280 cs.toList = some (Rows.laid_bulkhead_isa_operations, p)) : Lg.Ops W := by
  rw [opsD_eq] at hd
  obtain ⟨xs, m, _, hx, _, hlen, hel⟩ := DataW.trod_array Tryz.underlying280 hd
  intro i hi
  have hi2 := hel i hi
  rw [cells39] at hi2
  obtain ⟨x, hxi⟩ : ∃ x, xs[i]? = some x := ⟨_, List.getElem?_eq_getElem (by omega)⟩
  rw [hxi] at hi2
  obtain ⟨y0, y1, n, hy, _, h0, h1⟩ := ChangeShapes.trod_struct2 Tryz.underlying279 hi2
  have hxs : xs.map (·.1) = (List.range 27).map fun i => (.agg [.lit (.string (Lg.nms.getD (i + 1) [])), .lit (.string (Lg.shs.getD (i + 1) []))] : DataW Unit) := by
    have := congrArg Prod.fst hx
    simpa [opsD] using this.symm
  have hxd : x.1 = .agg [.lit (.string (Lg.nms.getD (i + 1) [])), .lit (.string (Lg.shs.getD (i + 1) []))] := by
    have e := congrArg (fun l => l[i]?) hxs
    simp [hxi, hi] at e
    simpa using e
  rw [hy] at hxd
  have c9 := cells9
  obtain ⟨s0, e0, r0, _⟩ := DataW.trod_string Tryz.underlying9 h0
  obtain ⟨s1, e1, r1, _⟩ := DataW.trod_string Tryz.underlying9 h1
  rw [r0, r1] at hxd
  simp only [DataW.agg.injEq, List.cons.injEq, DataW.lit.injEq, Lit.string.injEq, and_true] at hxd
  have q0 : s0 = Lg.nmB (i + 1) := by unfold Lg.nmB; rw [← hxd.1]
  have q1 : s1 = Lg.shB (i + 1) := by unfold Lg.shB; rw [← hxd.2]
  rw [World.var?_cell gOps hv, World.var?_cell gOps hv]
  rw [c9] at e0 e1
  constructor
  · have := congrArg (fun l => l[0]?) e0
    simp [List.getElem?_drop] at this
    rw [← q0]; simpa using this
  · have := congrArg (fun l => l[0]?) e1
    simp [List.getElem?_drop] at this
    rw [← q1]; simpa using this

theorem ops_laid {W : World} (h : laidMetH Tryz.prog [("errors.errorType", Rows.laid_errors_errorType), ("bulkhead/isa.operations", Rows.laid_bulkhead_isa_operations)] W) : Lg.Ops W := by
  have h' : laidMet Tryz.prog [("bulkhead/isa.operations", Rows.laid_bulkhead_isa_operations)] W ∧ handlesMet Tryz.prog [("errors.errorType", Rows.laid_errors_errorType)] W := h
  obtain ⟨ps, ⟨g0, t0, cs0, f0, p0, q0, hg0, ht0, hv0, hd0, _, _⟩, _⟩ := h'.1
  obtain rfl := Option.some.inj (gOps.symm.trans hg0)
  obtain rfl := Option.some.inj (tOps.symm.trans ht0)
  exact opsL_of hv0 hd0
end Go.Proofs.YtnmhcnppdhdhfaaGreatDoor
