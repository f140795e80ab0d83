/-
  The table of the operations, as it is laid.
-/
import Derived.Test.YtijeaonldhccmaaDoorRows
import Derived.Test.YtijeaonldhccmaaDoorHeap
import Derived.WalkKit
import Derived.Handy
import Derived.Below
import Derived.LaidMore
import Derived.OpenShut
import Derived.ProofKit
import Derived.ChangeSame
namespace Go.Proofs.YtijeaonldhccmaaDoor
open Go.RowKit
set_option linter.unusedVariables false

/-- names and shapes by number; 0 is none -/
def nms : List (List UInt8) := [[], [110, 111, 112], [108, 100, 105], [108, 100, 104], [109, 111, 118], [108, 100], [115, 116], [97, 100, 100], [115, 117, 98], [109, 117, 108], [100, 105, 118], [109, 111, 100], [97, 110, 100], [111, 114], [120, 111, 114], [115, 104, 108], [115, 104, 114], [115, 97, 114], [97, 100, 100, 105], [115, 108, 116], [115, 108, 116, 117], [115, 101, 113], [106, 109, 112], [106, 122], [106, 110, 122], [106, 109, 114], [99, 97, 108, 108], [115, 121, 115]]
def shs : List (List UInt8) := [[], [], [97, 110], [97, 110], [97, 98], [97, 98, 110], [97, 98, 110], [97, 98, 99], [97, 98, 99], [97, 98, 99], [97, 98, 99], [97, 98, 99], [97, 98, 99], [97, 98, 99], [97, 98, 99], [97, 98, 99], [97, 98, 99], [97, 98, 99], [97, 98, 110], [97, 98, 99], [97, 98, 99], [97, 98, 99], [112], [97, 112], [97, 112], [97], [112], [110]]
def nmB (k : Nat) : ByteArray := ⟨(nms.getD k []).toArray⟩
def shB (k : Nat) : ByteArray := ⟨(shs.getD k []).toArray⟩
def opsD : DataW Unit := .agg ((List.range 27).map fun i => .agg [.lit (.string (nms.getD (i + 1) [])), .lit (.string (shs.getD (i + 1) []))])
theorem opsD_eq : Rows.laid_bulkhead_isa_operations = opsD := by kernel_rfl

/-- the variable holds the table -/
def Ops (w : World) : Prop := ∀ i, i < 27 → w.cell? ⟨0, i * 2, none⟩ = some (.string (nmB (i + 1))) ∧ w.cell? ⟨0, i * 2 + 1, none⟩ = some (.string (shB (i + 1)))

theorem gOps : Tryd.prog.globalNamed "bulkhead/isa.operations" = some 0 := by kernel_rfl
theorem tOps : (Tryd.prog.globals[0]?).map (·.type) = some 81 := by kernel_rfl
theorem cells39 : Tryd.prog.cellsOf 80 = 2 := by kernel_rfl
theorem cells9 : Tryd.prog.cellsOf 9 = 1 := by kernel_rfl

theorem ops_of {W : World} {cs : Array Value} {fuel : Nat} {p : List MemPlace} {enc : TypeId × Value → Unit} {base : Nat} {sp : Nat → Bool} {held : Bool}
    (hv : W.var? Tryd.prog "bulkhead/isa.operations" = some cs) (hd : DataW.trod enc Tryd.prog W base sp held fuel 81 cs.toList = some (Rows.laid_bulkhead_isa_operations, p)) : Ops W := by
  rw [opsD_eq] at hd
  obtain ⟨xs, m, _, hx, _, hlen, hel⟩ := DataW.trod_array Tryd.underlying81 hd
  intro i hi
  have hi2 := hel i hi
  rw [cells39] at hi2
  obtain ⟨x, hxi⟩ : ∃ x, xs[i]? = some x := ⟨_, List.getElem?_eq_getElem (by omega)⟩
  rw [hxi] at hi2
  obtain ⟨y0, y1, n, hy, _, h0, h1⟩ := ChangeShapes.trod_struct2 Tryd.underlying80 hi2
  have hxs : xs.map (·.1) = (List.range 27).map fun i => (.agg [.lit (.string (nms.getD (i + 1) [])), .lit (.string (shs.getD (i + 1) []))] : DataW Unit) := by
    have := congrArg Prod.fst hx
    simpa [opsD] using this.symm
  have hxd : x.1 = .agg [.lit (.string (nms.getD (i + 1) [])), .lit (.string (shs.getD (i + 1) []))] := by
    have e := congrArg (fun l => l[i]?) hxs
    simp [hxi, hi] at e
    simpa using e
  rw [hy] at hxd
  have c9 := cells9
  obtain ⟨s0, e0, r0, _⟩ := DataW.trod_string Tryd.underlying9 h0
  obtain ⟨s1, e1, r1, _⟩ := DataW.trod_string Tryd.underlying9 h1
  rw [r0, r1] at hxd
  simp only [DataW.agg.injEq, List.cons.injEq, DataW.lit.injEq, Lit.string.injEq, and_true] at hxd
  have q0 : s0 = nmB (i + 1) := by unfold nmB; rw [← hxd.1]
  have q1 : s1 = shB (i + 1) := by unfold shB; rw [← hxd.2]
  rw [World.var?_cell gOps hv, World.var?_cell gOps hv]
  rw [c9] at e0 e1
  constructor
  · have := congrArg (fun l => l[0]?) e0
    simp [List.getElem?_drop] at this
    rw [← q0]; simpa using this
  · have := congrArg (fun l => l[0]?) e1
    simp [List.getElem?_drop] at this
    rw [← q1]; simpa using this

theorem Ops.below {w w' : World} {B : Nat} (h : Ops w) (b : Below B w w') (hB : 0 < B) : Ops w' := fun i hi => by
  obtain ⟨h1, h2⟩ := h i hi
  exact ⟨(b.cell (p := ⟨0, i * 2, none⟩) hB).trans h1, (b.cell (p := ⟨0, i * 2 + 1, none⟩) hB).trans h2⟩
theorem Ops.pos {w : World} (h : Ops w) : 0 < w.heap.size := cell_lt (h 0 (by decide)).1

end Go.Proofs.YtijeaonldhccmaaDoor
