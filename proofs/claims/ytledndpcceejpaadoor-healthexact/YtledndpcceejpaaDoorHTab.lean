/-
  The names, as they are laid; the verdict that is handed in.
-/
import Derived.Test.YtledndpcceejpaaDoorRows
import Derived.Test.YtledndpcceejpaaDoorHExact
import Derived.Test.YtledndpcceejpaaDoorHOpen
import Derived.LaidMore
import Derived.OpenShut
import Derived.ProofKit
import Derived.ChangeSame
namespace Go.Proofs.YtledndpcceejpaaDoor
open Go.ChangeShapes Go.WideShapes Go.ChangeAt Go.RowKit
set_option linter.unusedVariables false
set_option maxRecDepth 100000

def nmD : DataW Unit := .agg ((List.range 8).map fun i => .lit (.string (nms.getD i [])))
theorem nmD_eq : Rows.laid_bulkhead_health_names = nmD := by kernel_rfl
theorem gNm : Tryd.prog.globalNamed "bulkhead/health.names" = some 0 := by kernel_rfl
theorem tNm : (Tryd.prog.globals[0]?).map (·.type) = some 60 := by kernel_rfl
theorem co_str : Tryd.prog.cellsOf 9 = 1 := by kernel_rfl
theorem nm_of {W : World} {cs : Array Value} {fuel : Nat} {p : List MemPlace} {enc : TypeId × Value → Unit} {base : Nat} {sp : Nat → Bool} {held : Bool}
    (hv : W.var? Tryd.prog "bulkhead/health.names" = some cs) (hd : DataW.trod enc Tryd.prog W base sp held fuel 60 cs.toList = some (Rows.laid_bulkhead_health_names, p)) : Nm W := by
  rw [nmD_eq] at hd
  obtain ⟨xs, m, _, hx, _, hlen, hel⟩ := DataW.trod_array Tryd.underlying60 hd
  intro i hi
  have hi2 := hel i hi
  rw [co_str] at hi2
  obtain ⟨x, hxi⟩ : ∃ x, xs[i]? = some x := ⟨_, List.getElem?_eq_getElem (by omega)⟩
  rw [hxi] at hi2
  have hxs : xs.map (·.1) = (List.range 8).map fun i => (.lit (.string (nms.getD i [])) : DataW Unit) := by
    have := congrArg Prod.fst hx
    simpa [nmD] using this.symm
  have hxd : x.1 = .lit (.string (nms.getD i [])) := by
    have e := congrArg (fun l => l[i]?) hxs
    simp [hxi, hi] at e
    simpa using e
  obtain ⟨s0, e0, r0, _⟩ := DataW.trod_string Tryd.underlying9 hi2
  rw [r0] at hxd
  simp only [DataW.lit.injEq, Lit.string.injEq] at hxd
  have q0 : s0 = nmB i := by unfold nmB; rw [← hxd]
  rw [World.var?_cell gNm hv]
  have := congrArg (fun l => l[0]?) e0
  simp [List.getElem?_drop] at this
  rw [← q0]
  simpa using this
theorem li2 {α : Type} {l : List α} (h : l.length = 2) : ∃ a b, l = [a, b] := by
  match l, h with
  | [a, b], _ => exact ⟨a, b, rfl⟩
theorem co_Vd : Tryd.prog.cellsOf 26 = 2 := by kernel_rfl
theorem open_vd {H : Type} {enc : TypeId × Value → H} {W : World} {v : Value} {d : DataW H} {p : List MemPlace}
    (h : DataW.Trod enc Tryd.prog W 0 (fun _ => true) true 26 v d p) : ∃ (x y : Int), v = .agg #[.int .i64 x, .int .i64 y] := by
  obtain ⟨fuel, hf⟩ := h
  obtain ⟨ys, n, _, hys, hlc, hlen, hfs⟩ := DataW.trod_struct Tryd.underlying26 hf
  rw [co_Vd] at hlc
  obtain ⟨A, rfl, hA⟩ := agg_of_many (v := v) (by omega)
  rw [hA] at hlc hfs
  obtain ⟨c0, c1, hc⟩ := li2 hlc
  rw [hc] at hfs
  obtain ⟨y0, y1, rfl⟩ := li2 (show ys.length = 2 from hlen)
  have g0 := hfs 0 _ rfl
  have g1 := hfs 1 _ rfl
  simp [co_int] at g0 g1
  obtain ⟨v0, e0, _, _⟩ := DataW.trod_int Tryd.underlying3 g0
  obtain ⟨v1, e1, _, _⟩ := DataW.trod_int Tryd.underlying3 g1
  simp at e0 e1
  subst e0 e1
  refine ⟨v0, v1, ?_⟩
  have eA : A = #[.int .i64 v0, .int .i64 v1] := by cases A; simp at hc; simp [hc]
  rw [eA]
theorem exact_any (n h : Int) (t : Nat → Int) (k p : Int) (busy : Bool) (x y pc : Int) (w : World) (hO : Nm w) : Calls Tryd.prog 3 #[.agg (csA n h t k p busy), .agg #[.int .i64 x, .int .i64 y], .int .i64 pc] w fun e w' => e = .returned (.bool true) ∧ Below w.heap.size w w' :=
  (exact_law ⟨n, h, t, k, p, busy, x, y⟩ pc w hO).mono fun e w' h => ⟨h.1, h.2.below0⟩
end Go.Proofs.YtledndpcceejpaaDoor
