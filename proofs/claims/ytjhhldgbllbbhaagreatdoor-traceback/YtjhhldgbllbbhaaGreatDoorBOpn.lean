/-
  One event that is handed in, opened.
-/
import Derived.Test.YtjhhldgbllbbhaaGreatDoorVOpn
import Derived.Test.YtjhhldgbllbbhaaGreatDoorVShw
namespace Go.Proofs.YtjhhldgbllbbhaaGreatDoor
open Go.ChangeShapes Go.WideShapes Go.ChangeAt Go.RowKit
set_option linter.unusedVariables false
set_option maxRecDepth 100000

theorem open_ev {H : Type} {enc : TypeId × Value → H} {W : World} {v : Value} {d : DataW H} {p : List MemPlace}
    (h : DataW.Trod enc Tryz.prog W 0 (fun _ => true) true 25 v d p) (hw : ∀ n ∈ d.weights Tryz.prog 25, n ≤ reachBytes) (hv : ∃ cs, v = .agg cs ∧ cs.size = Tryz.prog.cellsOf 25) :
    ∃ (x : Ev) (da : Option Addr) (dc : Nat), v = .agg (x.val da dc) ∧ Ir W (Hn W) x da dc ∧ x.Fit := by
  obtain ⟨fuel, hf⟩ := h
  obtain ⟨A, rfl, _⟩ := hv
  obtain ⟨x, ⟨da, dc, e, ir⟩, h1, h2, h3⟩ := each_N fuel A.toList (d, p) (by simpa [Value.cells] using hf) hw
  exact ⟨x, da, dc, by rw [Array.toList_inj.1 e], ir, h1, h2, h3⟩
end Go.Proofs.YtjhhldgbllbbhaaGreatDoor
