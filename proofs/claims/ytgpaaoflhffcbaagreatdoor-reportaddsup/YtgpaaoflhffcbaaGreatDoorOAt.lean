/-
  At: the occupant of a tick.
-/
import Derived.Test.YtgpaaoflhffcbaaGreatDoorGA
namespace Go.Proofs.YtgpaaoflhffcbaaGreatDoor
open Go.RowKit Go.Shelf Plain
set_option linter.unusedVariables false
set_option maxRecDepth 100000

theorem tim_yes {xs : List Srv} (h : timF xs xs.length = none) : hyV xs xs.length = (hyp xs : Int) ∧ hyE xs xs.length = 0 := by
  have hv := vd_of h
  constructor
  · unfold hyV
    rw [h]
    show lcmV (zP xs) xs.length 1048576 = (hyp xs : Int)
    unfold hyp
    have := hv.hyp1
    unfold hyp at this
    omega
  · unfold hyE
    rw [h]
theorem tim_no {xs : List Srv} {p : Int × Int} (h : timF xs xs.length = some p) : hyV xs xs.length = 0 ∧ hyE xs xs.length = p.1 := by
  constructor
  · unfold hyV; rw [h]
  · unfold hyE; rw [h]

end Go.Proofs.YtgpaaoflhffcbaaGreatDoor
