/-
  The law IsaTable.
-/
import Derived.Test.YtkmhpbjegkhabaaDoorNames
namespace Go.Proofs.YtkmhpbjegkhabaaDoor
open Go.RowKit
set_option linter.unusedVariables false

/-- a call that only lays new memory, seen from an elder world -/
theorem via {F : Nat} {vs : Array Value} {w : World} {v : Value} (h : Calls Tryd.prog F vs w fun ex w' => ex = .returned v ∧ Below w.heap.size w w') {B : Nat} {W : World} (hb : Below B W w) (hB : B ≤ W.heap.size) :
    Calls Tryd.prog F vs w fun ex w' => ex = .returned v ∧ Below B W w' := by
  refine h.mono ?_
  rintro ex w' ⟨rfl, b⟩
  exact ⟨rfl, hb.trans (b.mono (Nat.le_trans hB hb.size))⟩

set_option maxHeartbeats 2000000 in
theorem isaTable_walk (o : Int) (ho : 0 ≤ o ∧ o < 256) (w : World) (hO : Ops w) :
    Calls Tryd.prog 3 #[.int .u8 o] w fun ex w' => ex = .returned (.bool true) ∧ Below w.heap.size w w' := by
  have c8 := fun w0 (hb : Below w.heap.size w w0) => name_any o ho w0 (hO.below hb hO.pos)
  have c9 := fun w0 (hb : Below w.heap.size w w0) => via (refName_any o ho w0) hb (Nat.le_refl _)
  have c10 := fun w0 (hb : Below w.heap.size w w0) => shape_any o ho w0 (hO.below hb hO.pos)
  have c11 := fun w0 (hb : Below w.heap.size w w0) => via (refShape_any o ho w0) hb (Nat.le_refl _)
  have c12 := fun w0 => known_any o ho w0
  have c13 := fun w0 => refKnown_any o ho w0
  obtain ⟨S, hS⟩ : ∃ S, S = nmV o := ⟨_, rfl⟩
  obtain ⟨T, hT⟩ : ∃ T, T = shV o := ⟨_, rfl⟩
  obtain ⟨K, hK⟩ : ∃ K, K = kn o := ⟨_, rfl⟩
  rw [← hS, ← hK] at c8 c9
  rw [← hT, ← hK] at c10 c11
  rw [← hK] at c12 c13
  clear hS hT hK hO ho
  have b0 : Below w.heap.size w w := Below.refl _ _
  go_enter Tryd.func3, Tryd.ntmps3
  go_wp2_with (first
    | (go_at_call 8; refine (c8 _ (by assumption)).mono ?_; rintro ex w2 ⟨rfl, hw⟩; obtain rfl := hw.symm)
    | (go_at_call 9; refine (c9 _ (by assumption)).mono ?_; rintro ex w3 ⟨rfl, b3⟩)
    | (go_at_call 10; refine (c10 _ (by assumption)).mono ?_; rintro ex w2 ⟨rfl, hw⟩; obtain rfl := hw.symm)
    | (go_at_call 11; refine (c11 _ (by assumption)).mono ?_; rintro ex w4 ⟨rfl, b4⟩)
    | (go_at_call 12; refine (c12 _).mono ?_; rintro ex w2 ⟨rfl, hw⟩; obtain rfl := hw.symm)
    | (go_at_call 13; refine (c13 _).mono ?_; rintro ex w2 ⟨rfl, hw⟩; obtain rfl := hw.symm))
  go_ret
  exact ⟨rfl, b4⟩

end Go.Proofs.YtkmhpbjegkhabaaDoor
