/-
  again: the slots of one turn over and over.
-/
import Derived.Test.YtkjnhhoniodbcaaGreatDoorOJoin
import Derived.Test.YtkjnhhoniodbcaaGreatDoorOPlayI
namespace Go.Proofs.YtkjnhhoniodbcaaGreatDoor
open Go.RowKit Go.Shelf Plain
attribute [local go_sem] Oper.semAt_some
set_option linter.unusedVariables false
set_option maxRecDepth 100000

/-- the slots of one turn, of H ticks; from from on f goes by it -/
structure Turn (f : Nat → Nat) (H from' : Nat) (T : List (Nat × Nat)) : Prop where
  tile : Rule.Tile (fun u => f (from' + u)) 0 H T
  per : ∀ u, f (from' + u) = f (from' + u % H)
  pos : 1 ≤ H

theorem Turn.one {f : Nat → Nat} {H from' : Nat} {x : Nat × Nat} (h : Turn f H from' [x]) (u : Nat) : f (from' + u) = x.2 := by
  have hs : x.1 = H := by have := h.tile.sum; simpa using this
  rw [h.per u]
  have := h.tile.at' 0 x rfl (u % H) (by rw [Rule.pre_zero]; omega) (by rw [Rule.pre_zero, hs]; have := Nat.mod_lt u (show H > 0 from h.pos); omega)
  rw [Nat.zero_add] at this
  exact this
theorem Turn.next {f : Nat → Nat} {H from' : Nat} {T : List (Nat × Nat)} (h : Turn f H from' T) {i k : Nat} {x : Nat × Nat} (hx : T[i]? = some x) : ∀ u, Rule.pre T i ≤ u → u < Rule.pre T i + x.1 → f (from' + k * H + u) = x.2 := by
  intro u h1 h2
  have e1 : from' + k * H + u = from' + (k * H + u) := by omega
  have hle : Rule.pre T i + x.1 ≤ H := by
    have := Rule.pre_le h.tile (i + 1)
    rw [Rule.pre_succ hx] at this
    exact this
  have e2 : (k * H + u) % H = u := by
    rw [Nat.mul_comm, Nat.mul_add_mod]
    exact Nat.mod_eq_of_lt (by omega)
  rw [e1, h.per, e2]
  have := h.tile.at' i x hx u h1 h2
  rw [Nat.zero_add] at this
  exact this

end Go.Proofs.YtkjnhhoniodbcaaGreatDoor
