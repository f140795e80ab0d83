/-
  partOf; predicates; numbered, ownedBy.
-/
import Derived.Test.YtdohjhhflfnncaaDoorCDat
import Derived.Test.YtdohjhhflfnncaaDoorCHeld
namespace Go.Proofs.YtdohjhhflfnncaaDoor
open Go.RowKit
set_option linter.unusedVariables false
set_option maxRecDepth 100000

theorem three {W : World} {b : Nat} {v0 v1 v2 : Value} {t : TypeId} (h : W.heap[b]? = some (.cells #[v0, v1, v2] t)) :
    W.cell? ⟨b, 0, none⟩ = some v0 ∧ W.cell? ⟨b, 1, none⟩ = some v1 ∧ W.cell? ⟨b, 2, none⟩ = some v2 := by
  refine ⟨?_, ?_, ?_⟩ <;> simp [World.cell?, h]
theorem one {W : World} {b : Nat} {v0 : Value} {t : TypeId} (h : W.heap[b]? = some (.cells #[v0] t)) : W.cell? ⟨b, 0, none⟩ = some v0 := by
  simp [World.cell?, h]

/-- the partition of a port -/
def partV (ps : List Po) (t : Int) : Int := if t < 1 ∨ (ps.length : Int) < t then 0 else ((ps[(t - 1).toNat]?).map (·.pt)).getD 0

theorem partV_I64 {ps : List Po} (h : okL okPo ps) (t : Int) : I6 (partV ps t) := by
  unfold partV
  split
  · unfold I6; omega
  · cases hg : ps[(t - 1).toNat]? with
    | none => unfold I6; simp
    | some p => exact (h p (List.mem_of_getElem? hg)).1

theorem partOf_any {F : Nat → Prop} {a0 a1 a2 : Option Addr} {n0 c0 n1 c1 n2 c2 : Nat} {ps : List Po} (t : Int) (ht : I6 t) (w : World) (h : Ls 6 elPo w F a1 n1 c1 ps) :
    Calls Tryd.prog 39 #[.agg #[.slice a0 n0 c0, .slice a1 n1 c1, .slice a2 n2 c2], .int .i64 t] w fun e w' => e = .returned (.int .i64 (partV ps t)) ∧ Kept No w w' := by
  have hl := h.len
  have hm := h.max
  have hcap := h.cap
  by_cases h1 : t < 1
  · rw [show partV ps t = 0 from if_pos (.inl h1)]
    go_enter Tryd.func39, Tryd.ntmps39
    go_wp2
    go_ret
    exact ⟨rfl, (Kept.refl No w).alloc _⟩
  have h1' : decide (t < 1) = false := decide_eq_false h1
  by_cases h2 : (n1 : Int) < t
  · rw [show partV ps t = 0 from if_pos (.inr (by omega))]
    go_enter Tryd.func39, Tryd.ntmps39
    go_wp2
    go_ret
    exact ⟨rfl, (Kept.refl No w).alloc _⟩
  have h2' : decide ((n1 : Int) < t) = false := decide_eq_false h2
  obtain ⟨k, hk⟩ : ∃ k : Nat, t = (k : Int) + 1 := ⟨(t - 1).toNat, by omega⟩
  subst hk
  have hk : k < ps.length := by omega
  obtain ⟨b, o, cs, rfl, hF, hcl, hr, hcs, hok⟩ := h.at' k _ (List.getElem?_eq_getElem hk)
  have e : partV ps ((k : Int) + 1) = ps[k].pt := by
    unfold partV
    rw [if_neg (by omega), show (((k : Int) + 1) - 1).toNat = k by omega, List.getElem?_eq_getElem hk]; rfl
  rw [e]
  have d : w.cell? ⟨b, o + k * 6, none⟩ = some (.int .i64 ps[k].pt) := hr 0 _ (by rw [hcs]; rfl)
  generalize ps[k].pt = V at *
  clear hr hcs hok e h
  go_enter Tryd.func39, Tryd.ntmps39
  have d' := ((Kept.refl No w).alloc (.cells #[.slice a0 n0 c0, .slice (some ⟨b, o, none⟩) n1 c1, .slice a2 n2 c2] 26)).cell d (fun h => h)
  go_wp2
  go_ret
  exact ⟨rfl, (Kept.refl No w).alloc _⟩

end Go.Proofs.YtdohjhhflfnncaaDoor
