/-
  partOf; predicates; numbered, ownedBy.
-/
import Derived.Test.YtfjaajjljmbmbaaGreatDoorCDat
import Derived.Test.YtfjaajjljmbmbaaGreatDoorCHeld
import Derived.Test.YtfjaajjljmbmbaaGreatDoorCDue
namespace Go.Proofs.YtfjaajjljmbmbaaGreatDoor
open Go.RowKit Plain
set_option linter.unusedVariables false
set_option maxRecDepth 100000

theorem three {W : World} {b : Nat} {v0 v1 v2 : Value} {t : TypeId} (h : W.heap[b]? = some (.cells #[v0, v1, v2] t)) :
    W.cell? ⟨b, 0, none⟩ = some v0 ∧ W.cell? ⟨b, 1, none⟩ = some v1 ∧ W.cell? ⟨b, 2, none⟩ = some v2 := by
  refine ⟨?_, ?_, ?_⟩ <;> simp [World.cell?, h]
theorem one {W : World} {b : Nat} {v0 : Value} {t : TypeId} (h : W.heap[b]? = some (.cells #[v0] t)) : W.cell? ⟨b, 0, none⟩ = some v0 := by
  simp [World.cell?, h]

/-- the partition of a port -/
def partV (ps : List Po) (t : Int) : Int := if t < 1 ∨ (ps.length : Int) < t then 0 else ((ps[(t - 1).toNat]?).map (·.pt)).getD 0

theorem partV_I64 {ps : List Po} (h : okL okPo ps) (t : Int) : I64 (partV ps t) := by
  unfold partV
  split
  · unfold I64; omega
  · cases hg : ps[(t - 1).toNat]? with
    | none => unfold I64; simp
    | some p => exact (h p (List.mem_of_getElem? hg)).1

theorem partOf_any {F : Nat → Prop} {a0 a1 a2 : Option Addr} {n0 c0 n1 c1 n2 c2 : Nat} {ps : List Po} (t : Int) (ht : I64 t) (w : World) (h : Ls 6 elPo w F a1 n1 c1 ps) :
    Calls Tryz.prog 22 #[.agg #[.slice a0 n0 c0, .slice a1 n1 c1, .slice a2 n2 c2], .int .i64 t] w fun e w' => e = .returned (.int .i64 (partV ps t)) ∧ Kept No w w' := by
  have hl := h.len
  have hm := h.max
  have hcap := h.cap
  by_cases h1 : t < 1
  · rw [show partV ps t = 0 from if_pos (.inl h1)]
    go_enter Tryz.func22, Tryz.ntmps22
    go_wp2
    go_ret
    exact ⟨rfl, (Kept.refl No w).alloc _⟩
  have h1' : decide (t < 1) = false := decide_eq_false h1
  by_cases h2 : (n1 : Int) < t
  · rw [show partV ps t = 0 from if_pos (.inr (by omega))]
    go_enter Tryz.func22, Tryz.ntmps22
    go_wp2
    go_ret
    exact ⟨rfl, (Kept.refl No w).alloc _⟩
  have h2' : decide ((n1 : Int) < t) = false := decide_eq_false h2
  obtain ⟨k, hk⟩ : ∃ k : Nat, t = (k : Int) + 1 := ⟨(t - 1).toNat, by omega⟩
  subst hk
  have hk : k < ps.length := by omega
  obtain ⟨b, o, cs, rfl, hF, hcl, hr, hcs, hok⟩ := h.at' k _ (List.getElem?_eq_getElem hk)
  have e : partV ps ((k : Int) + 1) = ps[k].pt := by
    unfold partV
    rw [if_neg (by omega), show (((k : Int) + 1) - 1).toNat = k by omega, List.getElem?_eq_getElem hk]; rfl
  rw [e]
  have d : w.cell? ⟨b, o + k * 6, none⟩ = some (.int .i64 ps[k].pt) := hr 0 _ (by rw [hcs]; rfl)
  generalize ps[k].pt = V at *
  clear hr hcs hok e h
  go_enter Tryz.func22, Tryz.ntmps22
  have d' := ((Kept.refl No w).alloc (.cells #[.slice a0 n0 c0, .slice (some ⟨b, o, none⟩) n1 c1, .slice a2 n2 c2] 26)).cell d (fun h => h)
  go_wp2
  go_ret
  exact ⟨rfl, (Kept.refl No w).alloc _⟩

/-- a predicate on ports: it reads what lay there at w, and lays nothing but new blocks -/
def Prd (g : Nat) (lb : Array Value) (p : Int → Bool) (w : World) : Prop :=
  ∀ (W : World) (x : Int), I64 x → Kept No w W → Calls Tryz.prog g (#[.int .i64 x] ++ lb) W fun e W' => e = .returned (.bool (p x)) ∧ Kept No W W'
theorem Prd.on {g : Nat} {lb : Array Value} {p : Int → Bool} {w w' : World} (h : Prd g lb p w) (k : Kept No w w') : Prd g lb p w' :=
  fun W x hx K => h W x hx (k.trans K (fun _ h => .inl h))

def numB (m x : Int) : Bool := x == m && decide (1 ≤ x)
theorem numbered_new (m : Int) (w : World) :
    Calls Tryz.prog 28 #[.int .i64 m] w fun e w' => e = .returned (.func (.func 55) #[] #[.pointer (some ⟨w.heap.size, 0, none⟩)]) ∧ w' = w.alloc (.cells #[.int .i64 m] 3) := by
  go_enter Tryz.func28, Tryz.ntmps28
  go_wp2
  go_ret
  exact ⟨rfl, rfl⟩
theorem numbered_prd (m : Int) (w : World) : Prd 55 #[.pointer (some ⟨w.heap.size, 0, none⟩)] (numB m) (w.alloc (.cells #[.int .i64 m] 3)) := by
  intro W x hx K
  have hc : W.cell? ⟨w.heap.size, 0, none⟩ = some (.int .i64 m) := one (K.at' (alloc_new w _) (fun h => h))
  generalize w.heap.size = B at *
  unfold numB
  clear K
  by_cases h1 : x = m
  · subst h1
    rw [show (x == x) = true from by simp, Bool.true_and]
    go_enter Tryz.func55, Tryz.ntmps55
    go_wp2
    go_ret
    exact ⟨rfl, Kept.refl _ _⟩
  · rw [show (x == m) = false from by simp [h1], Bool.false_and]
    go_enter Tryz.func55, Tryz.ntmps55
    go_wp2
    go_ret
    exact ⟨rfl, Kept.refl _ _⟩
end Go.Proofs.YtfjaajjljmbmbaaGreatDoor
