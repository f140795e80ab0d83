/-
  Roads: isPart, joined.
-/
import Derived.Test.YtdohjhhflfnncaaDoorFPl
import Derived.Test.YtdohjhhflfnncaaDoorCPts
import Derived.Test.YtdohjhhflfnncaaDoorCRange
import Derived.OwnWalkIn
import Derived.TacticsInMore
import Derived.LoopNIn
import Derived.LoopIn
import Derived.Shelf.RegionOpen
namespace Go.Proofs.YtdohjhhflfnncaaDoor
open Go.RowKit Go.Shelf
attribute [local go_sem] Oper.semAt_some
set_option linter.unusedVariables false
set_option maxRecDepth 100000

def isP (n : Nat) (p : Int) : Bool := decide (1 ≤ p) && decide (p ≤ n)
theorem isP_iff {n : Nat} {p : Int} : isP n p = true ↔ 1 ≤ p ∧ p ≤ n := by unfold isP; simp

theorem isPart_any (a0 a1 a2 : Option Addr) (n0 c0 n1 c1 n2 c2 : Nat) (p : Int) (w : World) :
    Calls Tryd.prog 11 #[.agg #[.slice a0 n0 c0, .slice a1 n1 c1, .slice a2 n2 c2], .int .i64 p] w fun e w' => e = .returned (.bool (isP n0 p)) ∧ Kept No w w' := by
  by_cases h1 : 1 ≤ p
  · by_cases h2 : p ≤ n0
    · rw [show isP n0 p = true from isP_iff.2 ⟨h1, h2⟩]
      go_enter Tryd.func11, Tryd.ntmps11
      go_wp2
      go_ret
      exact ⟨rfl, (Kept.refl No w).alloc _⟩
    · rw [show isP n0 p = false from by unfold isP; simp [h2]]
      go_enter Tryd.func11, Tryd.ntmps11
      go_wp2
      go_ret
      exact ⟨rfl, (Kept.refl No w).alloc _⟩
  · rw [show isP n0 p = false from by unfold isP; simp [h1]]
    have h1' : decide (1 ≤ p) = false := decide_eq_false h1
    go_enter Tryd.func11, Tryd.ntmps11
    go_wp2
    go_ret
    exact ⟨rfl, (Kept.refl No w).alloc _⟩

/-! ### the roads, plain -/
/-- the ends of a channel's roads, of so many goals -/
def edG (n : Nat) (f : Int) (ts : List Int) : List (Nat × Nat) := (ts.filter (isP n)).map fun t => ((f - 1).toNat, (t - 1).toNat)
def edC (n : Nat) (ps : List Po) (x : Ch) : List (Nat × Nat) := if isP n (partV ps x.fr) then edG n (partV ps x.fr) (partsL ps x.dst) else []
def edg (n : Nat) (ps : List Po) (L : List Ch) : List (Nat × Nat) := L.flatMap (edC n ps)
theorem edG_ok {n : Nat} {f : Int} {ts : List Int} (hf : isP n f = true) : Eok (edG n f ts) n := by
  intro p hp
  unfold edG at hp
  obtain ⟨t, ht, rfl⟩ := List.mem_map.1 hp
  have h1 := isP_iff.1 (List.mem_filter.1 ht).2
  have h2 := isP_iff.1 hf
  constructor
  · show (f - 1).toNat < n; omega
  · show (t - 1).toNat < n; omega
theorem edg_ok (n : Nat) (ps : List Po) (L : List Ch) : Eok (edg n ps L) n := by
  intro p hp
  unfold edg at hp
  obtain ⟨x, _, hx⟩ := List.mem_flatMap.1 hp
  unfold edC at hx
  split at hx
  · next h => exact edG_ok h p hx
  · cases hx
theorem edG_app (n : Nat) (f : Int) (ts us : List Int) : edG n f (ts ++ us) = edG n f ts ++ edG n f us := by simp [edG]
theorem edg_app (n : Nat) (ps : List Po) (L M : List Ch) : edg n ps (L ++ M) = edg n ps L ++ edg n ps M := by simp [edg]
/-- what is told of road q -/
def elE (E : List (Nat × Nat)) (q : Nat) : Array Value := #[.int .i64 (((E.getD q (0, 0)).1 : Nat) : Int), .int .i64 (((E.getD q (0, 0)).2 : Nat) : Int)]
theorem elE_at {E A B : List (Nat × Nat)} {x : Nat × Nat} (h : E = A ++ x :: B) : elE E A.length = #[.int .i64 ((x.1 : Nat) : Int), .int .i64 ((x.2 : Nat) : Int)] ∧ A.length < E.length := by
  subst h
  refine ⟨?_, by simp⟩
  unfold elE
  simp [List.getD]
theorem take_succ_get {α : Type} {l : List α} {i : Nat} {x : α} (h : l[i]? = some x) : l.take (i + 1) = l.take i ++ [x] := by
  rw [List.take_add_one, h]; rfl
theorem split_at {α : Type} {l : List α} {i : Nat} {x : α} (h : l[i]? = some x) : l = l.take i ++ x :: l.drop (i + 1) := by
  obtain ⟨hi, e⟩ := List.getElem?_eq_some_iff.1 h
  subst e
  rw [← List.drop_eq_getElem_cons hi, List.take_append_drop]

theorem joined_new (a0 a1 a2 : Option Addr) (n0 c0 n1 c1 n2 c2 : Nat) (w : World) :
    Calls Tryd.prog 22 #[.agg #[.slice a0 n0 c0, .slice a1 n1 c1, .slice a2 n2 c2]] w fun e w' => e = .returned (.func (.func 31) #[] #[.pointer (some ⟨w.heap.size, 0, none⟩)]) ∧ w' = w.alloc (.cells #[.slice a0 n0 c0, .slice a1 n1 c1, .slice a2 n2 c2] 26) := by
  go_enter Tryd.func22, Tryd.ntmps22
  go_wp2
  go_ret
  exact ⟨rfl, rfl⟩
end Go.Proofs.YtdohjhhflfnncaaDoor
