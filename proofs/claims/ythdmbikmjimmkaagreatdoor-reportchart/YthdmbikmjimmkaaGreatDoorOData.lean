/-
  Servers as the rule has them; the players' row in memory (no dump).
-/
import Derived.Test.YthdmbikmjimmkaaGreatDoorHeap
import Derived.Test.YthdmbikmjimmkaaGreatDoorGG
import Derived.Test.YthdmbikmjimmkaaGreatDoorGE
namespace Go.Proofs.YthdmbikmjimmkaaGreatDoor
open Go.RowKit Plain
set_option linter.unusedVariables false
set_option maxRecDepth 100000

def nv (n : Nat) : Value := .int .i64 (n : Int)

/-- num.NextAt, of ticks -/
def nextN (o p f : Nat) : Nat := if f ≤ o then o else if (f - o) % p = 0 then f else f + (p - (f - o) % p)
theorem nextV_nat (o p f : Nat) (hp : 1 ≤ p) (hs : p + f ≤ 4611686018427387904) : nextV o p f = (nextN o p f : Int) := by
  unfold nextV nextN
  rw [if_neg (by omega)]
  by_cases h1 : f ≤ o
  · rw [if_pos h1, if_pos (by omega)]
  · rw [if_neg h1, if_neg (by omega)]
    have e : (f : Int) - o = ((f - o : Nat) : Int) := by omega
    rw [e, ← Int.natCast_emod]
    by_cases h2 : (f - o) % p = 0
    · rw [if_pos h2, if_pos (by omega)]
    · rw [if_neg h2, if_neg (by omega)]
      have := Nat.mod_lt (f - o) (show p > 0 by omega)
      rw [if_neg (by omega)]
      omega
theorem nextN_after {s : Rule.Sys} (hs : Rule.Ok s) {i now : Nat} (hi : i < s.n) : Rule.After s i now (nextN (s.O i) (s.P i) (now + 1)) := by
  have hp := hs.per i hi
  unfold nextN
  split
  · rename_i h
    exact ⟨⟨Nat.le_refl _, by simp⟩, by omega, fun x a b hr => by have := hr.1; omega⟩
  · rename_i h
    split
    · rename_i h2
      exact ⟨⟨by omega, h2⟩, by omega, fun x a b => by omega⟩
    · rename_i h2
      have hlt := Nat.mod_lt (now + 1 - s.O i) hp
      have hdm := Nat.div_add_mod (now + 1 - s.O i) (s.P i)
      refine ⟨⟨by omega, ?_⟩, by omega, fun x a b hr => ?_⟩
      · have e : now + 1 + (s.P i - (now + 1 - s.O i) % s.P i) - s.O i = s.P i * ((now + 1 - s.O i) / s.P i) + s.P i := by omega
        rw [e]
        simp
      · obtain ⟨h3, h4⟩ := hr
        have e : x - s.O i = (now + 1 - s.O i) % s.P i + (x - (now + 1)) + s.P i * ((now + 1 - s.O i) / s.P i) := by omega
        rw [e, Nat.add_mul_mod_self_left, Nat.mod_eq_of_lt (by omega)] at h4
        omega
theorem nextN_le (o p f : Nat) (ho : o < p) (hp : 1 ≤ p) : nextN o p f ≤ f + p := by
  unfold nextN
  split
  · omega
  · split
    · omega
    · omega

/-- block g holds the players: of each its server, its number, its rest, its next release -/
structure Pl (w : World) (g : Nat) (s : Rule.Sys) (idx rs nx : Nat → Nat) : Prop where
  at' : ∀ k, k < s.n → w.cell? ⟨g, k * 7, none⟩ = some (nv (s.P (idx k))) ∧ w.cell? ⟨g, k * 7 + 1, none⟩ = some (nv (s.B (idx k))) ∧ w.cell? ⟨g, k * 7 + 2, none⟩ = some (nv (s.O (idx k))) ∧
    w.cell? ⟨g, k * 7 + 4, none⟩ = some (nv (idx k + 1)) ∧ w.cell? ⟨g, k * 7 + 5, none⟩ = some (nv (rs k)) ∧ w.cell? ⟨g, k * 7 + 6, none⟩ = some (nv (nx k))
  fz : ∀ i, w.frozen? ⟨g, i, none⟩ = false

theorem Pl.kept {w w' : World} {g : Nat} {s : Rule.Sys} {idx rs nx : Nat → Nat} (h : Pl w g s idx rs nx) (hk : w'.heap[g]? = w.heap[g]?) : Pl w' g s idx rs nx := by
  have e : ∀ i, w'.cell? ⟨g, i, none⟩ = w.cell? ⟨g, i, none⟩ := fun i => World.cell?_of_block hk
  refine ⟨fun k hk' => ?_, fun i => ?_⟩
  · simp only [e]; exact h.at' k hk'
  · have := h.fz i
    simp only [World.frozen?, hk] at this ⊢
    exact this
theorem cell_set {w : World} {g i j : Nat} {v u : Value} (h : w.cell? ⟨g, i, none⟩ = some u) : (w.setCell ⟨g, j, none⟩ v).cell? ⟨g, i, none⟩ = some (if i = j then v else u) := by
  by_cases e : i = j
  · subst e
    rw [if_pos rfl]
    exact World.cell?_setCell_same' _ _ _ (by rw [h]; rfl)
  · rw [if_neg e]
    have hne : (⟨g, j, none⟩ : Addr) ≠ ⟨g, i, none⟩ := fun h' => e (by injection h' with _ h1 _; exact h1.symm)
    rw [World.cell?_setCell_other _ _ _ _ hne]
    exact h
end Go.Proofs.YthdmbikmjimmkaaGreatDoor
