/-
  Plain, of rests: a window's begin by counts; who stands above (no dump).
-/
import Derived.Test.YtahhkkkgaoekcaaGreatDoorOMath
import Derived.Test.YtahhkkkgaoekcaaGreatDoorNTicks
namespace Go.Proofs.YtahhkkkgaoekcaaGreatDoor
open Plain
set_option linter.unusedVariables false

namespace Rule
/-- what of a partition hangs on those alone whose priority is not below p -/
theorem above {s s' : Sys} (hs : Ok s) (hs' : Ok s') (hn : s.n = s'.n) (p : Int) (hq : ∀ i, i < s.n → s.pr i = s'.pr i)
    (hP : ∀ i, i < s.n → p ≤ s.pr i → s.P i = s'.P i) (hB : ∀ i, i < s.n → p ≤ s.pr i → s.B i = s'.B i) (hO : ∀ i, i < s.n → p ≤ s.pr i → s.O i = s'.O i) (t : Nat) :
    ∀ i, i < s.n → p ≤ s.pr i → rest s t i = rest s' t i ∧ (occ s t = i + 1 ↔ occ s' t = i + 1) := by
  have rl : ∀ i u, i < s.n → p ≤ s.pr i → (rel s i u ↔ rel s' i u) := fun i u hi hp => by unfold rel; rw [hO i hi hp, hP i hi hp]
  have oc : ∀ u, (∀ i, i < s.n → p ≤ s.pr i → rest s u i = rest s' u i) → ∀ i, i < s.n → p ≤ s.pr i → (occ s u = i + 1 ↔ occ s' u = i + 1) := fun u h i hi hp => by
    rw [occ_iff hs hi, occ_iff hs' (by omega), h i hi hp]
    constructor
    · rintro ⟨h1, h2⟩
      refine ⟨h1, fun j hj hlt => ?_⟩
      have hj' : j < s.n := by omega
      have e := hq j hj'
      have e' := hq i hi
      rw [← h j hj' (by omega)]
      exact h2 j hj' (by omega)
    · rintro ⟨h1, h2⟩
      refine ⟨h1, fun j hj hlt => ?_⟩
      have e := hq j hj
      have e' := hq i hi
      rw [h j hj (by omega)]
      exact h2 j (by omega) (by omega)
  have key : ∀ i, i < s.n → p ≤ s.pr i → rest s t i = rest s' t i := by
    induction t with
    | zero =>
      intro i hi hp
      show (if rel s i 0 then s.B i else 0) = (if rel s' i 0 then s'.B i else 0)
      rw [hB i hi hp]
      by_cases h : rel s' i 0
      · rw [if_pos h, if_pos ((rl i 0 hi hp).2 h)]
      · rw [if_neg h, if_neg (fun h' => h ((rl i 0 hi hp).1 h'))]
    | succ t ih =>
      intro i hi hp
      rw [rest_succ, rest_succ, hB i hi hp, ih i hi hp]
      have e := oc t ih i hi hp
      by_cases h : rel s' i (t + 1)
      · rw [if_pos h, if_pos ((rl i (t + 1) hi hp).2 h)]
      · rw [if_neg h, if_neg (fun h' => h ((rl i (t + 1) hi hp).1 h'))]
        by_cases h2 : occ s' t = i + 1
        · rw [if_pos h2, if_pos (e.2 h2)]
        · rw [if_neg h2, if_neg (fun h' => h2 (e.1 h'))]
  exact fun i hi hp => ⟨key i hi hp, oc t key i hi hp⟩

/-- the next tick's rest, as numbers -/
theorem rest_next {s : Sys} (hs : Ok s) {i : Nat} (hi : i < s.n) (t : Nat) : (rest s (t + 1) i : Int) = if rel s i (t + 1) then (s.B i : Int) else (rest s t i : Int) - (if occ s t = i + 1 then 1 else 0) := by
  rw [rest_succ]
  by_cases h : rel s i (t + 1)
  · rw [if_pos h, if_pos h]
  · rw [if_neg h, if_neg h]
    by_cases h2 : occ s t = i + 1
    · rw [if_pos h2, if_pos h2]
      have := ((occ_iff hs hi).1 h2).1
      omega
    · rw [if_neg h2, if_neg h2]; omega
theorem last_le (s : Sys) (i t : Nat) : last s i t ≤ t := by unfold last; omega
/-- what Rests reckons is the rest -/
theorem rest_of {s : Sys} (hs : Ok s) {i : Nat} (hi : i < s.n) (t : Nat) (sf sb : Nat) (b : Int) (h : s.O i ≤ t → sf = last s i t ∧ sb = t ∧ b = (s.B i : Int)) (h' : ¬ s.O i ≤ t → sf = 0 ∧ sb = 0 ∧ b = 0) :
    b - ((cnt (occ s) (i + 1) sb : Int) - (cnt (occ s) (i + 1) sf : Int)) = (rest s t i : Int) := by
  by_cases ho : s.O i ≤ t
  · obtain ⟨rfl, rfl, rfl⟩ := h ho
    have := rest_cnt hs hi _ ho
    omega
  · obtain ⟨rfl, rfl, rfl⟩ := h' ho
    have := rest_early (s := s) (i := i) t (by omega)
    omega
end Rule

/-- how often it was released up to t, and where the last release lies -/
theorem count_last (o p t : Nat) (hp : 1 ≤ p) : (o ≤ t → countV o p 0 ((t : Int) + 1) = ((t - o) / p : Nat) + 1 ∧ (o : Int) + (((t - o) / p : Nat) + 1 - 1) * p = ((t - (t - o) % p : Nat) : Int)) ∧ (¬ o ≤ t → countV o p 0 ((t : Int) + 1) = 0) := by
  have e0 : cbF o p 0 = 0 := if_pos (by omega)
  have e1 : countV o p 0 ((t : Int) + 1) = cbF o p ((t : Int) + 1) := by rw [count_of o p 0 _ (by omega) (by omega) (by omega), e0]; omega
  constructor
  · intro h
    rw [e1]
    constructor
    · unfold cbF
      rw [if_neg (by omega)]
      have : (t : Int) + 1 - 1 - o = ((t - o : Nat) : Int) := by omega
      rw [this, ← Int.natCast_ediv]
    · have h1 := Nat.div_add_mod (t - o) p
      have h2 : (((t - o) / p : Nat) : Int) + 1 - 1 = ((t - o) / p : Nat) := by omega
      rw [h2, ← Int.natCast_mul, Nat.mul_comm]
      have h3 := Nat.mod_le (t - o) p
      omega
  · intro h
    rw [e1]
    exact if_pos (by omega)
end Go.Proofs.YtahhkkkgaoekcaaGreatDoor
