/-
  What a window's ticks come to, plain.
-/
import Derived.Test.YticnkekedhhbaaaGreatDoorOSupply
namespace Go.Proofs.YticnkekedhhbaaaGreatDoor
open Go.RowKit Go.Shelf Plain
set_option linter.unusedVariables false

theorem eachF_ne {r : Nat → Int} {first : Int} : ∀ {n : Nat} {p : Int × Int}, eachF r first n = some p → p.1 ≠ 0
  | 0, p, h => by cases h
  | n + 1, p, h => by
    rw [eachF] at h
    cases he : eachF r first n with
    | some q => rw [he] at h; injection h with h; subst h; exact eachF_ne he
    | none =>
      rw [he] at h
      simp only at h
      by_cases h0 : r n = 0
      · rw [if_pos h0] at h; cases h
      · rw [if_neg h0] at h; injection h with h; subst h; exact h0
theorem tim_ne {xs : List Srv} {n : Nat} {p : Int × Int} (h : timF xs n = some p) : p.1 ≠ 0 := by
  unfold timF at h
  cases hf : findF xs n with
  | some q =>
    rw [hf] at h
    injection h with h
    subst h
    unfold findF at hf
    by_cases h32 : n ≤ 32
    · rw [if_pos h32] at hf; exact eachF_ne hf
    · rw [if_neg h32] at hf; injection hf with hf; subst hf; decide
  | none =>
    rw [hf] at h
    unfold togF at h
    by_cases hb : lcmB (zP xs) n 1048576 = true
    · rw [if_pos hb] at h
      by_cases hr : relF (lcmV (zP xs) n 1048576) xs n ≤ 65536
      · rw [if_pos hr] at h; cases h
      · rw [if_neg hr] at h; injection h with h; subst h; decide
    · rw [if_neg hb] at h; injection h with h; subst h; decide


namespace Rule
theorem last_win {s : Sys} {i : Nat} (k d : Nat) (hd : d < s.P i) : last s i (s.O i + k * s.P i + d) = s.O i + k * s.P i := by
  unfold last
  have e : s.O i + k * s.P i + d - s.O i = s.P i * k + d := by rw [Nat.mul_comm]; omega
  rw [e, Nat.mul_add_mod, Nat.mod_eq_of_lt hd]
  omega
theorem rest_win {s : Sys} (hs : Ok s) {i : Nat} (hi : i < s.n) (k d : Nat) (hd : d < s.P i) : rest s (s.O i + k * s.P i + d) i + cnt (occ s) (i + 1) (s.O i + k * s.P i + d) = s.B i + cnt (occ s) (i + 1) (s.O i + k * s.P i) := by
  have := rest_cnt hs hi (s.O i + k * s.P i + d) (by omega)
  rw [last_win k d hd] at this
  exact this
theorem win_le {s : Sys} (hs : Ok s) {i : Nat} (hi : i < s.n) (k : Nat) : ∀ d, d ≤ s.P i → cnt (occ s) (i + 1) (s.O i + k * s.P i + d) ≤ cnt (occ s) (i + 1) (s.O i + k * s.P i) + s.B i
  | 0, _ => Nat.le_add_right _ _
  | d + 1, hd => by
    have h1 := rest_win hs hi k d (by omega)
    show cnt (occ s) (i + 1) (s.O i + k * s.P i + d) + (if occ s (s.O i + k * s.P i + d) = i + 1 then 1 else 0) ≤ _
    by_cases e : occ s (s.O i + k * s.P i + d) = i + 1
    · have := ((occ_iff hs hi).1 e).1
      rw [if_pos e]; omega
    · rw [if_neg e]; omega
theorem win_top {s : Sys} (hs : Ok s) {i : Nat} (hi : i < s.n) (htop : ∀ j, j < s.n → s.pr j ≤ s.pr i) (k : Nat) : ∀ d, d ≤ s.P i → cnt (occ s) (i + 1) (s.O i + k * s.P i + d) = cnt (occ s) (i + 1) (s.O i + k * s.P i) + (if d ≤ s.B i then d else s.B i)
  | 0, _ => by rw [Nat.add_zero, if_pos (Nat.zero_le _)]; rfl
  | d + 1, hd => by
    have h1 := rest_win hs hi k d (by omega)
    have ih := win_top hs hi htop k d (by omega)
    show cnt (occ s) (i + 1) (s.O i + k * s.P i + d) + (if occ s (s.O i + k * s.P i + d) = i + 1 then 1 else 0) = _
    have hif : occ s (s.O i + k * s.P i + d) = i + 1 ↔ 0 < rest s (s.O i + k * s.P i + d) i := by
      rw [occ_iff hs hi]
      exact ⟨fun h => h.1, fun h => ⟨h, fun j hj hp => by have := htop j hj; omega⟩⟩
    by_cases e : d < s.B i
    · rw [if_pos (show d ≤ s.B i by omega)] at ih
      rw [if_pos (hif.2 (by omega)), if_pos (show d + 1 ≤ s.B i by omega)]; omega
    · have e2 : cnt (occ s) (i + 1) (s.O i + k * s.P i + d) = cnt (occ s) (i + 1) (s.O i + k * s.P i) + s.B i := by
        rw [ih]; split <;> omega
      rw [if_neg (fun h => by have := hif.1 h; omega), if_neg (show ¬ d + 1 ≤ s.B i by omega)]; omega
end Rule
end Go.Proofs.YticnkekedhhbaaaGreatDoor
