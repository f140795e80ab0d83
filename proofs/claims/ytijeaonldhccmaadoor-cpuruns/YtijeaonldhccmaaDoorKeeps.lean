/-
  What a step keeps: plain.
-/
import Derived.Test.YtijeaonldhccmaaDoorSure
namespace Go.Proofs.YtijeaonldhccmaaDoor
open Go.RowKit
set_option linter.unusedVariables false

section
variable (n a b c : Nat) (N : Int) (ms : List Int) (fx : Int) (R : Nat → Int) (pc : Int)
theorem dE1 : doE n ⟨1, a, b, c, N⟩ ms fx R pc = ⟨R, pc + 1, false, 0, 0, 0, 0⟩ := by unfold doE; rw [if_pos (show (1 : Nat) = 1 from rfl)]
theorem dE22 : doE n ⟨22, a, b, c, N⟩ ms fx R pc = ⟨R, bri N n, false, 0, 0, 0, 0⟩ := by unfold doE; rw [if_neg (show ¬ (22 : Nat) = 1 by decide), if_neg (show ¬ (22 : Nat) = 5 by decide), if_neg (show ¬ (22 : Nat) = 6 by decide), if_neg (show ¬ (22 : Nat) = 10 by decide), if_neg (show ¬ (22 : Nat) = 11 by decide), if_pos (show (22 : Nat) = 22 from rfl)]
theorem dE23 : doE n ⟨23, a, b, c, N⟩ ms fx R pc = ⟨R, bri (if (R a == 0) = true then N else pc + 1) n, false, 0, 0, 0, 0⟩ := by unfold doE; rw [if_neg (show ¬ (23 : Nat) = 1 by decide), if_neg (show ¬ (23 : Nat) = 5 by decide), if_neg (show ¬ (23 : Nat) = 6 by decide), if_neg (show ¬ (23 : Nat) = 10 by decide), if_neg (show ¬ (23 : Nat) = 11 by decide), if_neg (show ¬ (23 : Nat) = 22 by decide), if_pos (show (23 : Nat) = 23 from rfl)]
theorem dE24 : doE n ⟨24, a, b, c, N⟩ ms fx R pc = ⟨R, bri (if (R a == 0) = true then pc + 1 else N) n, false, 0, 0, 0, 0⟩ := by unfold doE; rw [if_neg (show ¬ (24 : Nat) = 1 by decide), if_neg (show ¬ (24 : Nat) = 5 by decide), if_neg (show ¬ (24 : Nat) = 6 by decide), if_neg (show ¬ (24 : Nat) = 10 by decide), if_neg (show ¬ (24 : Nat) = 11 by decide), if_neg (show ¬ (24 : Nat) = 22 by decide), if_neg (show ¬ (24 : Nat) = 23 by decide), if_pos (show (24 : Nat) = 24 from rfl)]
theorem dE25 : doE n ⟨25, a, b, c, N⟩ ms fx R pc = ⟨R, bri (R a) n, false, 0, 0, 0, 0⟩ := by unfold doE; rw [if_neg (show ¬ (25 : Nat) = 1 by decide), if_neg (show ¬ (25 : Nat) = 5 by decide), if_neg (show ¬ (25 : Nat) = 6 by decide), if_neg (show ¬ (25 : Nat) = 10 by decide), if_neg (show ¬ (25 : Nat) = 11 by decide), if_neg (show ¬ (25 : Nat) = 22 by decide), if_neg (show ¬ (25 : Nat) = 23 by decide), if_neg (show ¬ (25 : Nat) = 24 by decide), if_pos (show (25 : Nat) = 25 from rfl)]
theorem dE26 : doE n ⟨26, a, b, c, N⟩ ms fx R pc = ⟨upd R 14 (pc + 1), bri N n, false, 0, 0, 0, 0⟩ := by unfold doE; rw [if_neg (show ¬ (26 : Nat) = 1 by decide), if_neg (show ¬ (26 : Nat) = 5 by decide), if_neg (show ¬ (26 : Nat) = 6 by decide), if_neg (show ¬ (26 : Nat) = 10 by decide), if_neg (show ¬ (26 : Nat) = 11 by decide), if_neg (show ¬ (26 : Nat) = 22 by decide), if_neg (show ¬ (26 : Nat) = 23 by decide), if_neg (show ¬ (26 : Nat) = 24 by decide), if_neg (show ¬ (26 : Nat) = 25 by decide), if_pos (show (26 : Nat) = 26 from rfl)]
end

theorem bri_bd (p : Int) (n : Nat) : 0 ≤ bri p n ∧ bri p n ≤ n := by unfold bri; split <;> omega
theorem upd_ne (R : Nat → Int) {k i : Nat} (v : Int) (h : i ≠ k) : upd R k v i = R i := by unfold upd; rw [if_neg h]
theorem upd_at (R : Nat → Int) (k : Nat) (v : Int) : upd R k v k = v := by unfold upd; rw [if_pos rfl]

/-- the register that an instruction may change -/
def tgt (o a : Nat) : Nat := if o = 26 then 14 else a
structure Kp (n o a : Nat) (ms : List Int) (fx : Int) (R : Nat → Int) (E : Ef) : Prop where
  p0 : 0 ≤ E.pc
  p1 : E.pc ≤ n
  f0 : 0 ≤ E.fa
  f5 : E.fa ≤ 5
  c0 : 0 ≤ E.ca
  c7 : E.ca ≤ 27
  flt : E.fa ≠ 0 → E.R = R ∧ E.st = false ∧ E.ad = 0 ∧ E.va = 0 ∧ E.ca = 0
  reg : ∀ i, i ≠ tgt o a → E.R i = R i
  no : E.st = false → E.fa = 0 → E.ad = 0 ∧ E.va = 0 ∧ o ≠ 6
  yes : E.st = true → o = 6 ∧ wb ms.length fx E.ad 1 = true ∧ E.va = R a ∧ E.R = R
theorem kp_word {n o a : Nat} {ms : List Int} {fx : Int} {R : Nat → Int} {pc : Int} (v : Int) (h0 : 0 ≤ pc) (h1 : pc < n) (h6 : o ≠ 6) (h26 : o ≠ 26) : Kp n o a ms fx R ⟨upd R a v, pc + 1, false, 0, 0, 0, 0⟩ :=
  ⟨by dsimp only; omega, by dsimp only; omega, by dsimp only; omega, by dsimp only; omega, by dsimp only; omega, by dsimp only; omega, fun h => absurd rfl h, fun i hi => upd_ne R v (by unfold tgt at hi; rw [if_neg h26] at hi; exact hi), fun _ _ => ⟨rfl, rfl, h6⟩, fun h => by cases h⟩
theorem kp_fault {n o a : Nat} {ms : List Int} {fx : Int} {R : Nat → Int} {pc f : Int} (h0 : 0 ≤ pc) (h1 : pc < n) (hf : 0 < f) (hf5 : f ≤ 5) : Kp n o a ms fx R ⟨R, pc + 1, false, 0, 0, f, 0⟩ :=
  ⟨by dsimp only; omega, by dsimp only; omega, by dsimp only; omega, by dsimp only; omega, by dsimp only; omega, by dsimp only; omega, fun h => ⟨rfl, rfl, rfl, rfl, rfl⟩, fun i hi => rfl, fun _ h => by dsimp only at h; omega, fun h => by cases h⟩
theorem kp_place {n o a : Nat} {ms : List Int} {fx : Int} {R : Nat → Int} (p : Int) (h6 : o ≠ 6) : Kp n o a ms fx R ⟨R, bri p n, false, 0, 0, 0, 0⟩ :=
  ⟨(bri_bd p n).1, (bri_bd p n).2, by dsimp only; omega, by dsimp only; omega, by dsimp only; omega, by dsimp only; omega, fun h => absurd rfl h, fun i hi => rfl, fun _ _ => ⟨rfl, rfl, h6⟩, fun h => by cases h⟩
theorem doE_kp (n o a b c : Nat) (N : Int) (ms : List Int) (fx : Int) (R : Nat → Int) (pc : Int) (hl : lg o a b c N = true) (h0 : 0 ≤ pc) (h1 : pc < n) : Kp n o a ms fx R (doE n ⟨o, a, b, c, N⟩ ms fx R pc) := by
  obtain ⟨g1, g27, _, _, _⟩ := lg_fields hl
  by_cases hs : spc o = false
  · rw [doE_word hs]
    have h' : o ≠ 1 ∧ o ≠ 5 ∧ o ≠ 6 ∧ o ≠ 10 ∧ o ≠ 11 ∧ o ≠ 22 ∧ o ≠ 23 ∧ o ≠ 24 ∧ o ≠ 25 ∧ o ≠ 26 ∧ o ≠ 27 := by simpa [spc] using hs
    exact kp_word _ h0 h1 h'.2.2.1 h'.2.2.2.2.2.2.2.2.2.1
  · have h' : o = 1 ∨ o = 5 ∨ o = 6 ∨ o = 10 ∨ o = 11 ∨ o = 22 ∨ o = 23 ∨ o = 24 ∨ o = 25 ∨ o = 26 ∨ o = 27 := by
      rw [Bool.not_eq_false] at hs; simpa [spc] using hs
    rcases h' with rfl | rfl | rfl | rfl | rfl | rfl | rfl | rfl | rfl | rfl | rfl
    · rw [dE1]
      exact ⟨by dsimp only; omega, by dsimp only; omega, by dsimp only; omega, by dsimp only; omega, by dsimp only; omega, by dsimp only; omega, fun h => absurd rfl h, fun i hi => rfl, fun _ _ => ⟨rfl, rfl, by decide⟩, fun h => by cases h⟩
    · rw [doE5]
      split
      · exact kp_word _ h0 h1 (by decide) (by decide)
      · exact kp_fault h0 h1 (by decide) (by decide)
    · rw [doE6]
      split
      · rename_i hw
        exact ⟨by dsimp only; omega, by dsimp only; omega, by dsimp only; omega, by dsimp only; omega, by dsimp only; omega, by dsimp only; omega, fun h => absurd rfl h, fun i hi => rfl, fun h => (by cases h), fun _ => ⟨rfl, hw, rfl, rfl⟩⟩
      · exact kp_fault h0 h1 (by decide) (by decide)
    · rw [doE10]
      split
      · exact kp_fault h0 h1 (by decide) (by decide)
      · exact kp_word _ h0 h1 (by decide) (by decide)
    · rw [doE11]
      split
      · exact kp_fault h0 h1 (by decide) (by decide)
      · exact kp_word _ h0 h1 (by decide) (by decide)
    · rw [dE22]; exact kp_place _ (by decide)
    · rw [dE23]; exact kp_place _ (by decide)
    · rw [dE24]; exact kp_place _ (by decide)
    · rw [dE25]; exact kp_place _ (by decide)
    · rw [dE26]
      exact ⟨(bri_bd N n).1, (bri_bd N n).2, by dsimp only; omega, by dsimp only; omega, by dsimp only; omega, by dsimp only; omega, fun h => absurd rfl h, fun i hi => upd_ne R _ hi, fun _ _ => ⟨rfl, rfl, by decide⟩, fun h => by cases h⟩
    · rw [doE27]
      split
      · rename_i hw
        exact ⟨by dsimp only; omega, by dsimp only; omega, by dsimp only; omega, by dsimp only; omega, by dsimp only; omega, by dsimp only; omega, fun h => absurd rfl h, fun i hi => rfl, fun _ _ => ⟨rfl, rfl, by decide⟩, fun h => by cases h⟩
      · exact kp_fault h0 h1 (by decide) (by decide)

/-- the step: a fault, or legal code at a place -/
theorem stepE_kp (xs : List Ins) (ms : List Int) (fx : Int) (R : Nat → Int) (pc : Int) :
    Kp xs.length (xs.getD pc.toNat ins0).o (xs.getD pc.toNat ins0).a ms fx R (stepE xs ms fx R pc) ∧ ((stepE xs ms fx R pc).fa = 0 → 0 ≤ pc ∧ pc < xs.length ∧ (xs.getD pc.toNat ins0).lg = true) := by
  unfold stepE
  by_cases h : 0 ≤ pc ∧ pc < xs.length
  · rw [if_pos h]
    unfold opE
    cases hl : (xs.getD pc.toNat ins0).lg with
    | true =>
      rw [if_pos rfl]
      generalize xs.getD pc.toNat ins0 = x at hl ⊢
      obtain ⟨o, a, b, c, N⟩ := x
      exact ⟨doE_kp xs.length o a b c N ms fx R pc hl h.1 h.2, fun _ => ⟨h.1, h.2, by first | rfl | exact hl⟩⟩
    | false =>
      rw [if_neg (by decide)]
      exact ⟨kp_fault h.1 h.2 (by decide) (by decide), fun h => by cases h⟩
  · rw [if_neg h]
    exact ⟨⟨(bri_bd pc _).1, (bri_bd pc _).2, by dsimp only; omega, by dsimp only; omega, by dsimp only; omega, by dsimp only; omega, fun h => ⟨rfl, rfl, rfl, rfl, rfl⟩, fun i hi => rfl, fun _ h => (by dsimp only at h; omega), fun h => by cases h⟩, fun h => by cases h⟩

end Go.Proofs.YtijeaonldhccmaaDoor
