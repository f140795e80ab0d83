/-
  Plain mathematics of the document's own answers, by distances from 0.
-/
import Derived.Test.YtkjnhhoniodbcaaGreatDoorNGcds
namespace Go.Proofs.YtkjnhhoniodbcaaGreatDoor.Plain
open Go Go.RowKit

/-- the number at a distance from 0 -/
def sgnV (below : Bool) (d : Int) : Int := if below then (if 9223372036854775808 < d then 0 else -d) else if 9223372036854775807 < d then 0 else d
def sgnB (below : Bool) (d : Int) : Bool := if below then (if 9223372036854775808 < d then false else true) else if 9223372036854775807 < d then false else true

theorem sgn_up {d : Int} (h : d ≤ 9223372036854775807) : sgnV false d = d ∧ sgnB false d = true := by
  unfold sgnV sgnB
  simp only [Bool.false_eq_true, if_false]
  rw [if_neg (by omega), if_neg (by omega)]; exact ⟨rfl, rfl⟩
theorem sgn_down {d : Int} (h : d ≤ 9223372036854775808) : sgnV true d = -d ∧ sgnB true d = true := by
  unfold sgnV sgnB
  simp only [if_true]
  rw [if_neg (by omega), if_neg (by omega)]; exact ⟨rfl, rfl⟩

theorem add_same (a b : Int) (ha : I64 a) (hb : I64 b) (h : a < 0 ↔ b < 0) :
    sgnV (decide (a < 0)) ((a.natAbs : Int) + (b.natAbs : Int)) = addV a b ∧ sgnB (decide (a < 0)) ((a.natAbs : Int) + (b.natAbs : Int)) = addB a b := by
  by_cases hf : I64 (a + b)
  · rw [addV_yes ha hb hf, addB_yes ha hb hf]
    unfold sgnV sgnB I64 at *
    by_cases hn : a < 0
    · simp only [hn, decide_true, if_true]; rw [if_neg (by omega), if_neg (by omega)]; exact ⟨by omega, rfl⟩
    · have e : decide (a < 0) = false := by simpa using hn
      simp only [e, Bool.false_eq_true, if_false]; rw [if_neg (by omega), if_neg (by omega)]; exact ⟨by omega, rfl⟩
  · rw [addV_no ha hb hf, addB_no ha hb hf]
    unfold sgnV sgnB I64 at *
    by_cases hn : a < 0
    · simp only [hn, decide_true, if_true]; rw [if_pos (by omega), if_pos (by omega)]; exact ⟨rfl, rfl⟩
    · have e : decide (a < 0) = false := by simpa using hn
      simp only [e, Bool.false_eq_true, if_false]; rw [if_pos (by omega), if_pos (by omega)]; exact ⟨rfl, rfl⟩

theorem sub_of_add (a b : Int) (ha : I64 a) (hb : I64 b) (h : b ≠ -9223372036854775808) : addV a (-b) = subV a b ∧ addB a (-b) = subB a b := by
  have hn : I64 (-b) := by unfold I64 at *; omega
  by_cases hf : I64 (a - b)
  · have hf2 : I64 (a + -b) := by rw [← Int.sub_eq_add_neg]; exact hf
    rw [addV_yes ha hn hf2, addB_yes ha hn hf2, subV_yes ha hb hf, subB_yes ha hb hf]; exact ⟨by omega, rfl⟩
  · have hf2 : ¬ I64 (a + -b) := by rw [← Int.sub_eq_add_neg]; exact hf
    rw [addV_no ha hn hf2, addB_no ha hn hf2, subV_no ha hb hf, subB_no ha hb hf]; exact ⟨rfl, rfl⟩

/-- a product by distances -/
theorem mul_away (a b : Int) : (a.natAbs : Int) * (b.natAbs : Int) = if (a < 0) ≠ (b < 0) then -(a * b) else a * b := by
  by_cases h1 : a < 0 <;> by_cases h2 : b < 0
  · rw [if_neg (by simp [h1, h2]), show (a.natAbs : Int) = -a by omega, show (b.natAbs : Int) = -b by omega, Int.neg_mul_neg]
  · rw [if_pos (by simp [h1, h2]), show (a.natAbs : Int) = -a by omega, show (b.natAbs : Int) = b by omega, Int.neg_mul]
  · rw [if_pos (by simp [h1, h2]), show (a.natAbs : Int) = a by omega, show (b.natAbs : Int) = -b by omega, Int.mul_neg]
  · rw [if_neg (by simp [h1, h2]), show (a.natAbs : Int) = a by omega, show (b.natAbs : Int) = b by omega]

theorem fit_div (x y : Int) (hx : 0 < x) : 9223372036854775808 / x < y ↔ 9223372036854775808 < x * y := lcm_fit 9223372036854775808 x y (by omega)

theorem mul_ref (a b : Int) (h : ¬ 9223372036854775808 < (a.natAbs : Int) * (b.natAbs : Int)) (s : Bool)
    (hs : s = ((decide (a < 0) != decide (b < 0)) && ((a.natAbs : Int) * (b.natAbs : Int) != 0))) :
    sgnV s ((a.natAbs : Int) * (b.natAbs : Int)) = mulV a b ∧ sgnB s ((a.natAbs : Int) * (b.natAbs : Int)) = mulB a b := by
  have hm := mul_away a b
  have hp : 0 ≤ (a.natAbs : Int) * (b.natAbs : Int) := Int.mul_nonneg (by omega) (by omega)
  generalize (a.natAbs : Int) * (b.natAbs : Int) = t at *
  have key : ∀ u : Int, sgnV s t = u → sgnB s t = true → a * b = u → I64 u → sgnV s t = mulV a b ∧ sgnB s t = mulB a b := by
    intro u h1 h2 h3 h4
    rw [mulV_yes (by rw [h3]; exact h4), mulB_yes (by rw [h3]; exact h4), h1, h2, h3]; exact ⟨rfl, rfl⟩
  by_cases h1 : a < 0 <;> by_cases h2 : b < 0
  · rw [if_neg (by simp [h1, h2])] at hm
    simp [h1, h2] at hs
    subst hs
    by_cases hb : 9223372036854775807 < t
    · rw [mulV_no (by unfold I64; omega), mulB_no (by unfold I64; omega)]
      exact ⟨if_pos hb, if_pos hb⟩
    · exact key t (if_neg hb) (if_neg hb) hm.symm (by unfold I64; omega)
  · rw [if_pos (by simp [h1, h2])] at hm
    simp [h1, h2] at hs
    by_cases h0 : t = 0
    · subst h0
      simp at hs
      subst hs
      exact key 0 (sgn_up (by omega)).1 (sgn_up (by omega)).2 (by omega) (by unfold I64; omega)
    · have : s = true := by rw [hs]; simpa using h0
      subst this
      exact key (-t) (if_neg h) (if_neg h) (by omega) (by unfold I64; omega)
  · rw [if_pos (by simp [h1, h2])] at hm
    simp [h1, h2] at hs
    by_cases h0 : t = 0
    · subst h0
      simp at hs
      subst hs
      exact key 0 (sgn_up (by omega)).1 (sgn_up (by omega)).2 (by omega) (by unfold I64; omega)
    · have : s = true := by rw [hs]; simpa using h0
      subst this
      exact key (-t) (if_neg h) (if_neg h) (by omega) (by unfold I64; omega)
  · rw [if_neg (by simp [h1, h2])] at hm
    simp [h1, h2] at hs
    subst hs
    by_cases hb : 9223372036854775807 < t
    · rw [mulV_no (by unfold I64; omega), mulB_no (by unfold I64; omega)]
      exact ⟨if_pos hb, if_pos hb⟩
    · exact key t (if_neg hb) (if_neg hb) hm.symm (by unfold I64; omega)

theorem mul_ref_no (a b : Int) (h : 9223372036854775808 < (a.natAbs : Int) * (b.natAbs : Int)) : mulV a b = 0 ∧ mulB a b = false := by
  have hm := mul_away a b
  generalize (a.natAbs : Int) * (b.natAbs : Int) = t at *
  have hn : ¬ I64 (a * b) := by
    unfold I64
    split at hm <;> omega
  exact ⟨mulV_no hn, mulB_no hn⟩

/-- the quotient's distance from 0, and the rest -/
def refQ (a b : Int) : Int := if a < 0 ∧ 0 < (a.natAbs : Int) % (b.natAbs : Int) then (a.natAbs : Int) / (b.natAbs : Int) + 1 else (a.natAbs : Int) / (b.natAbs : Int)
def refR (a b : Int) : Int := if a < 0 ∧ 0 < (a.natAbs : Int) % (b.natAbs : Int) then (b.natAbs : Int) - (a.natAbs : Int) % (b.natAbs : Int) else (a.natAbs : Int) % (b.natAbs : Int)

theorem div_away (a b : Int) (h0 : b ≠ 0) : a % b = refR a b ∧ a / b = if (a < 0) ≠ (b < 0) then -(refQ a b) else refQ a b := by
  have hy : 1 ≤ (b.natAbs : Int) := by omega
  obtain ⟨s1, s2, s3⟩ := split (a.natAbs : Int) (b.natAbs : Int) hy
  have key : a / (b.natAbs : Int) = (if a < 0 then -(refQ a b) else refQ a b) ∧ a % (b.natAbs : Int) = refR a b := by
    apply (Int.ediv_emod_unique (by omega)).2
    by_cases h1 : a < 0
    · by_cases h2 : 0 < (a.natAbs : Int) % (b.natAbs : Int)
      · have r1 : refQ a b = (a.natAbs : Int) / (b.natAbs : Int) + 1 := if_pos ⟨h1, h2⟩
        have r2 : refR a b = (b.natAbs : Int) - (a.natAbs : Int) % (b.natAbs : Int) := if_pos ⟨h1, h2⟩
        rw [r1, r2, if_pos h1, Int.mul_neg, Int.mul_add]; omega
      · have r1 : refQ a b = (a.natAbs : Int) / (b.natAbs : Int) := if_neg (fun h => h2 h.2)
        have r2 : refR a b = (a.natAbs : Int) % (b.natAbs : Int) := if_neg (fun h => h2 h.2)
        rw [r1, r2, if_pos h1, Int.mul_neg]; omega
    · have r1 : refQ a b = (a.natAbs : Int) / (b.natAbs : Int) := if_neg (fun h => h1 h.1)
      have r2 : refR a b = (a.natAbs : Int) % (b.natAbs : Int) := if_neg (fun h => h1 h.1)
      rw [r1, r2, if_neg h1]; omega
  by_cases hb : b < 0
  · have e : b = -(b.natAbs : Int) := by omega
    have e1 : a / b = -(a / (b.natAbs : Int)) := by
      have := Int.ediv_neg a (b.natAbs : Int); rw [← e] at this; exact this
    have e2 : a % b = a % (b.natAbs : Int) := by
      have := Int.emod_neg a (b.natAbs : Int); rw [← e] at this; exact this
    rw [e1, e2, key.1, key.2]
    refine ⟨rfl, ?_⟩
    by_cases h1 : a < 0
    · rw [if_pos h1, if_neg (by simp [h1, hb])]; omega
    · rw [if_neg h1, if_pos (by simp [h1, hb])]
  · have e : b = (b.natAbs : Int) := by omega
    have e1 : a / b = a / (b.natAbs : Int) := by rw [← e]
    have e2 : a % b = a % (b.natAbs : Int) := by rw [← e]
    rw [e1, e2, key.1, key.2]
    refine ⟨rfl, ?_⟩
    by_cases h1 : a < 0
    · rw [if_pos h1, if_pos (by simp [h1, hb])]
    · rw [if_neg h1, if_neg (by simp [h1, hb])]

theorem refQ_bd (a b : Int) (ha : I64 a) (h0 : b ≠ 0) : 0 ≤ refQ a b ∧ refQ a b ≤ 9223372036854775808 ∧ 0 ≤ refR a b ∧ refR a b < (b.natAbs : Int) := by
  obtain ⟨s1, s2, s3⟩ := split (a.natAbs : Int) (b.natAbs : Int) (by omega)
  obtain ⟨d1, d2⟩ := div_le (a.natAbs : Int) (b.natAbs : Int) (by omega) (by omega)
  unfold refQ refR I64 at *
  by_cases h2 : a < 0 ∧ 0 < (a.natAbs : Int) % (b.natAbs : Int)
  · rw [if_pos h2, if_pos h2]
    refine ⟨by omega, ?_, by omega, by omega⟩
    by_cases h3 : (a.natAbs : Int) / (b.natAbs : Int) = 9223372036854775808
    · exfalso
      rw [h3] at s1
      have : (b.natAbs : Int) * 9223372036854775808 ≤ 9223372036854775808 := by omega
      have : (b.natAbs : Int) = 1 := by omega
      omega
    · omega
  · rw [if_neg h2, if_neg h2]; omega

theorem div_ref (a b : Int) (ha : I64 a) (hb : I64 b) (h0 : b ≠ 0) :
    sgnB (decide (a < 0) != decide (b < 0)) (refQ a b) = divB a b ∧ (divB a b = true → sgnV (decide (a < 0) != decide (b < 0)) (refQ a b) = divQ a b ∧ refR a b = divR a b) := by
  obtain ⟨e1, e2⟩ := div_away a b h0
  obtain ⟨q1, q2, q3, q4⟩ := refQ_bd a b ha h0
  have hI := ediv_I64 a b ha h0
  by_cases hbad : a = -9223372036854775808 ∧ b = -1
  · obtain ⟨rfl, rfl⟩ := hbad
    rw [divB_no (.inr ⟨rfl, rfl⟩)]
    refine ⟨by decide, fun h => by cases h⟩
  · have hB : divB a b = true := divB_yes (by omega)
    have hI := hI hbad
    rw [hB]
    unfold divQ divR
    rw [hB, if_pos rfl, if_pos rfl, e1, e2]
    rw [e2] at hI
    by_cases h1 : a < 0 <;> by_cases h2 : b < 0
    · simp only [h1, h2, ne_eq, not_true, if_false, decide_true, bne_self_eq_false] at *
      unfold I64 at hI
      exact ⟨(sgn_up (by omega)).2, fun _ => ⟨(sgn_up (by omega)).1, trivial⟩⟩
    · rw [if_pos (by simp [h1, h2])]
      have : (decide (a < 0) != decide (b < 0)) = true := by simp [h1, h2]
      rw [this]
      exact ⟨(sgn_down (by omega)).2, fun _ => ⟨(sgn_down (by omega)).1, rfl⟩⟩
    · rw [if_pos (by simp [h1, h2])]
      have : (decide (a < 0) != decide (b < 0)) = true := by simp [h1, h2]
      rw [this]
      exact ⟨(sgn_down (by omega)).2, fun _ => ⟨(sgn_down (by omega)).1, rfl⟩⟩
    · have hx : ¬ ((a < 0) ≠ (b < 0)) := by simp [h1, h2]
      rw [if_neg hx] at hI ⊢
      have : (decide (a < 0) != decide (b < 0)) = false := by simp [h1, h2]
      rw [this]
      unfold I64 at hI
      exact ⟨(sgn_up (by omega)).2, fun _ => ⟨(sgn_up (by omega)).1, rfl⟩⟩

/-- the document's Lcm: numbers from the k-th on -/
theorem lcmGo_ref (z : Nat → Int) (k : Nat) (m : Int) (h1 : 1 ≤ m) (h2 : m ≤ 9223372036854775807) (hk : 1 ≤ z k) (hz : z k ≤ 9223372036854775807) :
    gcdF m (z k) = (Int.gcd m (z k) : Int) ∧ 1 ≤ gcdF m (z k) ∧ 1 ≤ z k / gcdF m (z k) ∧ z k / gcdF m (z k) ≤ z k := by
  obtain ⟨g1, g2, g3⟩ := gcd_pos_le m (z k) h1 h2
  rw [← g1] at g2 g3
  obtain ⟨d1, d2⟩ := div_le (z k) (gcdF m (z k)) g2 (by omega)
  have hs := (lcm_step m (z k) h1 hk).2.2.1
  rw [← g1] at hs
  refine ⟨g1, g2, ?_, d2⟩
  by_cases h0 : z k / gcdF m (z k) = 0
  · rw [h0, Int.mul_zero] at hs; omega
  · omega

end Go.Proofs.YtkjnhhoniodbcaaGreatDoor.Plain
