/-
  Plain mathematics of Mul and Div.
-/
import Derived.Test.YtkjnhhoniodbcaaGreatDoorNTicks
namespace Go.Proofs.YtkjnhhoniodbcaaGreatDoor.Plain
open Go Go.RowKit

/-- num.Mul: the number -/
def mulV (a b : Int) : Int := if -9223372036854775808 ≤ a * b ∧ a * b ≤ 9223372036854775807 then a * b else 0
/-- num.Mul: whether there is one -/
def mulB (a b : Int) : Bool := if -9223372036854775808 ≤ a * b ∧ a * b ≤ 9223372036854775807 then true else false

theorem mulV_yes {a b : Int} (h : I64 (a * b)) : mulV a b = a * b := if_pos h
theorem mulB_yes {a b : Int} (h : I64 (a * b)) : mulB a b = true := if_pos h
theorem mulV_no {a b : Int} (h : ¬ I64 (a * b)) : mulV a b = 0 := if_neg h
theorem mulB_no {a b : Int} (h : ¬ I64 (a * b)) : mulB a b = false := if_neg h

theorem tmod_bd (m b : Int) (hb : b ≠ 0) : -(b.natAbs : Int) < m.tmod b ∧ m.tmod b < b.natAbs := by
  have h := Int.natAbs_tmod m b
  have := Nat.mod_lt m.natAbs (y := b.natAbs) (by omega)
  omega

/-- what a wrapped product divided back shows -/
theorem mul_wraps (a b : Int) (ha : I64 a) (hb : I64 b) (h0 : b ≠ 0) (hn : ¬ (a = -9223372036854775808 ∧ b = -1)) (h : ¬ I64 (a * b)) :
    (wrap64 ((wrap64 (a * b)).tdiv b) != a) = true := by
  simp only [bne_iff_ne]
  intro e
  have hm := wrap64_I64 (a * b)
  have hw : ∃ k : Int, wrap64 (a * b) = a * b - 18446744073709551616 * k := ⟨(a * b + 9223372036854775808) / 18446744073709551616, by unfold wrap64; omega⟩
  obtain ⟨k, hk⟩ := hw
  have hd := Int.mul_tdiv_add_tmod (wrap64 (a * b)) b
  have hr := tmod_bd (wrap64 (a * b)) b h0
  have hq := Int.natAbs_tdiv_le_natAbs (wrap64 (a * b)) b
  generalize wrap64 (a * b) = m at *
  generalize hqq : m.tdiv b = q at *
  generalize m.tmod b = r at *
  unfold I64 at *
  by_cases hbig : q = 9223372036854775808
  · have hmin : m = -9223372036854775808 := by omega
    have hbv : b = -1 := by
      rw [hbig, hmin] at hd
      omega
    have ha' : a = -9223372036854775808 := by
      rw [hbig] at e; unfold wrap64 at e; omega
    exact hn ⟨ha', hbv⟩
  · have hw : wrap64 q = q := by unfold wrap64; omega
    rw [hw] at e
    subst e
    have hc : q * b = b * q := Int.mul_comm _ _
    generalize q * b = t at *
    omega

theorem mul_back (a b : Int) (h0 : b ≠ 0) : (a * b).tdiv b = a := Int.mul_tdiv_cancel a h0

/-- Euclid's quotient of two int64 is one -/
theorem ediv_I64 (a b : Int) (ha : I64 a) (h0 : b ≠ 0) (hn : ¬ (a = -9223372036854775808 ∧ b = -1)) : I64 (a / b) := by
  unfold I64 at *
  by_cases hb : 0 < b
  · have h1 := @Int.le_ediv_iff_mul_le (-9223372036854775808) a b hb
    have h2 : a / b < 9223372036854775808 ↔ a < 9223372036854775808 * b := Int.ediv_lt_iff_lt_mul hb
    have h3 : -9223372036854775808 * b ≤ -9223372036854775808 := by omega
    have h4 : 9223372036854775808 ≤ 9223372036854775808 * b := by omega
    omega
  · obtain ⟨c, rfl⟩ : ∃ c, b = -c := ⟨-b, by omega⟩
    rw [Int.ediv_neg]
    have hc : 0 < c := by omega
    have h1 := @Int.le_ediv_iff_mul_le (-9223372036854775807) a c hc
    have h2 : a / c < 9223372036854775808 ↔ a < 9223372036854775808 * c := Int.ediv_lt_iff_lt_mul hc
    by_cases h5 : c = 1
    · subst h5; rw [Int.ediv_one]; omega
    · have h3 : -9223372036854775807 * c ≤ -9223372036854775808 := by omega
      have h4 : 9223372036854775808 ≤ 9223372036854775808 * c := by omega
      omega

/-- Go's quotient and rest, said by Euclid's -/
theorem div_cases (a b : Int) (h0 : b ≠ 0) :
    (a.tdiv b = a / b ∧ a.tmod b = a % b) ∨ (0 < b ∧ a % b < b ∧ a.tdiv b = a / b + 1 ∧ a.tmod b = a % b - b) ∨ (b < 0 ∧ a % b < -b ∧ a.tdiv b = a / b - 1 ∧ a.tmod b = a % b + b) := by
  have e1 := @Int.tdiv_eq_ediv a b
  have e2 := @Int.tmod_eq_emod a b
  by_cases h : 0 ≤ a ∨ b ∣ a
  · rw [if_pos h] at e1 e2; left; omega
  · rw [if_neg h] at e1 e2
    right
    have hl := Int.emod_lt a h0
    by_cases hb : 0 < b
    · left; rw [Int.sign_eq_one_of_pos hb] at e1; omega
    · right; rw [Int.sign_eq_neg_one_of_neg (by omega)] at e1; omega

/-- num.Div: whether there is a quotient -/
def divB (a b : Int) : Bool := if b = 0 ∨ (a = -9223372036854775808 ∧ b = -1) then false else true
def divQ (a b : Int) : Int := if divB a b then a / b else 0
def divR (a b : Int) : Int := if divB a b then a % b else 0

theorem divB_no {a b : Int} (h : b = 0 ∨ (a = -9223372036854775808 ∧ b = -1)) : divB a b = false := if_pos h
theorem divB_yes {a b : Int} (h : ¬ (b = 0 ∨ (a = -9223372036854775808 ∧ b = -1))) : divB a b = true := if_neg h
theorem divB_not {a b : Int} (h : divB a b = false) : b = 0 ∨ (a = -9223372036854775808 ∧ b = -1) := by
  apply Decidable.byContradiction; intro hn; rw [divB_yes hn] at h; cases h
theorem divB_is {a b : Int} (h : divB a b = true) : b ≠ 0 ∧ ¬ (a = -9223372036854775808 ∧ b = -1) := by
  apply Decidable.byContradiction; intro hn; rw [divB_no (by omega)] at h; cases h

theorem addV_comm {a b : Int} (ha : I64 a) (hb : I64 b) : addV b a = addV a b := by
  by_cases h : I64 (a + b)
  · rw [addV_yes ha hb h, addV_yes hb ha (by rw [Int.add_comm]; exact h), Int.add_comm]
  · rw [addV_no ha hb h, addV_no hb ha (by rw [Int.add_comm]; exact h)]
theorem addB_comm {a b : Int} (ha : I64 a) (hb : I64 b) : addB b a = addB a b := by
  by_cases h : I64 (a + b)
  · rw [addB_yes ha hb h, addB_yes hb ha (by rw [Int.add_comm]; exact h)]
  · rw [addB_no ha hb h, addB_no hb ha (by rw [Int.add_comm]; exact h)]
theorem sub_back {a b : Int} (ha : I64 a) (hb : I64 b) (h : addB a b = true) : subV (addV a b) b = a ∧ subB (addV a b) b = true := by
  by_cases hf : I64 (a + b)
  · have e : a + b - b = a := by omega
    rw [addV_yes ha hb hf, subV_yes hf hb (by rw [e]; exact ha), subB_yes hf hb (by rw [e]; exact ha), e]; exact ⟨rfl, rfl⟩
  · rw [addB_no ha hb hf] at h; cases h
theorem mulV_comm (a b : Int) : mulV b a = mulV a b := by unfold mulV; rw [Int.mul_comm]
theorem mulB_comm (a b : Int) : mulB b a = mulB a b := by unfold mulB; rw [Int.mul_comm]
theorem mulV_I64 (a b : Int) : I64 (mulV a b) := by
  by_cases h : I64 (a * b)
  · rw [mulV_yes h]; exact h
  · rw [mulV_no h]; unfold I64; omega
theorem div_back {a b : Int} (ha : I64 a) (h0 : b ≠ 0) (h : mulB a b = true) : divQ (mulV a b) b = a ∧ divR (mulV a b) b = 0 ∧ divB (mulV a b) b = true := by
  by_cases hf : I64 (a * b)
  · rw [mulV_yes hf]
    have hy : divB (a * b) b = true := divB_yes (by
      rintro (h | ⟨h1, rfl⟩)
      · exact h0 h
      · unfold I64 at ha; omega)
    refine ⟨?_, ?_, hy⟩
    · unfold divQ; rw [if_pos hy]; exact Int.mul_ediv_cancel a h0
    · unfold divR; rw [if_pos hy]; exact Int.mul_emod_left a b
  · rw [mulB_no hf] at h; cases h
theorem div_facts {a b : Int} (ha : I64 a) (h : divB a b = true) :
    b ≠ 0 ∧ 0 ≤ divR a b ∧ (b < 0 ∨ divR a b < b) ∧ (0 < b ∨ divR a b < -b) ∧ wrap64 (wrap64 (divQ a b * b) + divR a b) = a := by
  obtain ⟨h0, hn⟩ := divB_is h
  unfold divR divQ
  rw [if_pos h, if_pos h]
  have h1 := Int.emod_nonneg a h0
  have h2 := Int.emod_lt a h0
  have h3 := Int.emod_add_mul_ediv a b
  rw [Int.mul_comm] at h3
  generalize a / b * b = t at *
  generalize a % b = r at *
  unfold I64 wrap64 at *
  omega

end Go.Proofs.YtkjnhhoniodbcaaGreatDoor.Plain
