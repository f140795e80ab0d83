/-
  Plain mathematics of Gcd and Lcm.
-/
import Derived.Test.YtkjnhhoniodbcaaGreatDoorNDivs
namespace Go.Proofs.YtkjnhhoniodbcaaGreatDoor.Plain
open Go Go.RowKit

/-- num.Gcd -/
def gcdF (a b : Int) : Int := if (Int.gcd a b : Int) ≤ 9223372036854775807 then (Int.gcd a b : Int) else 0

theorem gcd_step (a b : Int) : Int.gcd b (a.tmod b) = Int.gcd a b := by
  unfold Int.gcd
  rw [Int.natAbs_tmod, Nat.gcd_comm, ← Nat.gcd_rec, Nat.gcd_comm]
theorem gcd_zero (a : Int) : Int.gcd a 0 = a.natAbs := by unfold Int.gcd; simp

theorem tmod_I64 (a b : Int) (ha : I64 a) : I64 (a.tmod b) := by
  have h := Int.natAbs_tmod a b
  have := Nat.mod_le a.natAbs b.natAbs
  unfold I64 at *
  by_cases h0 : 0 ≤ a
  · have := Int.tmod_nonneg b h0
    omega
  · have h1 := Int.tmod_nonneg b (a := -a) (by omega)
    rw [Int.neg_tmod] at h1
    omega
theorem tmod_lt (a b : Int) (hb : b ≠ 0) : (a.tmod b).natAbs < b.natAbs := by
  rw [Int.natAbs_tmod]; exact Nat.mod_lt _ (by omega)

theorem gcd_le (a b : Int) (ha : I64 a) (hb : I64 b) : (Int.gcd a b : Int) ≤ 9223372036854775808 := by
  unfold I64 at *
  by_cases h : a = 0
  · subst h; unfold Int.gcd; simp; omega
  · have := Nat.le_of_dvd (by omega) (Nat.gcd_dvd_left a.natAbs b.natAbs)
    unfold Int.gcd; omega
theorem gcdF_nonneg (a b : Int) : 0 ≤ gcdF a b := by unfold gcdF; split <;> omega
theorem gcdF_le (a b : Int) : gcdF a b ≤ 9223372036854775807 := by unfold gcdF; split <;> omega

/-- what the end of num.Gcd makes of the last number -/
theorem gcdF_end (a b x : Int) (hx : I64 x) (h : Int.gcd x 0 = Int.gcd a b) : gcdF a b = if x = -9223372036854775808 then 0 else if x < 0 then -x else x := by
  rw [gcd_zero] at h
  unfold gcdF
  rw [← h]
  unfold I64 at hx
  split <;> split <;> (try split) <;> omega

theorem tmod_zero_iff (a b : Int) : a.tmod b = 0 ↔ b.natAbs ∣ a.natAbs := by
  have h := Int.natAbs_tmod a b
  rw [Nat.dvd_iff_mod_eq_zero, ← h]; omega

theorem gcdF_div (a b : Int) (h : gcdF a b ≠ 0) : a.tmod (gcdF a b) = 0 ∧ b.tmod (gcdF a b) = 0 := by
  unfold gcdF at *
  split at h
  · rename_i hc
    rw [if_pos hc, tmod_zero_iff, tmod_zero_iff, Int.natAbs_natCast]
    exact ⟨Nat.gcd_dvd_left _ _, Nat.gcd_dvd_right _ _⟩
  · exact absurd rfl h

theorem gcdF_great (a b d : Int) (h : gcdF a b ≠ 0) (h1 : a.tmod d = 0) (h2 : b.tmod d = 0) : (gcdF a b).tmod d = 0 := by
  unfold gcdF at *
  split at h
  · rename_i hc
    rw [tmod_zero_iff] at h1 h2
    rw [if_pos hc, tmod_zero_iff, Int.natAbs_natCast]
    exact Nat.dvd_gcd h1 h2
  · exact absurd rfl h

theorem gcdF_zero (a b : Int) (ha : I64 a) (hb : I64 b) (h : gcdF a b = 0) : (a = 0 ∨ a = -9223372036854775808) ∧ (b = 0 ∨ b = -9223372036854775808) := by
  have hl := gcd_le a b ha hb
  have d1 := Nat.gcd_dvd_left a.natAbs b.natAbs
  have d2 := Nat.gcd_dvd_right a.natAbs b.natAbs
  have hg : Int.gcd a b = Nat.gcd a.natAbs b.natAbs := rfl
  unfold gcdF at h
  split at h
  · have h0 : Nat.gcd a.natAbs b.natAbs = 0 := by omega
    have := Nat.eq_zero_of_gcd_eq_zero_left h0
    have := Nat.eq_zero_of_gcd_eq_zero_right h0
    omega
  · have h0 : Nat.gcd a.natAbs b.natAbs = 9223372036854775808 := by omega
    rw [h0] at d1 d2
    unfold I64 at *
    omega

theorem gcd_pos_le (m x : Int) (hm : 1 ≤ m) (hm2 : m ≤ 9223372036854775807) : gcdF m x = (Int.gcd m x : Int) ∧ 1 ≤ (Int.gcd m x : Int) ∧ (Int.gcd m x : Int) ≤ m := by
  have h1 := Nat.le_of_dvd (by omega) (Nat.gcd_dvd_left m.natAbs x.natAbs)
  have h2 := Nat.gcd_pos_of_pos_left x.natAbs (m := m.natAbs) (by omega)
  have hg : Int.gcd m x = Nat.gcd m.natAbs x.natAbs := rfl
  unfold gcdF
  rw [if_pos (by omega)]
  omega

/-- num.Lcm's loop: n numbers are left, from the k-th on; m so far -/
def lcmGo (most : Int) (z : Nat → Int) : Nat → Nat → Int → Int
  | 0, _, m => m
  | n + 1, k, m => if z k < 1 ∨ most / m < z k / (Int.gcd m (z k) : Int) then 0 else lcmGo most z n (k + 1) (m * (z k / (Int.gcd m (z k) : Int)))
def lcmV (z : Nat → Int) (len : Nat) (most : Int) : Int := if most < 1 then 0 else lcmGo most z len 0 1
def lcmB (z : Nat → Int) (len : Nat) (most : Int) : Bool := decide (0 < lcmV z len most)

theorem lcmGo_no {most m : Int} {z : Nat → Int} {n k : Nat} (h : z k < 1 ∨ most / m < z k / (Int.gcd m (z k) : Int)) : lcmGo most z (n + 1) k m = 0 := by
  rw [lcmGo, if_pos h]
theorem lcmGo_yes {most m : Int} {z : Nat → Int} {n k : Nat} (h : ¬ (z k < 1 ∨ most / m < z k / (Int.gcd m (z k) : Int))) : lcmGo most z (n + 1) k m = lcmGo most z n (k + 1) (m * (z k / (Int.gcd m (z k) : Int))) := by
  rw [lcmGo, if_neg h]

/-- the step: m and x lie in it, and it in whatever both lie in -/
theorem lcm_step (m x : Int) (hm : 1 ≤ m) (hx : 1 ≤ x) :
    m ∣ m * (x / (Int.gcd m x : Int)) ∧ x ∣ m * (x / (Int.gcd m x : Int)) ∧ 1 ≤ m * (x / (Int.gcd m x : Int)) ∧ ∀ t, m ∣ t → x ∣ t → m * (x / (Int.gcd m x : Int)) ∣ t := by
  obtain ⟨M, rfl⟩ := Int.eq_ofNat_of_zero_le (show 0 ≤ m by omega)
  obtain ⟨X, rfl⟩ := Int.eq_ofNat_of_zero_le (show 0 ≤ x by omega)
  have hg : Int.gcd (M : Int) (X : Int) = Nat.gcd M X := by simp [Int.gcd]
  have e : ((M : Int) * ((X : Int) / (Int.gcd (M : Int) (X : Int) : Int))) = ((Nat.lcm M X : Nat) : Int) := by
    rw [hg, ← Int.natCast_ediv, ← Int.natCast_mul]
    congr 1
    unfold Nat.lcm
    exact (Nat.mul_div_assoc M (Nat.gcd_dvd_right M X)).symm
  rw [e]
  refine ⟨Int.natCast_dvd_natCast.2 (Nat.dvd_lcm_left M X), Int.natCast_dvd_natCast.2 (Nat.dvd_lcm_right M X), ?_, ?_⟩
  · have := Nat.lcm_pos (m := M) (n := X) (by omega) (by omega)
    omega
  · intro t h1 h2
    rw [← Int.natAbs_dvd_natAbs] at h1 h2 ⊢
    simp only [Int.natAbs_natCast] at h1 h2 ⊢
    exact Nat.lcm_dvd h1 h2

theorem lcm_fit (most m s : Int) (hm : 1 ≤ m) : most / m < s ↔ most < m * s := by
  have := Int.ediv_lt_iff_lt_mul (a := most) (b := s) (c := m) (by omega)
  rw [this, Int.mul_comm]

/-- what num.Lcm's loop tells -/
theorem lcmGo_facts (most : Int) (z : Nat → Int) : ∀ (n k : Nat) (m : Int), 1 ≤ m → m ≤ most →
    0 ≤ lcmGo most z n k m ∧ lcmGo most z n k m ≤ most ∧
    (0 < lcmGo most z n k m → m ∣ lcmGo most z n k m ∧ ∀ i, k ≤ i → i < k + n → 1 ≤ z i ∧ z i ∣ lcmGo most z n k m) ∧
    (∀ t, 1 ≤ t → t ≤ most → m ∣ t → (∀ i, k ≤ i → i < k + n → 1 ≤ z i ∧ z i ∣ t) → 0 < lcmGo most z n k m ∧ lcmGo most z n k m ∣ t)
  | 0, k, m, h1, h2 => by
    unfold lcmGo
    exact ⟨by omega, by omega, fun _ => ⟨Int.dvd_refl m, fun i a b => absurd b (by omega)⟩, fun t _ _ h _ => ⟨by omega, h⟩⟩
  | n + 1, k, m, h1, h2 => by
    by_cases h : z k < 1 ∨ most / m < z k / (Int.gcd m (z k) : Int)
    · rw [lcmGo_no h]
      refine ⟨by omega, by omega, fun h => absurd h (by omega), fun t t1 t2 hmt hz => ?_⟩
      exfalso
      obtain ⟨hk1, hk2⟩ := hz k (Nat.le_refl _) (by omega)
      obtain ⟨_, _, hs1, hs2⟩ := lcm_step m (z k) h1 hk1
      have hd := hs2 t hmt hk2
      have hle := Int.le_of_dvd (by omega) hd
      rcases h with h | h
      · omega
      · rw [lcm_fit most m _ h1] at h
        omega
    · rw [lcmGo_yes h]
      have hk1 : 1 ≤ z k := by omega
      obtain ⟨s1, s2, s3, s4⟩ := lcm_step m (z k) h1 hk1
      have hle : m * (z k / (Int.gcd m (z k) : Int)) ≤ most := by
        have := lcm_fit most m (z k / (Int.gcd m (z k) : Int)) h1
        omega
      obtain ⟨r1, r2, r3, r4⟩ := lcmGo_facts most z n (k + 1) _ s3 hle
      refine ⟨r1, r2, fun hp => ?_, fun t t1 t2 hmt hz => ?_⟩
      · obtain ⟨q1, q2⟩ := r3 hp
        refine ⟨Int.dvd_trans s1 q1, fun i a b => ?_⟩
        by_cases hi : i = k
        · subst hi; exact ⟨hk1, Int.dvd_trans s2 q1⟩
        · exact q2 i (by omega) (by omega)
      · exact r4 t t1 t2 (s4 t hmt (hz k (Nat.le_refl _) (by omega)).2) (fun i a b => hz i (by omega) (by omega))

theorem lcmV_facts (z : Nat → Int) (len : Nat) (most : Int) :
    0 ≤ lcmV z len most ∧ (0 < lcmV z len most → lcmV z len most ≤ most ∧ ∀ i, i < len → 1 ≤ z i ∧ z i ∣ lcmV z len most) ∧
    (∀ t, 1 ≤ t → t ≤ most → (∀ i, i < len → 1 ≤ z i ∧ z i ∣ t) → 0 < lcmV z len most ∧ lcmV z len most ∣ t) := by
  unfold lcmV
  by_cases h : most < 1
  · rw [if_pos h]; exact ⟨by omega, fun h => absurd h (by omega), fun t _ _ _ => by omega⟩
  · rw [if_neg h]
    obtain ⟨r1, r2, r3, r4⟩ := lcmGo_facts most z len 0 1 (by omega) (by omega)
    exact ⟨r1, fun hp => ⟨r2, fun i hi => (r3 hp).2 i (by omega) (by omega)⟩, fun t t1 t2 hz => r4 t t1 t2 (Int.one_dvd t) (fun i _ b => hz i (by omega))⟩

end Go.Proofs.YtkjnhhoniodbcaaGreatDoor.Plain
