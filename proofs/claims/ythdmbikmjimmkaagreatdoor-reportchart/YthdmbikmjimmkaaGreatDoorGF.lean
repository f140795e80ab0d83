/-
  One text: NDivs, NGcds, NRefs.
-/
import Derived.Test.YthdmbikmjimmkaaGreatDoorGE
namespace Go.Proofs.YthdmbikmjimmkaaGreatDoor.Plain
open Go Go.RowKit

/-- num.Mul: the number -/
def mulV (a b : Int) : Int := if -9223372036854775808 ≤ a * b ∧ a * b ≤ 9223372036854775807 then a * b else 0
/-- num.Mul: whether there is one -/
def mulB (a b : Int) : Bool := if -9223372036854775808 ≤ a * b ∧ a * b ≤ 9223372036854775807 then true else false

theorem mulV_yes {a b : Int} (h : I64 (a * b)) : mulV a b = a * b := if_pos h
theorem mulB_yes {a b : Int} (h : I64 (a * b)) : mulB a b = true := if_pos h
theorem mulV_no {a b : Int} (h : ¬ I64 (a * b)) : mulV a b = 0 := if_neg h
theorem mulB_no {a b : Int} (h : ¬ I64 (a * b)) : mulB a b = false := if_neg h

theorem tmod_bd (m b : Int) (hb : b ≠ 0) : -(b.natAbs : Int) < m.tmod b ∧ m.tmod b < b.natAbs := by
  have h := Int.natAbs_tmod m b
  have := Nat.mod_lt m.natAbs (y := b.natAbs) (by omega)
  omega

/-- what a wrapped product divided back shows -/
theorem mul_wraps (a b : Int) (ha : I64 a) (hb : I64 b) (h0 : b ≠ 0) (hn : ¬ (a = -9223372036854775808 ∧ b = -1)) (h : ¬ I64 (a * b)) :
    (wrap64 ((wrap64 (a * b)).tdiv b) != a) = true := by
  simp only [bne_iff_ne]
  intro e
  have hm := wrap64_I64 (a * b)
  have hw : ∃ k : Int, wrap64 (a * b) = a * b - 18446744073709551616 * k := ⟨(a * b + 9223372036854775808) / 18446744073709551616, by unfold wrap64; omega⟩
  obtain ⟨k, hk⟩ := hw
  have hd := Int.mul_tdiv_add_tmod (wrap64 (a * b)) b
  have hr := tmod_bd (wrap64 (a * b)) b h0
  have hq := Int.natAbs_tdiv_le_natAbs (wrap64 (a * b)) b
  generalize wrap64 (a * b) = m at *
  generalize hqq : m.tdiv b = q at *
  generalize m.tmod b = r at *
  unfold I64 at *
  by_cases hbig : q = 9223372036854775808
  · have hmin : m = -9223372036854775808 := by omega
    have hbv : b = -1 := by
      rw [hbig, hmin] at hd
      omega
    have ha' : a = -9223372036854775808 := by
      rw [hbig] at e; unfold wrap64 at e; omega
    exact hn ⟨ha', hbv⟩
  · have hw : wrap64 q = q := by unfold wrap64; omega
    rw [hw] at e
    subst e
    have hc : q * b = b * q := Int.mul_comm _ _
    generalize q * b = t at *
    omega

theorem mul_back (a b : Int) (h0 : b ≠ 0) : (a * b).tdiv b = a := Int.mul_tdiv_cancel a h0

/-- Euclid's quotient of two int64 is one -/
theorem ediv_I64 (a b : Int) (ha : I64 a) (h0 : b ≠ 0) (hn : ¬ (a = -9223372036854775808 ∧ b = -1)) : I64 (a / b) := by
  unfold I64 at *
  by_cases hb : 0 < b
  · have h1 := @Int.le_ediv_iff_mul_le (-9223372036854775808) a b hb
    have h2 : a / b < 9223372036854775808 ↔ a < 9223372036854775808 * b := Int.ediv_lt_iff_lt_mul hb
    have h3 : -9223372036854775808 * b ≤ -9223372036854775808 := by omega
    have h4 : 9223372036854775808 ≤ 9223372036854775808 * b := by omega
    omega
  · obtain ⟨c, rfl⟩ : ∃ c, b = -c := ⟨-b, by omega⟩
    rw [Int.ediv_neg]
    have hc : 0 < c := by omega
    have h1 := @Int.le_ediv_iff_mul_le (-9223372036854775807) a c hc
    have h2 : a / c < 9223372036854775808 ↔ a < 9223372036854775808 * c := Int.ediv_lt_iff_lt_mul hc
    by_cases h5 : c = 1
    · subst h5; rw [Int.ediv_one]; omega
    · have h3 : -9223372036854775807 * c ≤ -9223372036854775808 := by omega
      have h4 : 9223372036854775808 ≤ 9223372036854775808 * c := by omega
      omega

/-- Go's quotient and rest, said by Euclid's -/
theorem div_cases (a b : Int) (h0 : b ≠ 0) :
    (a.tdiv b = a / b ∧ a.tmod b = a % b) ∨ (0 < b ∧ a % b < b ∧ a.tdiv b = a / b + 1 ∧ a.tmod b = a % b - b) ∨ (b < 0 ∧ a % b < -b ∧ a.tdiv b = a / b - 1 ∧ a.tmod b = a % b + b) := by
  have e1 := @Int.tdiv_eq_ediv a b
  have e2 := @Int.tmod_eq_emod a b
  by_cases h : 0 ≤ a ∨ b ∣ a
  · rw [if_pos h] at e1 e2; left; omega
  · rw [if_neg h] at e1 e2
    right
    have hl := Int.emod_lt a h0
    by_cases hb : 0 < b
    · left; rw [Int.sign_eq_one_of_pos hb] at e1; omega
    · right; rw [Int.sign_eq_neg_one_of_neg (by omega)] at e1; omega

/-- num.Div: whether there is a quotient -/
def divB (a b : Int) : Bool := if b = 0 ∨ (a = -9223372036854775808 ∧ b = -1) then false else true
def divQ (a b : Int) : Int := if divB a b then a / b else 0
def divR (a b : Int) : Int := if divB a b then a % b else 0

theorem divB_no {a b : Int} (h : b = 0 ∨ (a = -9223372036854775808 ∧ b = -1)) : divB a b = false := if_pos h
theorem divB_yes {a b : Int} (h : ¬ (b = 0 ∨ (a = -9223372036854775808 ∧ b = -1))) : divB a b = true := if_neg h
theorem divB_not {a b : Int} (h : divB a b = false) : b = 0 ∨ (a = -9223372036854775808 ∧ b = -1) := by
  apply Decidable.byContradiction; intro hn; rw [divB_yes hn] at h; cases h
theorem divB_is {a b : Int} (h : divB a b = true) : b ≠ 0 ∧ ¬ (a = -9223372036854775808 ∧ b = -1) := by
  apply Decidable.byContradiction; intro hn; rw [divB_no (by omega)] at h; cases h

theorem addV_comm {a b : Int} (ha : I64 a) (hb : I64 b) : addV b a = addV a b := by
  by_cases h : I64 (a + b)
  · rw [addV_yes ha hb h, addV_yes hb ha (by rw [Int.add_comm]; exact h), Int.add_comm]
  · rw [addV_no ha hb h, addV_no hb ha (by rw [Int.add_comm]; exact h)]
theorem addB_comm {a b : Int} (ha : I64 a) (hb : I64 b) : addB b a = addB a b := by
  by_cases h : I64 (a + b)
  · rw [addB_yes ha hb h, addB_yes hb ha (by rw [Int.add_comm]; exact h)]
  · rw [addB_no ha hb h, addB_no hb ha (by rw [Int.add_comm]; exact h)]
theorem sub_back {a b : Int} (ha : I64 a) (hb : I64 b) (h : addB a b = true) : subV (addV a b) b = a ∧ subB (addV a b) b = true := by
  by_cases hf : I64 (a + b)
  · have e : a + b - b = a := by omega
    rw [addV_yes ha hb hf, subV_yes hf hb (by rw [e]; exact ha), subB_yes hf hb (by rw [e]; exact ha), e]; exact ⟨rfl, rfl⟩
  · rw [addB_no ha hb hf] at h; cases h
theorem mulV_comm (a b : Int) : mulV b a = mulV a b := by unfold mulV; rw [Int.mul_comm]
theorem mulB_comm (a b : Int) : mulB b a = mulB a b := by unfold mulB; rw [Int.mul_comm]
theorem mulV_I64 (a b : Int) : I64 (mulV a b) := by
  by_cases h : I64 (a * b)
  · rw [mulV_yes h]; exact h
  · rw [mulV_no h]; unfold I64; omega
theorem div_back {a b : Int} (ha : I64 a) (h0 : b ≠ 0) (h : mulB a b = true) : divQ (mulV a b) b = a ∧ divR (mulV a b) b = 0 ∧ divB (mulV a b) b = true := by
  by_cases hf : I64 (a * b)
  · rw [mulV_yes hf]
    have hy : divB (a * b) b = true := divB_yes (by
      rintro (h | ⟨h1, rfl⟩)
      · exact h0 h
      · unfold I64 at ha; omega)
    refine ⟨?_, ?_, hy⟩
    · unfold divQ; rw [if_pos hy]; exact Int.mul_ediv_cancel a h0
    · unfold divR; rw [if_pos hy]; exact Int.mul_emod_left a b
  · rw [mulB_no hf] at h; cases h
theorem div_facts {a b : Int} (ha : I64 a) (h : divB a b = true) :
    b ≠ 0 ∧ 0 ≤ divR a b ∧ (b < 0 ∨ divR a b < b) ∧ (0 < b ∨ divR a b < -b) ∧ wrap64 (wrap64 (divQ a b * b) + divR a b) = a := by
  obtain ⟨h0, hn⟩ := divB_is h
  unfold divR divQ
  rw [if_pos h, if_pos h]
  have h1 := Int.emod_nonneg a h0
  have h2 := Int.emod_lt a h0
  have h3 := Int.emod_add_mul_ediv a b
  rw [Int.mul_comm] at h3
  generalize a / b * b = t at *
  generalize a % b = r at *
  unfold I64 wrap64 at *
  omega

end Go.Proofs.YthdmbikmjimmkaaGreatDoor.Plain

namespace Go.Proofs.YthdmbikmjimmkaaGreatDoor.Plain
open Go Go.RowKit

/-- num.Gcd -/
def gcdF (a b : Int) : Int := if (Int.gcd a b : Int) ≤ 9223372036854775807 then (Int.gcd a b : Int) else 0

theorem gcd_step (a b : Int) : Int.gcd b (a.tmod b) = Int.gcd a b := by
  unfold Int.gcd
  rw [Int.natAbs_tmod, Nat.gcd_comm, ← Nat.gcd_rec, Nat.gcd_comm]
theorem gcd_zero (a : Int) : Int.gcd a 0 = a.natAbs := by unfold Int.gcd; simp

theorem tmod_I64 (a b : Int) (ha : I64 a) : I64 (a.tmod b) := by
  have h := Int.natAbs_tmod a b
  have := Nat.mod_le a.natAbs b.natAbs
  unfold I64 at *
  by_cases h0 : 0 ≤ a
  · have := Int.tmod_nonneg b h0
    omega
  · have h1 := Int.tmod_nonneg b (a := -a) (by omega)
    rw [Int.neg_tmod] at h1
    omega
theorem tmod_lt (a b : Int) (hb : b ≠ 0) : (a.tmod b).natAbs < b.natAbs := by
  rw [Int.natAbs_tmod]; exact Nat.mod_lt _ (by omega)

theorem gcd_le (a b : Int) (ha : I64 a) (hb : I64 b) : (Int.gcd a b : Int) ≤ 9223372036854775808 := by
  unfold I64 at *
  by_cases h : a = 0
  · subst h; unfold Int.gcd; simp; omega
  · have := Nat.le_of_dvd (by omega) (Nat.gcd_dvd_left a.natAbs b.natAbs)
    unfold Int.gcd; omega
theorem gcdF_nonneg (a b : Int) : 0 ≤ gcdF a b := by unfold gcdF; split <;> omega
theorem gcdF_le (a b : Int) : gcdF a b ≤ 9223372036854775807 := by unfold gcdF; split <;> omega

/-- what the end of num.Gcd makes of the last number -/
theorem gcdF_end (a b x : Int) (hx : I64 x) (h : Int.gcd x 0 = Int.gcd a b) : gcdF a b = if x = -9223372036854775808 then 0 else if x < 0 then -x else x := by
  rw [gcd_zero] at h
  unfold gcdF
  rw [← h]
  unfold I64 at hx
  split <;> split <;> (try split) <;> omega

theorem tmod_zero_iff (a b : Int) : a.tmod b = 0 ↔ b.natAbs ∣ a.natAbs := by
  have h := Int.natAbs_tmod a b
  rw [Nat.dvd_iff_mod_eq_zero, ← h]; omega

theorem gcdF_div (a b : Int) (h : gcdF a b ≠ 0) : a.tmod (gcdF a b) = 0 ∧ b.tmod (gcdF a b) = 0 := by
  unfold gcdF at *
  split at h
  · rename_i hc
    rw [if_pos hc, tmod_zero_iff, tmod_zero_iff, Int.natAbs_natCast]
    exact ⟨Nat.gcd_dvd_left _ _, Nat.gcd_dvd_right _ _⟩
  · exact absurd rfl h

theorem gcdF_great (a b d : Int) (h : gcdF a b ≠ 0) (h1 : a.tmod d = 0) (h2 : b.tmod d = 0) : (gcdF a b).tmod d = 0 := by
  unfold gcdF at *
  split at h
  · rename_i hc
    rw [tmod_zero_iff] at h1 h2
    rw [if_pos hc, tmod_zero_iff, Int.natAbs_natCast]
    exact Nat.dvd_gcd h1 h2
  · exact absurd rfl h

theorem gcdF_zero (a b : Int) (ha : I64 a) (hb : I64 b) (h : gcdF a b = 0) : (a = 0 ∨ a = -9223372036854775808) ∧ (b = 0 ∨ b = -9223372036854775808) := by
  have hl := gcd_le a b ha hb
  have d1 := Nat.gcd_dvd_left a.natAbs b.natAbs
  have d2 := Nat.gcd_dvd_right a.natAbs b.natAbs
  have hg : Int.gcd a b = Nat.gcd a.natAbs b.natAbs := rfl
  unfold gcdF at h
  split at h
  · have h0 : Nat.gcd a.natAbs b.natAbs = 0 := by omega
    have := Nat.eq_zero_of_gcd_eq_zero_left h0
    have := Nat.eq_zero_of_gcd_eq_zero_right h0
    omega
  · have h0 : Nat.gcd a.natAbs b.natAbs = 9223372036854775808 := by omega
    rw [h0] at d1 d2
    unfold I64 at *
    omega

theorem gcd_pos_le (m x : Int) (hm : 1 ≤ m) (hm2 : m ≤ 9223372036854775807) : gcdF m x = (Int.gcd m x : Int) ∧ 1 ≤ (Int.gcd m x : Int) ∧ (Int.gcd m x : Int) ≤ m := by
  have h1 := Nat.le_of_dvd (by omega) (Nat.gcd_dvd_left m.natAbs x.natAbs)
  have h2 := Nat.gcd_pos_of_pos_left x.natAbs (m := m.natAbs) (by omega)
  have hg : Int.gcd m x = Nat.gcd m.natAbs x.natAbs := rfl
  unfold gcdF
  rw [if_pos (by omega)]
  omega

/-- num.Lcm's loop: n numbers are left, from the k-th on; m so far -/
def lcmGo (most : Int) (z : Nat → Int) : Nat → Nat → Int → Int
  | 0, _, m => m
  | n + 1, k, m => if z k < 1 ∨ most / m < z k / (Int.gcd m (z k) : Int) then 0 else lcmGo most z n (k + 1) (m * (z k / (Int.gcd m (z k) : Int)))
def lcmV (z : Nat → Int) (len : Nat) (most : Int) : Int := if most < 1 then 0 else lcmGo most z len 0 1
def lcmB (z : Nat → Int) (len : Nat) (most : Int) : Bool := decide (0 < lcmV z len most)

theorem lcmGo_no {most m : Int} {z : Nat → Int} {n k : Nat} (h : z k < 1 ∨ most / m < z k / (Int.gcd m (z k) : Int)) : lcmGo most z (n + 1) k m = 0 := by
  rw [lcmGo, if_pos h]
theorem lcmGo_yes {most m : Int} {z : Nat → Int} {n k : Nat} (h : ¬ (z k < 1 ∨ most / m < z k / (Int.gcd m (z k) : Int))) : lcmGo most z (n + 1) k m = lcmGo most z n (k + 1) (m * (z k / (Int.gcd m (z k) : Int))) := by
  rw [lcmGo, if_neg h]

/-- the step: m and x lie in it, and it in whatever both lie in -/
theorem lcm_step (m x : Int) (hm : 1 ≤ m) (hx : 1 ≤ x) :
    m ∣ m * (x / (Int.gcd m x : Int)) ∧ x ∣ m * (x / (Int.gcd m x : Int)) ∧ 1 ≤ m * (x / (Int.gcd m x : Int)) ∧ ∀ t, m ∣ t → x ∣ t → m * (x / (Int.gcd m x : Int)) ∣ t := by
  obtain ⟨M, rfl⟩ := Int.eq_ofNat_of_zero_le (show 0 ≤ m by omega)
  obtain ⟨X, rfl⟩ := Int.eq_ofNat_of_zero_le (show 0 ≤ x by omega)
  have hg : Int.gcd (M : Int) (X : Int) = Nat.gcd M X := by simp [Int.gcd]
  have e : ((M : Int) * ((X : Int) / (Int.gcd (M : Int) (X : Int) : Int))) = ((Nat.lcm M X : Nat) : Int) := by
    rw [hg, ← Int.natCast_ediv, ← Int.natCast_mul]
    congr 1
    unfold Nat.lcm
    exact (Nat.mul_div_assoc M (Nat.gcd_dvd_right M X)).symm
  rw [e]
  refine ⟨Int.natCast_dvd_natCast.2 (Nat.dvd_lcm_left M X), Int.natCast_dvd_natCast.2 (Nat.dvd_lcm_right M X), ?_, ?_⟩
  · have := Nat.lcm_pos (m := M) (n := X) (by omega) (by omega)
    omega
  · intro t h1 h2
    rw [← Int.natAbs_dvd_natAbs] at h1 h2 ⊢
    simp only [Int.natAbs_natCast] at h1 h2 ⊢
    exact Nat.lcm_dvd h1 h2

theorem lcm_fit (most m s : Int) (hm : 1 ≤ m) : most / m < s ↔ most < m * s := by
  have := Int.ediv_lt_iff_lt_mul (a := most) (b := s) (c := m) (by omega)
  rw [this, Int.mul_comm]

/-- what num.Lcm's loop tells -/
theorem lcmGo_facts (most : Int) (z : Nat → Int) : ∀ (n k : Nat) (m : Int), 1 ≤ m → m ≤ most →
    0 ≤ lcmGo most z n k m ∧ lcmGo most z n k m ≤ most ∧
    (0 < lcmGo most z n k m → m ∣ lcmGo most z n k m ∧ ∀ i, k ≤ i → i < k + n → 1 ≤ z i ∧ z i ∣ lcmGo most z n k m) ∧
    (∀ t, 1 ≤ t → t ≤ most → m ∣ t → (∀ i, k ≤ i → i < k + n → 1 ≤ z i ∧ z i ∣ t) → 0 < lcmGo most z n k m ∧ lcmGo most z n k m ∣ t)
  | 0, k, m, h1, h2 => by
    unfold lcmGo
    exact ⟨by omega, by omega, fun _ => ⟨Int.dvd_refl m, fun i a b => absurd b (by omega)⟩, fun t _ _ h _ => ⟨by omega, h⟩⟩
  | n + 1, k, m, h1, h2 => by
    by_cases h : z k < 1 ∨ most / m < z k / (Int.gcd m (z k) : Int)
    · rw [lcmGo_no h]
      refine ⟨by omega, by omega, fun h => absurd h (by omega), fun t t1 t2 hmt hz => ?_⟩
      exfalso
      obtain ⟨hk1, hk2⟩ := hz k (Nat.le_refl _) (by omega)
      obtain ⟨_, _, hs1, hs2⟩ := lcm_step m (z k) h1 hk1
      have hd := hs2 t hmt hk2
      have hle := Int.le_of_dvd (by omega) hd
      rcases h with h | h
      · omega
      · rw [lcm_fit most m _ h1] at h
        omega
    · rw [lcmGo_yes h]
      have hk1 : 1 ≤ z k := by omega
      obtain ⟨s1, s2, s3, s4⟩ := lcm_step m (z k) h1 hk1
      have hle : m * (z k / (Int.gcd m (z k) : Int)) ≤ most := by
        have := lcm_fit most m (z k / (Int.gcd m (z k) : Int)) h1
        omega
      obtain ⟨r1, r2, r3, r4⟩ := lcmGo_facts most z n (k + 1) _ s3 hle
      refine ⟨r1, r2, fun hp => ?_, fun t t1 t2 hmt hz => ?_⟩
      · obtain ⟨q1, q2⟩ := r3 hp
        refine ⟨Int.dvd_trans s1 q1, fun i a b => ?_⟩
        by_cases hi : i = k
        · subst hi; exact ⟨hk1, Int.dvd_trans s2 q1⟩
        · exact q2 i (by omega) (by omega)
      · exact r4 t t1 t2 (s4 t hmt (hz k (Nat.le_refl _) (by omega)).2) (fun i a b => hz i (by omega) (by omega))

theorem lcmV_facts (z : Nat → Int) (len : Nat) (most : Int) :
    0 ≤ lcmV z len most ∧ (0 < lcmV z len most → lcmV z len most ≤ most ∧ ∀ i, i < len → 1 ≤ z i ∧ z i ∣ lcmV z len most) ∧
    (∀ t, 1 ≤ t → t ≤ most → (∀ i, i < len → 1 ≤ z i ∧ z i ∣ t) → 0 < lcmV z len most ∧ lcmV z len most ∣ t) := by
  unfold lcmV
  by_cases h : most < 1
  · rw [if_pos h]; exact ⟨by omega, fun h => absurd h (by omega), fun t _ _ _ => by omega⟩
  · rw [if_neg h]
    obtain ⟨r1, r2, r3, r4⟩ := lcmGo_facts most z len 0 1 (by omega) (by omega)
    exact ⟨r1, fun hp => ⟨r2, fun i hi => (r3 hp).2 i (by omega) (by omega)⟩, fun t t1 t2 hz => r4 t t1 t2 (Int.one_dvd t) (fun i _ b => hz i (by omega))⟩

end Go.Proofs.YthdmbikmjimmkaaGreatDoor.Plain

namespace Go.Proofs.YthdmbikmjimmkaaGreatDoor.Plain
open Go Go.RowKit

/-- the number at a distance from 0 -/
def sgnV (below : Bool) (d : Int) : Int := if below then (if 9223372036854775808 < d then 0 else -d) else if 9223372036854775807 < d then 0 else d
def sgnB (below : Bool) (d : Int) : Bool := if below then (if 9223372036854775808 < d then false else true) else if 9223372036854775807 < d then false else true

theorem sgn_up {d : Int} (h : d ≤ 9223372036854775807) : sgnV false d = d ∧ sgnB false d = true := by
  unfold sgnV sgnB
  simp only [Bool.false_eq_true, if_false]
  rw [if_neg (by omega), if_neg (by omega)]; exact ⟨rfl, rfl⟩
theorem sgn_down {d : Int} (h : d ≤ 9223372036854775808) : sgnV true d = -d ∧ sgnB true d = true := by
  unfold sgnV sgnB
  simp only [if_true]
  rw [if_neg (by omega), if_neg (by omega)]; exact ⟨rfl, rfl⟩

theorem add_same (a b : Int) (ha : I64 a) (hb : I64 b) (h : a < 0 ↔ b < 0) :
    sgnV (decide (a < 0)) ((a.natAbs : Int) + (b.natAbs : Int)) = addV a b ∧ sgnB (decide (a < 0)) ((a.natAbs : Int) + (b.natAbs : Int)) = addB a b := by
  by_cases hf : I64 (a + b)
  · rw [addV_yes ha hb hf, addB_yes ha hb hf]
    unfold sgnV sgnB I64 at *
    by_cases hn : a < 0
    · simp only [hn, decide_true, if_true]; rw [if_neg (by omega), if_neg (by omega)]; exact ⟨by omega, rfl⟩
    · have e : decide (a < 0) = false := by simpa using hn
      simp only [e, Bool.false_eq_true, if_false]; rw [if_neg (by omega), if_neg (by omega)]; exact ⟨by omega, rfl⟩
  · rw [addV_no ha hb hf, addB_no ha hb hf]
    unfold sgnV sgnB I64 at *
    by_cases hn : a < 0
    · simp only [hn, decide_true, if_true]; rw [if_pos (by omega), if_pos (by omega)]; exact ⟨rfl, rfl⟩
    · have e : decide (a < 0) = false := by simpa using hn
      simp only [e, Bool.false_eq_true, if_false]; rw [if_pos (by omega), if_pos (by omega)]; exact ⟨rfl, rfl⟩

theorem sub_of_add (a b : Int) (ha : I64 a) (hb : I64 b) (h : b ≠ -9223372036854775808) : addV a (-b) = subV a b ∧ addB a (-b) = subB a b := by
  have hn : I64 (-b) := by unfold I64 at *; omega
  by_cases hf : I64 (a - b)
  · have hf2 : I64 (a + -b) := by rw [← Int.sub_eq_add_neg]; exact hf
    rw [addV_yes ha hn hf2, addB_yes ha hn hf2, subV_yes ha hb hf, subB_yes ha hb hf]; exact ⟨by omega, rfl⟩
  · have hf2 : ¬ I64 (a + -b) := by rw [← Int.sub_eq_add_neg]; exact hf
    rw [addV_no ha hn hf2, addB_no ha hn hf2, subV_no ha hb hf, subB_no ha hb hf]; exact ⟨rfl, rfl⟩

/-- a product by distances -/
theorem mul_away (a b : Int) : (a.natAbs : Int) * (b.natAbs : Int) = if (a < 0) ≠ (b < 0) then -(a * b) else a * b := by
  by_cases h1 : a < 0 <;> by_cases h2 : b < 0
  · rw [if_neg (by simp [h1, h2]), show (a.natAbs : Int) = -a by omega, show (b.natAbs : Int) = -b by omega, Int.neg_mul_neg]
  · rw [if_pos (by simp [h1, h2]), show (a.natAbs : Int) = -a by omega, show (b.natAbs : Int) = b by omega, Int.neg_mul]
  · rw [if_pos (by simp [h1, h2]), show (a.natAbs : Int) = a by omega, show (b.natAbs : Int) = -b by omega, Int.mul_neg]
  · rw [if_neg (by simp [h1, h2]), show (a.natAbs : Int) = a by omega, show (b.natAbs : Int) = b by omega]

theorem fit_div (x y : Int) (hx : 0 < x) : 9223372036854775808 / x < y ↔ 9223372036854775808 < x * y := lcm_fit 9223372036854775808 x y (by omega)

theorem mul_ref (a b : Int) (h : ¬ 9223372036854775808 < (a.natAbs : Int) * (b.natAbs : Int)) (s : Bool)
    (hs : s = ((decide (a < 0) != decide (b < 0)) && ((a.natAbs : Int) * (b.natAbs : Int) != 0))) :
    sgnV s ((a.natAbs : Int) * (b.natAbs : Int)) = mulV a b ∧ sgnB s ((a.natAbs : Int) * (b.natAbs : Int)) = mulB a b := by
  have hm := mul_away a b
  have hp : 0 ≤ (a.natAbs : Int) * (b.natAbs : Int) := Int.mul_nonneg (by omega) (by omega)
  generalize (a.natAbs : Int) * (b.natAbs : Int) = t at *
  have key : ∀ u : Int, sgnV s t = u → sgnB s t = true → a * b = u → I64 u → sgnV s t = mulV a b ∧ sgnB s t = mulB a b := by
    intro u h1 h2 h3 h4
    rw [mulV_yes (by rw [h3]; exact h4), mulB_yes (by rw [h3]; exact h4), h1, h2, h3]; exact ⟨rfl, rfl⟩
  by_cases h1 : a < 0 <;> by_cases h2 : b < 0
  · rw [if_neg (by simp [h1, h2])] at hm
    simp [h1, h2] at hs
    subst hs
    by_cases hb : 9223372036854775807 < t
    · rw [mulV_no (by unfold I64; omega), mulB_no (by unfold I64; omega)]
      exact ⟨if_pos hb, if_pos hb⟩
    · exact key t (if_neg hb) (if_neg hb) hm.symm (by unfold I64; omega)
  · rw [if_pos (by simp [h1, h2])] at hm
    simp [h1, h2] at hs
    by_cases h0 : t = 0
    · subst h0
      simp at hs
      subst hs
      exact key 0 (sgn_up (by omega)).1 (sgn_up (by omega)).2 (by omega) (by unfold I64; omega)
    · have : s = true := by rw [hs]; simpa using h0
      subst this
      exact key (-t) (if_neg h) (if_neg h) (by omega) (by unfold I64; omega)
  · rw [if_pos (by simp [h1, h2])] at hm
    simp [h1, h2] at hs
    by_cases h0 : t = 0
    · subst h0
      simp at hs
      subst hs
      exact key 0 (sgn_up (by omega)).1 (sgn_up (by omega)).2 (by omega) (by unfold I64; omega)
    · have : s = true := by rw [hs]; simpa using h0
      subst this
      exact key (-t) (if_neg h) (if_neg h) (by omega) (by unfold I64; omega)
  · rw [if_neg (by simp [h1, h2])] at hm
    simp [h1, h2] at hs
    subst hs
    by_cases hb : 9223372036854775807 < t
    · rw [mulV_no (by unfold I64; omega), mulB_no (by unfold I64; omega)]
      exact ⟨if_pos hb, if_pos hb⟩
    · exact key t (if_neg hb) (if_neg hb) hm.symm (by unfold I64; omega)

theorem mul_ref_no (a b : Int) (h : 9223372036854775808 < (a.natAbs : Int) * (b.natAbs : Int)) : mulV a b = 0 ∧ mulB a b = false := by
  have hm := mul_away a b
  generalize (a.natAbs : Int) * (b.natAbs : Int) = t at *
  have hn : ¬ I64 (a * b) := by
    unfold I64
    split at hm <;> omega
  exact ⟨mulV_no hn, mulB_no hn⟩

/-- the quotient's distance from 0, and the rest -/
def refQ (a b : Int) : Int := if a < 0 ∧ 0 < (a.natAbs : Int) % (b.natAbs : Int) then (a.natAbs : Int) / (b.natAbs : Int) + 1 else (a.natAbs : Int) / (b.natAbs : Int)
def refR (a b : Int) : Int := if a < 0 ∧ 0 < (a.natAbs : Int) % (b.natAbs : Int) then (b.natAbs : Int) - (a.natAbs : Int) % (b.natAbs : Int) else (a.natAbs : Int) % (b.natAbs : Int)

theorem div_away (a b : Int) (h0 : b ≠ 0) : a % b = refR a b ∧ a / b = if (a < 0) ≠ (b < 0) then -(refQ a b) else refQ a b := by
  have hy : 1 ≤ (b.natAbs : Int) := by omega
  obtain ⟨s1, s2, s3⟩ := split (a.natAbs : Int) (b.natAbs : Int) hy
  have key : a / (b.natAbs : Int) = (if a < 0 then -(refQ a b) else refQ a b) ∧ a % (b.natAbs : Int) = refR a b := by
    apply (Int.ediv_emod_unique (by omega)).2
    by_cases h1 : a < 0
    · by_cases h2 : 0 < (a.natAbs : Int) % (b.natAbs : Int)
      · have r1 : refQ a b = (a.natAbs : Int) / (b.natAbs : Int) + 1 := if_pos ⟨h1, h2⟩
        have r2 : refR a b = (b.natAbs : Int) - (a.natAbs : Int) % (b.natAbs : Int) := if_pos ⟨h1, h2⟩
        rw [r1, r2, if_pos h1, Int.mul_neg, Int.mul_add]; omega
      · have r1 : refQ a b = (a.natAbs : Int) / (b.natAbs : Int) := if_neg (fun h => h2 h.2)
        have r2 : refR a b = (a.natAbs : Int) % (b.natAbs : Int) := if_neg (fun h => h2 h.2)
        rw [r1, r2, if_pos h1, Int.mul_neg]; omega
    · have r1 : refQ a b = (a.natAbs : Int) / (b.natAbs : Int) := if_neg (fun h => h1 h.1)
      have r2 : refR a b = (a.natAbs : Int) % (b.natAbs : Int) := if_neg (fun h => h1 h.1)
      rw [r1, r2, if_neg h1]; omega
  by_cases hb : b < 0
  · have e : b = -(b.natAbs : Int) := by omega
    have e1 : a / b = -(a / (b.natAbs : Int)) := by
      have := Int.ediv_neg a (b.natAbs : Int); rw [← e] at this; exact this
    have e2 : a % b = a % (b.natAbs : Int) := by
      have := Int.emod_neg a (b.natAbs : Int); rw [← e] at this; exact this
    rw [e1, e2, key.1, key.2]
    refine ⟨rfl, ?_⟩
    by_cases h1 : a < 0
    · rw [if_pos h1, if_neg (by simp [h1, hb])]; omega
    · rw [if_neg h1, if_pos (by simp [h1, hb])]
  · have e : b = (b.natAbs : Int) := by omega
    have e1 : a / b = a / (b.natAbs : Int) := by rw [← e]
    have e2 : a % b = a % (b.natAbs : Int) := by rw [← e]
    rw [e1, e2, key.1, key.2]
    refine ⟨rfl, ?_⟩
    by_cases h1 : a < 0
    · rw [if_pos h1, if_pos (by simp [h1, hb])]
    · rw [if_neg h1, if_neg (by simp [h1, hb])]

theorem refQ_bd (a b : Int) (ha : I64 a) (h0 : b ≠ 0) : 0 ≤ refQ a b ∧ refQ a b ≤ 9223372036854775808 ∧ 0 ≤ refR a b ∧ refR a b < (b.natAbs : Int) := by
  obtain ⟨s1, s2, s3⟩ := split (a.natAbs : Int) (b.natAbs : Int) (by omega)
  obtain ⟨d1, d2⟩ := div_le (a.natAbs : Int) (b.natAbs : Int) (by omega) (by omega)
  unfold refQ refR I64 at *
  by_cases h2 : a < 0 ∧ 0 < (a.natAbs : Int) % (b.natAbs : Int)
  · rw [if_pos h2, if_pos h2]
    refine ⟨by omega, ?_, by omega, by omega⟩
    by_cases h3 : (a.natAbs : Int) / (b.natAbs : Int) = 9223372036854775808
    · exfalso
      rw [h3] at s1
      have : (b.natAbs : Int) * 9223372036854775808 ≤ 9223372036854775808 := by omega
      have : (b.natAbs : Int) = 1 := by omega
      omega
    · omega
  · rw [if_neg h2, if_neg h2]; omega

theorem div_ref (a b : Int) (ha : I64 a) (hb : I64 b) (h0 : b ≠ 0) :
    sgnB (decide (a < 0) != decide (b < 0)) (refQ a b) = divB a b ∧ (divB a b = true → sgnV (decide (a < 0) != decide (b < 0)) (refQ a b) = divQ a b ∧ refR a b = divR a b) := by
  obtain ⟨e1, e2⟩ := div_away a b h0
  obtain ⟨q1, q2, q3, q4⟩ := refQ_bd a b ha h0
  have hI := ediv_I64 a b ha h0
  by_cases hbad : a = -9223372036854775808 ∧ b = -1
  · obtain ⟨rfl, rfl⟩ := hbad
    rw [divB_no (.inr ⟨rfl, rfl⟩)]
    refine ⟨by decide, fun h => by cases h⟩
  · have hB : divB a b = true := divB_yes (by omega)
    have hI := hI hbad
    rw [hB]
    unfold divQ divR
    rw [hB, if_pos rfl, if_pos rfl, e1, e2]
    rw [e2] at hI
    by_cases h1 : a < 0 <;> by_cases h2 : b < 0
    · simp only [h1, h2, ne_eq, not_true, if_false, decide_true, bne_self_eq_false] at *
      unfold I64 at hI
      exact ⟨(sgn_up (by omega)).2, fun _ => ⟨(sgn_up (by omega)).1, trivial⟩⟩
    · rw [if_pos (by simp [h1, h2])]
      have : (decide (a < 0) != decide (b < 0)) = true := by simp [h1, h2]
      rw [this]
      exact ⟨(sgn_down (by omega)).2, fun _ => ⟨(sgn_down (by omega)).1, rfl⟩⟩
    · rw [if_pos (by simp [h1, h2])]
      have : (decide (a < 0) != decide (b < 0)) = true := by simp [h1, h2]
      rw [this]
      exact ⟨(sgn_down (by omega)).2, fun _ => ⟨(sgn_down (by omega)).1, rfl⟩⟩
    · have hx : ¬ ((a < 0) ≠ (b < 0)) := by simp [h1, h2]
      rw [if_neg hx] at hI ⊢
      have : (decide (a < 0) != decide (b < 0)) = false := by simp [h1, h2]
      rw [this]
      unfold I64 at hI
      exact ⟨(sgn_up (by omega)).2, fun _ => ⟨(sgn_up (by omega)).1, rfl⟩⟩

/-- the document's Lcm: numbers from the k-th on -/
theorem lcmGo_ref (z : Nat → Int) (k : Nat) (m : Int) (h1 : 1 ≤ m) (h2 : m ≤ 9223372036854775807) (hk : 1 ≤ z k) (hz : z k ≤ 9223372036854775807) :
    gcdF m (z k) = (Int.gcd m (z k) : Int) ∧ 1 ≤ gcdF m (z k) ∧ 1 ≤ z k / gcdF m (z k) ∧ z k / gcdF m (z k) ≤ z k := by
  obtain ⟨g1, g2, g3⟩ := gcd_pos_le m (z k) h1 h2
  rw [← g1] at g2 g3
  obtain ⟨d1, d2⟩ := div_le (z k) (gcdF m (z k)) g2 (by omega)
  have hs := (lcm_step m (z k) h1 hk).2.2.1
  rw [← g1] at hs
  refine ⟨g1, g2, ?_, d2⟩
  by_cases h0 : z k / gcdF m (z k) = 0
  · rw [h0, Int.mul_zero] at hs; omega
  · omega

end Go.Proofs.YthdmbikmjimmkaaGreatDoor.Plain
