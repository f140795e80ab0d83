/-
  One text: NTicks, NDivs, NGcds.
-/
import Derived.Test.YtibmgpinfdcaoaaGreatDoorG05
namespace Go.Proofs.YtibmgpinfdcaoaaGreatDoor.Plain
open Go Go.RowKit

/-- num.countBelow -/
def cbF (o p b : Int) : Int := if b ≤ o then 0 else (b - 1 - o) / p + 1
def nextV (o p f : Int) : Int :=
  if o < 0 ∨ p < 1 then 0 else if f ≤ o then o else if (f - o) % p = 0 then f else if 9223372036854775807 - f < p - (f - o) % p then 0 else f + (p - (f - o) % p)
def nextB (o p f : Int) : Bool :=
  if o < 0 ∨ p < 1 then false else if f ≤ o then true else if (f - o) % p = 0 then true else if 9223372036854775807 - f < p - (f - o) % p then false else true
def countV (o p f b : Int) : Int := if o < 0 ∨ p < 1 then 0 else if b ≤ f then 0 else cbF o p b - cbF o p f
def countB (o p : Int) : Bool := if o < 0 ∨ p < 1 then false else true

theorem div_is {x q p r : Int} (hp : 0 < p) (h : r + p * q = x) (h0 : 0 ≤ r) (h1 : r < p) : x / p = q :=
  ((Int.ediv_emod_unique hp).2 ⟨h, h0, h1⟩).1

/-- x = p * q + r -/
theorem split (x p : Int) (hp : 1 ≤ p) : x % p + p * (x / p) = x ∧ 0 ≤ x % p ∧ x % p < p :=
  ⟨Int.emod_add_mul_ediv x p, Int.emod_nonneg x (by omega), Int.emod_lt_of_pos x (by omega)⟩

theorem div_pred (x p : Int) (hp : 1 ≤ p) : (x - 1) / p = if x % p = 0 then x / p - 1 else x / p := by
  obtain ⟨h, h0, h1⟩ := split x p hp
  by_cases e : x % p = 0
  · rw [if_pos e]
    exact div_is (r := p - 1) (by omega) (by rw [Int.mul_sub]; omega) (by omega) (by omega)
  · rw [if_neg e]
    exact div_is (r := x % p - 1) (by omega) (by omega) (by omega) (by omega)

theorem cb_nonneg (o p b : Int) (hp : 1 ≤ p) : 0 ≤ cbF o p b := by
  unfold cbF; split
  · omega
  · have := Int.ediv_nonneg (a := b - 1 - o) (b := p) (by omega) (by omega); omega

theorem div_le (x p : Int) (hp : 1 ≤ p) (hx : 0 ≤ x) : 0 ≤ x / p ∧ x / p ≤ x :=
  ⟨Int.ediv_nonneg hx (by omega), Int.ediv_le_self p hx⟩

theorem cb_le (o p b : Int) (hp : 1 ≤ p) (ho : 0 ≤ o) (hb : b ≤ 9223372036854775807) : cbF o p b ≤ 9223372036854775807 := by
  unfold cbF; split
  · omega
  · have := (div_le (b - 1 - o) p hp (by omega)).2; omega

theorem cb_gt (o p b k : Int) (hp : 1 ≤ p) (hk : 0 ≤ k) : k < cbF o p b ↔ o + k * p < b := by
  unfold cbF
  have hm : 0 ≤ k * p := Int.mul_nonneg hk (by omega)
  split
  · omega
  · have := @Int.le_ediv_iff_mul_le k (b - 1 - o) p (by omega)
    omega

theorem cb_mono (o p b c : Int) (hp : 1 ≤ p) (h : b ≤ c) : cbF o p b ≤ cbF o p c := by
  apply Decidable.byContradiction
  intro hn
  have h1 := (cb_gt o p b (cbF o p c) hp (cb_nonneg o p c hp)).1 (by omega)
  have h2 := (cb_gt o p c (cbF o p c) hp (cb_nonneg o p c hp)).2 (by omega)
  omega

theorem next_at (o p f : Int) (ho : 0 ≤ o) (hp : 1 ≤ p) (h : nextB o p f = true) : nextV o p f = o + cbF o p f * p := by
  unfold nextB at h; unfold nextV cbF
  rw [if_neg (by omega)] at h ⊢
  by_cases h1 : f ≤ o
  · simp [h1]
  · simp only [h1, if_false] at h ⊢
    have hd := div_pred (f - o) p hp
    obtain ⟨hs, hs0, hs1⟩ := split (f - o) p hp
    rw [show f - 1 - o = f - o - 1 by omega, hd]
    have hc : (f - o) / p * p = p * ((f - o) / p) := Int.mul_comm _ _
    by_cases h2 : (f - o) % p = 0
    · simp only [h2, if_true]
      rw [show (f - o) / p - 1 + 1 = (f - o) / p by omega]
      omega
    · simp only [h2, if_false] at h ⊢
      split at h
      · cases h
      · rename_i h3
        simp only [h3, if_false]
        rw [Int.add_mul]
        omega

theorem next_yes (o p f : Int) (ho : 0 ≤ o) (ho2 : o ≤ 9223372036854775807) (hp : 1 ≤ p) (hf : f ≤ 9223372036854775807) (h : nextB o p f = true) :
    f ≤ nextV o p f ∧ o ≤ nextV o p f ∧ (nextV o p f - o) % p = 0 ∧ (nextV o p f - o < p ∨ nextV o p f - p < f) ∧ nextV o p f ≤ 9223372036854775807 := by
  have hat := next_at o p f ho hp h
  have hmod : (nextV o p f - o) % p = 0 := by
    rw [hat, show o + cbF o p f * p - o = cbF o p f * p by omega]; exact Int.mul_emod_left _ _
  refine ⟨?_, ?_, hmod, ?_, ?_⟩
  all_goals
    clear hat hmod
    unfold nextB at h; unfold nextV
    rw [if_neg (by omega)] at h ⊢
    have := Int.emod_nonneg (f - o) (b := p) (by omega)
    have := Int.emod_lt_of_pos (f - o) (b := p) (by omega)
    split
    · omega
    · rename_i h1; rw [if_neg h1] at h
      split
      · omega
      · rename_i h2; rw [if_neg h2] at h
        split
        · rename_i h3; rw [if_pos h3] at h; cases h
        · omega

theorem next_no (o p f : Int) (ho : 0 ≤ o) (hp : 1 ≤ p) (h : nextB o p f = false) : nextV o p f = 0 ∧ 9223372036854775807 - p < f := by
  unfold nextB at h; unfold nextV
  rw [if_neg (by omega)] at h ⊢
  have := Int.emod_nonneg (f - o) (b := p) (by omega)
  by_cases h1 : f ≤ o
  · simp [h1] at h
  · by_cases h2 : (f - o) % p = 0
    · simp [h1, h2] at h
    · by_cases h3 : 9223372036854775807 - f < p - (f - o) % p
      · rw [if_neg h1, if_neg h2, if_pos h3]; exact ⟨rfl, by omega⟩
      · simp [h1, h2, h3] at h

theorem count_of (o p f b : Int) (ho : 0 ≤ o) (hp : 1 ≤ p) (h : f < b) : countV o p f b = cbF o p b - cbF o p f := by
  unfold countV; rw [if_neg (by omega), if_neg (by omega)]
theorem count_zero (o p f b : Int) (h : b ≤ f) : countV o p f b = 0 := by
  unfold countV; rw [if_pos h]; split <;> rfl
theorem count_bd (o p f b : Int) (ho : 0 ≤ o) (hp : 1 ≤ p) (hb : b ≤ 9223372036854775807) : 0 ≤ countV o p f b ∧ countV o p f b ≤ 9223372036854775807 := by
  by_cases h : b ≤ f
  · rw [count_zero o p f b h]; omega
  · rw [count_of o p f b ho hp (by omega)]
    have := cb_mono o p f b hp (by omega)
    have := cb_nonneg o p f hp
    have := cb_le o p b hp ho hb
    omega
theorem count_sum (o p f m b : Int) (ho : 0 ≤ o) (hp : 1 ≤ p) (h1 : f ≤ m) (h2 : m ≤ b) : countV o p f m + countV o p m b = countV o p f b := by
  have e : ∀ x y, x ≤ y → countV o p x y = cbF o p y - cbF o p x := by
    intro x y h
    by_cases hx : x = y
    · subst hx; rw [count_zero _ _ _ _ (by omega)]; omega
    · exact count_of o p x y ho hp (by omega)
  rw [e f m h1, e m b h2, e f b (by omega)]; omega
theorem count_next (o p f b : Int) (ho : 0 ≤ o) (hp : 1 ≤ p) (h : f < b) (hk : nextB o p f = true) : nextV o p f < b ↔ 1 ≤ countV o p f b := by
  rw [count_of o p f b ho hp h, next_at o p f ho hp hk, ← cb_gt o p b (cbF o p f) hp (cb_nonneg o p f hp)]; omega
theorem count_one (o p f : Int) (ho : 0 ≤ o) (hp : 1 ≤ p) : countV o p f (f + 1) = if o ≤ f ∧ (f - o) % p = 0 then 1 else 0 := by
  rw [count_of o p f (f + 1) ho hp (by omega)]
  unfold cbF
  by_cases h1 : f + 1 ≤ o
  · rw [if_pos h1, if_pos (by omega), if_neg (by omega)]; omega
  · rw [if_neg h1, show f + 1 - 1 - o = f - o by omega]
    by_cases h2 : f ≤ o
    · have : f - o = 0 := by omega
      rw [if_pos h2, this, if_pos ⟨by omega, Int.zero_emod _⟩, Int.zero_ediv]; rfl
    · rw [if_neg h2, show f - 1 - o = f - o - 1 by omega, div_pred (f - o) p hp]
      by_cases h3 : (f - o) % p = 0
      · rw [if_pos h3, if_pos ⟨by omega, h3⟩]; omega
      · rw [if_neg h3, if_neg (fun h => h3 h.2)]; omega

end Go.Proofs.YtibmgpinfdcaoaaGreatDoor.Plain

namespace Go.Proofs.YtibmgpinfdcaoaaGreatDoor.Plain
open Go Go.RowKit

/-- num.Mul: the number -/
def mulV (a b : Int) : Int := if -9223372036854775808 ≤ a * b ∧ a * b ≤ 9223372036854775807 then a * b else 0
/-- num.Mul: whether there is one -/
def mulB (a b : Int) : Bool := if -9223372036854775808 ≤ a * b ∧ a * b ≤ 9223372036854775807 then true else false

theorem mulV_yes {a b : Int} (h : I64 (a * b)) : mulV a b = a * b := if_pos h
theorem mulB_yes {a b : Int} (h : I64 (a * b)) : mulB a b = true := if_pos h
theorem mulV_no {a b : Int} (h : ¬ I64 (a * b)) : mulV a b = 0 := if_neg h
theorem mulB_no {a b : Int} (h : ¬ I64 (a * b)) : mulB a b = false := if_neg h

theorem tmod_bd (m b : Int) (hb : b ≠ 0) : -(b.natAbs : Int) < m.tmod b ∧ m.tmod b < b.natAbs := by
  have h := Int.natAbs_tmod m b
  have := Nat.mod_lt m.natAbs (y := b.natAbs) (by omega)
  omega

/-- what a wrapped product divided back shows -/
theorem mul_wraps (a b : Int) (ha : I64 a) (hb : I64 b) (h0 : b ≠ 0) (hn : ¬ (a = -9223372036854775808 ∧ b = -1)) (h : ¬ I64 (a * b)) :
    (wrap64 ((wrap64 (a * b)).tdiv b) != a) = true := by
  simp only [bne_iff_ne]
  intro e
  have hm := wrap64_I64 (a * b)
  have hw : ∃ k : Int, wrap64 (a * b) = a * b - 18446744073709551616 * k := ⟨(a * b + 9223372036854775808) / 18446744073709551616, by unfold wrap64; omega⟩
  obtain ⟨k, hk⟩ := hw
  have hd := Int.mul_tdiv_add_tmod (wrap64 (a * b)) b
  have hr := tmod_bd (wrap64 (a * b)) b h0
  have hq := Int.natAbs_tdiv_le_natAbs (wrap64 (a * b)) b
  generalize wrap64 (a * b) = m at *
  generalize hqq : m.tdiv b = q at *
  generalize m.tmod b = r at *
  unfold I64 at *
  by_cases hbig : q = 9223372036854775808
  · have hmin : m = -9223372036854775808 := by omega
    have hbv : b = -1 := by
      rw [hbig, hmin] at hd
      omega
    have ha' : a = -9223372036854775808 := by
      rw [hbig] at e; unfold wrap64 at e; omega
    exact hn ⟨ha', hbv⟩
  · have hw : wrap64 q = q := by unfold wrap64; omega
    rw [hw] at e
    subst e
    have hc : q * b = b * q := Int.mul_comm _ _
    generalize q * b = t at *
    omega

theorem mul_back (a b : Int) (h0 : b ≠ 0) : (a * b).tdiv b = a := Int.mul_tdiv_cancel a h0

/-- Euclid's quotient of two int64 is one -/
theorem ediv_I64 (a b : Int) (ha : I64 a) (h0 : b ≠ 0) (hn : ¬ (a = -9223372036854775808 ∧ b = -1)) : I64 (a / b) := by
  unfold I64 at *
  by_cases hb : 0 < b
  · have h1 := @Int.le_ediv_iff_mul_le (-9223372036854775808) a b hb
    have h2 : a / b < 9223372036854775808 ↔ a < 9223372036854775808 * b := Int.ediv_lt_iff_lt_mul hb
    have h3 : -9223372036854775808 * b ≤ -9223372036854775808 := by omega
    have h4 : 9223372036854775808 ≤ 9223372036854775808 * b := by omega
    omega
  · obtain ⟨c, rfl⟩ : ∃ c, b = -c := ⟨-b, by omega⟩
    rw [Int.ediv_neg]
    have hc : 0 < c := by omega
    have h1 := @Int.le_ediv_iff_mul_le (-9223372036854775807) a c hc
    have h2 : a / c < 9223372036854775808 ↔ a < 9223372036854775808 * c := Int.ediv_lt_iff_lt_mul hc
    by_cases h5 : c = 1
    · subst h5; rw [Int.ediv_one]; omega
    · have h3 : -9223372036854775807 * c ≤ -9223372036854775808 := by omega
      have h4 : 9223372036854775808 ≤ 9223372036854775808 * c := by omega
      omega

/-- Go's quotient and rest, said by Euclid's -/
theorem div_cases (a b : Int) (h0 : b ≠ 0) :
    (a.tdiv b = a / b ∧ a.tmod b = a % b) ∨ (0 < b ∧ a % b < b ∧ a.tdiv b = a / b + 1 ∧ a.tmod b = a % b - b) ∨ (b < 0 ∧ a % b < -b ∧ a.tdiv b = a / b - 1 ∧ a.tmod b = a % b + b) := by
  have e1 := @Int.tdiv_eq_ediv a b
  have e2 := @Int.tmod_eq_emod a b
  by_cases h : 0 ≤ a ∨ b ∣ a
  · rw [if_pos h] at e1 e2; left; omega
  · rw [if_neg h] at e1 e2
    right
    have hl := Int.emod_lt a h0
    by_cases hb : 0 < b
    · left; rw [Int.sign_eq_one_of_pos hb] at e1; omega
    · right; rw [Int.sign_eq_neg_one_of_neg (by omega)] at e1; omega

/-- num.Div: whether there is a quotient -/
def divB (a b : Int) : Bool := if b = 0 ∨ (a = -9223372036854775808 ∧ b = -1) then false else true
def divQ (a b : Int) : Int := if divB a b then a / b else 0
def divR (a b : Int) : Int := if divB a b then a % b else 0

theorem divB_no {a b : Int} (h : b = 0 ∨ (a = -9223372036854775808 ∧ b = -1)) : divB a b = false := if_pos h
theorem divB_yes {a b : Int} (h : ¬ (b = 0 ∨ (a = -9223372036854775808 ∧ b = -1))) : divB a b = true := if_neg h
theorem divB_not {a b : Int} (h : divB a b = false) : b = 0 ∨ (a = -9223372036854775808 ∧ b = -1) := by
  apply Decidable.byContradiction; intro hn; rw [divB_yes hn] at h; cases h
theorem divB_is {a b : Int} (h : divB a b = true) : b ≠ 0 ∧ ¬ (a = -9223372036854775808 ∧ b = -1) := by
  apply Decidable.byContradiction; intro hn; rw [divB_no (by omega)] at h; cases h

theorem addV_comm {a b : Int} (ha : I64 a) (hb : I64 b) : addV b a = addV a b := by
  by_cases h : I64 (a + b)
  · rw [addV_yes ha hb h, addV_yes hb ha (by rw [Int.add_comm]; exact h), Int.add_comm]
  · rw [addV_no ha hb h, addV_no hb ha (by rw [Int.add_comm]; exact h)]
theorem addB_comm {a b : Int} (ha : I64 a) (hb : I64 b) : addB b a = addB a b := by
  by_cases h : I64 (a + b)
  · rw [addB_yes ha hb h, addB_yes hb ha (by rw [Int.add_comm]; exact h)]
  · rw [addB_no ha hb h, addB_no hb ha (by rw [Int.add_comm]; exact h)]
theorem sub_back {a b : Int} (ha : I64 a) (hb : I64 b) (h : addB a b = true) : subV (addV a b) b = a ∧ subB (addV a b) b = true := by
  by_cases hf : I64 (a + b)
  · have e : a + b - b = a := by omega
    rw [addV_yes ha hb hf, subV_yes hf hb (by rw [e]; exact ha), subB_yes hf hb (by rw [e]; exact ha), e]; exact ⟨rfl, rfl⟩
  · rw [addB_no ha hb hf] at h; cases h
theorem mulV_comm (a b : Int) : mulV b a = mulV a b := by unfold mulV; rw [Int.mul_comm]
theorem mulB_comm (a b : Int) : mulB b a = mulB a b := by unfold mulB; rw [Int.mul_comm]
theorem mulV_I64 (a b : Int) : I64 (mulV a b) := by
  by_cases h : I64 (a * b)
  · rw [mulV_yes h]; exact h
  · rw [mulV_no h]; unfold I64; omega
theorem div_back {a b : Int} (ha : I64 a) (h0 : b ≠ 0) (h : mulB a b = true) : divQ (mulV a b) b = a ∧ divR (mulV a b) b = 0 ∧ divB (mulV a b) b = true := by
  by_cases hf : I64 (a * b)
  · rw [mulV_yes hf]
    have hy : divB (a * b) b = true := divB_yes (by
      rintro (h | ⟨h1, rfl⟩)
      · exact h0 h
      · unfold I64 at ha; omega)
    refine ⟨?_, ?_, hy⟩
    · unfold divQ; rw [if_pos hy]; exact Int.mul_ediv_cancel a h0
    · unfold divR; rw [if_pos hy]; exact Int.mul_emod_left a b
  · rw [mulB_no hf] at h; cases h
theorem div_facts {a b : Int} (ha : I64 a) (h : divB a b = true) :
    b ≠ 0 ∧ 0 ≤ divR a b ∧ (b < 0 ∨ divR a b < b) ∧ (0 < b ∨ divR a b < -b) ∧ wrap64 (wrap64 (divQ a b * b) + divR a b) = a := by
  obtain ⟨h0, hn⟩ := divB_is h
  unfold divR divQ
  rw [if_pos h, if_pos h]
  have h1 := Int.emod_nonneg a h0
  have h2 := Int.emod_lt a h0
  have h3 := Int.emod_add_mul_ediv a b
  rw [Int.mul_comm] at h3
  generalize a / b * b = t at *
  generalize a % b = r at *
  unfold I64 wrap64 at *
  omega

end Go.Proofs.YtibmgpinfdcaoaaGreatDoor.Plain

namespace Go.Proofs.YtibmgpinfdcaoaaGreatDoor.Plain
open Go Go.RowKit

/-- num.Gcd -/
def gcdF (a b : Int) : Int := if (Int.gcd a b : Int) ≤ 9223372036854775807 then (Int.gcd a b : Int) else 0

theorem gcd_step (a b : Int) : Int.gcd b (a.tmod b) = Int.gcd a b := by
  unfold Int.gcd
  rw [Int.natAbs_tmod, Nat.gcd_comm, ← Nat.gcd_rec, Nat.gcd_comm]
theorem gcd_zero (a : Int) : Int.gcd a 0 = a.natAbs := by unfold Int.gcd; simp

theorem tmod_I64 (a b : Int) (ha : I64 a) : I64 (a.tmod b) := by
  have h := Int.natAbs_tmod a b
  have := Nat.mod_le a.natAbs b.natAbs
  unfold I64 at *
  by_cases h0 : 0 ≤ a
  · have := Int.tmod_nonneg b h0
    omega
  · have h1 := Int.tmod_nonneg b (a := -a) (by omega)
    rw [Int.neg_tmod] at h1
    omega
theorem tmod_lt (a b : Int) (hb : b ≠ 0) : (a.tmod b).natAbs < b.natAbs := by
  rw [Int.natAbs_tmod]; exact Nat.mod_lt _ (by omega)

theorem gcd_le (a b : Int) (ha : I64 a) (hb : I64 b) : (Int.gcd a b : Int) ≤ 9223372036854775808 := by
  unfold I64 at *
  by_cases h : a = 0
  · subst h; unfold Int.gcd; simp; omega
  · have := Nat.le_of_dvd (by omega) (Nat.gcd_dvd_left a.natAbs b.natAbs)
    unfold Int.gcd; omega
theorem gcdF_nonneg (a b : Int) : 0 ≤ gcdF a b := by unfold gcdF; split <;> omega
theorem gcdF_le (a b : Int) : gcdF a b ≤ 9223372036854775807 := by unfold gcdF; split <;> omega

/-- what the end of num.Gcd makes of the last number -/
theorem gcdF_end (a b x : Int) (hx : I64 x) (h : Int.gcd x 0 = Int.gcd a b) : gcdF a b = if x = -9223372036854775808 then 0 else if x < 0 then -x else x := by
  rw [gcd_zero] at h
  unfold gcdF
  rw [← h]
  unfold I64 at hx
  split <;> split <;> (try split) <;> omega

theorem tmod_zero_iff (a b : Int) : a.tmod b = 0 ↔ b.natAbs ∣ a.natAbs := by
  have h := Int.natAbs_tmod a b
  rw [Nat.dvd_iff_mod_eq_zero, ← h]; omega

theorem gcdF_div (a b : Int) (h : gcdF a b ≠ 0) : a.tmod (gcdF a b) = 0 ∧ b.tmod (gcdF a b) = 0 := by
  unfold gcdF at *
  split at h
  · rename_i hc
    rw [if_pos hc, tmod_zero_iff, tmod_zero_iff, Int.natAbs_natCast]
    exact ⟨Nat.gcd_dvd_left _ _, Nat.gcd_dvd_right _ _⟩
  · exact absurd rfl h

theorem gcdF_great (a b d : Int) (h : gcdF a b ≠ 0) (h1 : a.tmod d = 0) (h2 : b.tmod d = 0) : (gcdF a b).tmod d = 0 := by
  unfold gcdF at *
  split at h
  · rename_i hc
    rw [tmod_zero_iff] at h1 h2
    rw [if_pos hc, tmod_zero_iff, Int.natAbs_natCast]
    exact Nat.dvd_gcd h1 h2
  · exact absurd rfl h

theorem gcdF_zero (a b : Int) (ha : I64 a) (hb : I64 b) (h : gcdF a b = 0) : (a = 0 ∨ a = -9223372036854775808) ∧ (b = 0 ∨ b = -9223372036854775808) := by
  have hl := gcd_le a b ha hb
  have d1 := Nat.gcd_dvd_left a.natAbs b.natAbs
  have d2 := Nat.gcd_dvd_right a.natAbs b.natAbs
  have hg : Int.gcd a b = Nat.gcd a.natAbs b.natAbs := rfl
  unfold gcdF at h
  split at h
  · have h0 : Nat.gcd a.natAbs b.natAbs = 0 := by omega
    have := Nat.eq_zero_of_gcd_eq_zero_left h0
    have := Nat.eq_zero_of_gcd_eq_zero_right h0
    omega
  · have h0 : Nat.gcd a.natAbs b.natAbs = 9223372036854775808 := by omega
    rw [h0] at d1 d2
    unfold I64 at *
    omega

theorem gcd_pos_le (m x : Int) (hm : 1 ≤ m) (hm2 : m ≤ 9223372036854775807) : gcdF m x = (Int.gcd m x : Int) ∧ 1 ≤ (Int.gcd m x : Int) ∧ (Int.gcd m x : Int) ≤ m := by
  have h1 := Nat.le_of_dvd (by omega) (Nat.gcd_dvd_left m.natAbs x.natAbs)
  have h2 := Nat.gcd_pos_of_pos_left x.natAbs (m := m.natAbs) (by omega)
  have hg : Int.gcd m x = Nat.gcd m.natAbs x.natAbs := rfl
  unfold gcdF
  rw [if_pos (by omega)]
  omega

/-- num.Lcm's loop: n numbers are left, from the k-th on; m so far -/
def lcmGo (most : Int) (z : Nat → Int) : Nat → Nat → Int → Int
  | 0, _, m => m
  | n + 1, k, m => if z k < 1 ∨ most / m < z k / (Int.gcd m (z k) : Int) then 0 else lcmGo most z n (k + 1) (m * (z k / (Int.gcd m (z k) : Int)))
def lcmV (z : Nat → Int) (len : Nat) (most : Int) : Int := if most < 1 then 0 else lcmGo most z len 0 1
def lcmB (z : Nat → Int) (len : Nat) (most : Int) : Bool := decide (0 < lcmV z len most)

theorem lcmGo_no {most m : Int} {z : Nat → Int} {n k : Nat} (h : z k < 1 ∨ most / m < z k / (Int.gcd m (z k) : Int)) : lcmGo most z (n + 1) k m = 0 := by
  rw [lcmGo, if_pos h]
theorem lcmGo_yes {most m : Int} {z : Nat → Int} {n k : Nat} (h : ¬ (z k < 1 ∨ most / m < z k / (Int.gcd m (z k) : Int))) : lcmGo most z (n + 1) k m = lcmGo most z n (k + 1) (m * (z k / (Int.gcd m (z k) : Int))) := by
  rw [lcmGo, if_neg h]

/-- the step: m and x lie in it, and it in whatever both lie in -/
theorem lcm_step (m x : Int) (hm : 1 ≤ m) (hx : 1 ≤ x) :
    m ∣ m * (x / (Int.gcd m x : Int)) ∧ x ∣ m * (x / (Int.gcd m x : Int)) ∧ 1 ≤ m * (x / (Int.gcd m x : Int)) ∧ ∀ t, m ∣ t → x ∣ t → m * (x / (Int.gcd m x : Int)) ∣ t := by
  obtain ⟨M, rfl⟩ := Int.eq_ofNat_of_zero_le (show 0 ≤ m by omega)
  obtain ⟨X, rfl⟩ := Int.eq_ofNat_of_zero_le (show 0 ≤ x by omega)
  have hg : Int.gcd (M : Int) (X : Int) = Nat.gcd M X := by simp [Int.gcd]
  have e : ((M : Int) * ((X : Int) / (Int.gcd (M : Int) (X : Int) : Int))) = ((Nat.lcm M X : Nat) : Int) := by
    rw [hg, ← Int.natCast_ediv, ← Int.natCast_mul]
    congr 1
    unfold Nat.lcm
    exact (Nat.mul_div_assoc M (Nat.gcd_dvd_right M X)).symm
  rw [e]
  refine ⟨Int.natCast_dvd_natCast.2 (Nat.dvd_lcm_left M X), Int.natCast_dvd_natCast.2 (Nat.dvd_lcm_right M X), ?_, ?_⟩
  · have := Nat.lcm_pos (m := M) (n := X) (by omega) (by omega)
    omega
  · intro t h1 h2
    rw [← Int.natAbs_dvd_natAbs] at h1 h2 ⊢
    simp only [Int.natAbs_natCast] at h1 h2 ⊢
    exact Nat.lcm_dvd h1 h2

theorem lcm_fit (most m s : Int) (hm : 1 ≤ m) : most / m < s ↔ most < m * s := by
  have := Int.ediv_lt_iff_lt_mul (a := most) (b := s) (c := m) (by omega)
  rw [this, Int.mul_comm]

/-- what num.Lcm's loop tells -/
theorem lcmGo_facts (most : Int) (z : Nat → Int) : ∀ (n k : Nat) (m : Int), 1 ≤ m → m ≤ most →
    0 ≤ lcmGo most z n k m ∧ lcmGo most z n k m ≤ most ∧
    (0 < lcmGo most z n k m → m ∣ lcmGo most z n k m ∧ ∀ i, k ≤ i → i < k + n → 1 ≤ z i ∧ z i ∣ lcmGo most z n k m) ∧
    (∀ t, 1 ≤ t → t ≤ most → m ∣ t → (∀ i, k ≤ i → i < k + n → 1 ≤ z i ∧ z i ∣ t) → 0 < lcmGo most z n k m ∧ lcmGo most z n k m ∣ t)
  | 0, k, m, h1, h2 => by
    unfold lcmGo
    exact ⟨by omega, by omega, fun _ => ⟨Int.dvd_refl m, fun i a b => absurd b (by omega)⟩, fun t _ _ h _ => ⟨by omega, h⟩⟩
  | n + 1, k, m, h1, h2 => by
    by_cases h : z k < 1 ∨ most / m < z k / (Int.gcd m (z k) : Int)
    · rw [lcmGo_no h]
      refine ⟨by omega, by omega, fun h => absurd h (by omega), fun t t1 t2 hmt hz => ?_⟩
      exfalso
      obtain ⟨hk1, hk2⟩ := hz k (Nat.le_refl _) (by omega)
      obtain ⟨_, _, hs1, hs2⟩ := lcm_step m (z k) h1 hk1
      have hd := hs2 t hmt hk2
      have hle := Int.le_of_dvd (by omega) hd
      rcases h with h | h
      · omega
      · rw [lcm_fit most m _ h1] at h
        omega
    · rw [lcmGo_yes h]
      have hk1 : 1 ≤ z k := by omega
      obtain ⟨s1, s2, s3, s4⟩ := lcm_step m (z k) h1 hk1
      have hle : m * (z k / (Int.gcd m (z k) : Int)) ≤ most := by
        have := lcm_fit most m (z k / (Int.gcd m (z k) : Int)) h1
        omega
      obtain ⟨r1, r2, r3, r4⟩ := lcmGo_facts most z n (k + 1) _ s3 hle
      refine ⟨r1, r2, fun hp => ?_, fun t t1 t2 hmt hz => ?_⟩
      · obtain ⟨q1, q2⟩ := r3 hp
        refine ⟨Int.dvd_trans s1 q1, fun i a b => ?_⟩
        by_cases hi : i = k
        · subst hi; exact ⟨hk1, Int.dvd_trans s2 q1⟩
        · exact q2 i (by omega) (by omega)
      · exact r4 t t1 t2 (s4 t hmt (hz k (Nat.le_refl _) (by omega)).2) (fun i a b => hz i (by omega) (by omega))

theorem lcmV_facts (z : Nat → Int) (len : Nat) (most : Int) :
    0 ≤ lcmV z len most ∧ (0 < lcmV z len most → lcmV z len most ≤ most ∧ ∀ i, i < len → 1 ≤ z i ∧ z i ∣ lcmV z len most) ∧
    (∀ t, 1 ≤ t → t ≤ most → (∀ i, i < len → 1 ≤ z i ∧ z i ∣ t) → 0 < lcmV z len most ∧ lcmV z len most ∣ t) := by
  unfold lcmV
  by_cases h : most < 1
  · rw [if_pos h]; exact ⟨by omega, fun h => absurd h (by omega), fun t _ _ _ => by omega⟩
  · rw [if_neg h]
    obtain ⟨r1, r2, r3, r4⟩ := lcmGo_facts most z len 0 1 (by omega) (by omega)
    exact ⟨r1, fun hp => ⟨r2, fun i hi => (r3 hp).2 i (by omega) (by omega)⟩, fun t t1 t2 hz => r4 t t1 t2 (Int.one_dvd t) (fun i _ b => hz i (by omega))⟩

end Go.Proofs.YtibmgpinfdcaoaaGreatDoor.Plain
