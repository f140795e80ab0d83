/-
  One text: NPlain, NTicks.
-/
import Derived.Laws.Entries
import Derived.RowKit
import Derived.IntWalk
namespace Go.Proofs.YthdmbikmjimmkaaGreatDoor.Plain
open Go Go.RowKit

/-- an int64's bounds -/
def I64 (x : Int) : Prop := -9223372036854775808 ≤ x ∧ x ≤ 9223372036854775807

theorem wrap_bv (v : BitVec 64) : IntKind.i64.wrap (v.toNat : Int) = v.toInt := by
  have := v.isLt
  rw [IntWalk.i64_left, BitVec.toInt_eq_toNat_cond]
  unfold wrap64
  simp only [Nat.reducePow] at *
  split <;> omega

theorem bv_msb (x : Int) (h : I64 x) : (BitVec.ofInt 64 x).msb = decide (x < 0) := by
  rw [BitVec.msb_eq_toInt, BitVec.toInt_ofInt]
  have : x.bmod (2 ^ 64) = x := by
    unfold I64 at h; unfold Int.bmod; simp only [Nat.reducePow]; split <;> omega
  rw [this]

theorem bits_of (v : BitVec 64) : IntKind.i64.wrap (v.toNat : Int) < 0 ↔ v.msb = true := by
  rw [wrap_bv, BitVec.msb_eq_toInt]; simp

theorem and_neg (x y : Int) (hx : I64 x) (hy : I64 y) : bits .and .i64 x y < 0 ↔ (x < 0 ∧ y < 0) := by
  show IntKind.i64.wrap ((BitVec.ofInt 64 x &&& BitVec.ofInt 64 y).toNat : Int) < 0 ↔ _
  rw [bits_of, BitVec.msb_and, bv_msb x hx, bv_msb y hy]; simp

theorem xor_neg (x y : Int) (hx : I64 x) (hy : I64 y) : bits .xor .i64 x y < 0 ↔ ¬ (x < 0 ↔ y < 0) := by
  show IntKind.i64.wrap ((BitVec.ofInt 64 x ^^^ BitVec.ofInt 64 y).toNat : Int) < 0 ↔ _
  rw [bits_of, BitVec.msb_xor, bv_msb x hx, bv_msb y hy]
  by_cases h1 : x < 0 <;> by_cases h2 : y < 0 <;> simp [h1, h2]

theorem bits_I64 (op : BinOp) (x y : Int) : I64 (bits op .i64 x y) := by
  unfold bits; simp only [IntWalk.i64_left]; unfold wrap64 I64; omega

theorem wrap64_I64 (n : Int) : I64 (wrap64 n) := by unfold wrap64 I64; omega

theorem sums (a b s : Int) (ha : I64 a) (hb : I64 b) (hs : I64 s) : bits .and .i64 (bits .xor .i64 a s) (bits .xor .i64 b s) < 0 ↔ (¬ (a < 0 ↔ s < 0) ∧ ¬ (b < 0 ↔ s < 0)) := by
  rw [and_neg _ _ (bits_I64 _ _ _) (bits_I64 _ _ _), xor_neg a s ha hs, xor_neg b s hb hs]

theorem add_fits (a b : Int) (ha : I64 a) (hb : I64 b) (h : I64 (a + b)) : ¬ bits .and .i64 (bits .xor .i64 a (a + b)) (bits .xor .i64 b (a + b)) < 0 := by
  rw [sums a b _ ha hb h]; unfold I64 at *; omega

theorem add_wraps (a b : Int) (ha : I64 a) (hb : I64 b) (h : ¬ I64 (a + b)) : bits .and .i64 (bits .xor .i64 a (wrap64 (a + b))) (bits .xor .i64 b (wrap64 (a + b))) < 0 := by
  rw [sums a b _ ha hb (wrap64_I64 _)]; unfold I64 wrap64 at *; omega

theorem sub_fits (a b : Int) (ha : I64 a) (hb : I64 b) (h : I64 (a - b)) : ¬ bits .and .i64 (bits .xor .i64 a b) (bits .xor .i64 a (a - b)) < 0 := by
  rw [and_neg _ _ (bits_I64 _ _ _) (bits_I64 _ _ _), xor_neg a b ha hb, xor_neg a _ ha h]; unfold I64 at *; omega

theorem sub_wraps (a b : Int) (ha : I64 a) (hb : I64 b) (h : ¬ I64 (a - b)) : bits .and .i64 (bits .xor .i64 a b) (bits .xor .i64 a (wrap64 (a - b))) < 0 := by
  rw [and_neg _ _ (bits_I64 _ _ _) (bits_I64 _ _ _), xor_neg a b ha hb, xor_neg a _ ha (wrap64_I64 _)]; unfold I64 wrap64 at *; omega

/-- num.Later -/
def laterF (t n : Int) : Int := if t < 0 ∨ 1099511627776 ≤ t ∨ n < 0 ∨ 1099511627776 - t ≤ n then -1 else t + n
/-- num.Add: the number -/
def addV (a b : Int) : Int := if bits .and .i64 (bits .xor .i64 a (wrap64 (a + b))) (bits .xor .i64 b (wrap64 (a + b))) < 0 then 0 else wrap64 (a + b)
/-- num.Add: whether there is one -/
def addB (a b : Int) : Bool := if bits .and .i64 (bits .xor .i64 a (wrap64 (a + b))) (bits .xor .i64 b (wrap64 (a + b))) < 0 then false else true
def subV (a b : Int) : Int := if bits .and .i64 (bits .xor .i64 a b) (bits .xor .i64 a (wrap64 (a - b))) < 0 then 0 else wrap64 (a - b)
def subB (a b : Int) : Bool := if bits .and .i64 (bits .xor .i64 a b) (bits .xor .i64 a (wrap64 (a - b))) < 0 then false else true

theorem laterF_no {t n : Int} (h : t < 0 ∨ 1099511627776 ≤ t ∨ n < 0 ∨ 1099511627776 ≤ t + n) : laterF t n = -1 := if_pos (by omega)
theorem laterF_yes {t n : Int} (h1 : 0 ≤ t) (h2 : 0 ≤ n) (h3 : t + n < 1099511627776) : laterF t n = t + n := if_neg (by omega)

theorem wrap_in {n : Int} (h : I64 n) : wrap64 n = n := IntWalk.wrap64_in n h
theorem addV_yes {a b : Int} (ha : I64 a) (hb : I64 b) (h : I64 (a + b)) : addV a b = a + b := by
  unfold addV; rw [wrap_in h]; exact if_neg (add_fits a b ha hb h)
theorem addB_yes {a b : Int} (ha : I64 a) (hb : I64 b) (h : I64 (a + b)) : addB a b = true := by
  unfold addB; rw [wrap_in h]; exact if_neg (add_fits a b ha hb h)
theorem addV_no {a b : Int} (ha : I64 a) (hb : I64 b) (h : ¬ I64 (a + b)) : addV a b = 0 := if_pos (add_wraps a b ha hb h)
theorem addB_no {a b : Int} (ha : I64 a) (hb : I64 b) (h : ¬ I64 (a + b)) : addB a b = false := if_pos (add_wraps a b ha hb h)
theorem subV_yes {a b : Int} (ha : I64 a) (hb : I64 b) (h : I64 (a - b)) : subV a b = a - b := by
  unfold subV; rw [wrap_in h]; exact if_neg (sub_fits a b ha hb h)
theorem subB_yes {a b : Int} (ha : I64 a) (hb : I64 b) (h : I64 (a - b)) : subB a b = true := by
  unfold subB; rw [wrap_in h]; exact if_neg (sub_fits a b ha hb h)
theorem subV_no {a b : Int} (ha : I64 a) (hb : I64 b) (h : ¬ I64 (a - b)) : subV a b = 0 := if_pos (sub_wraps a b ha hb h)
theorem subB_no {a b : Int} (ha : I64 a) (hb : I64 b) (h : ¬ I64 (a - b)) : subB a b = false := if_pos (sub_wraps a b ha hb h)

theorem wf_I64 {x : Int} (h : (Lit.int .i64 x).wf = true) : I64 x := by
  simp [Lit.wf, IntKind.min, IntKind.max, IntKind.signed, IntKind.bits] at h
  unfold I64; omega

end Go.Proofs.YthdmbikmjimmkaaGreatDoor.Plain

namespace Go.Proofs.YthdmbikmjimmkaaGreatDoor.Plain
open Go Go.RowKit

/-- num.countBelow -/
def cbF (o p b : Int) : Int := if b ≤ o then 0 else (b - 1 - o) / p + 1
def nextV (o p f : Int) : Int :=
  if o < 0 ∨ p < 1 then 0 else if f ≤ o then o else if (f - o) % p = 0 then f else if 9223372036854775807 - f < p - (f - o) % p then 0 else f + (p - (f - o) % p)
def nextB (o p f : Int) : Bool :=
  if o < 0 ∨ p < 1 then false else if f ≤ o then true else if (f - o) % p = 0 then true else if 9223372036854775807 - f < p - (f - o) % p then false else true
def countV (o p f b : Int) : Int := if o < 0 ∨ p < 1 then 0 else if b ≤ f then 0 else cbF o p b - cbF o p f
def countB (o p : Int) : Bool := if o < 0 ∨ p < 1 then false else true

theorem div_is {x q p r : Int} (hp : 0 < p) (h : r + p * q = x) (h0 : 0 ≤ r) (h1 : r < p) : x / p = q :=
  ((Int.ediv_emod_unique hp).2 ⟨h, h0, h1⟩).1

/-- x = p * q + r -/
theorem split (x p : Int) (hp : 1 ≤ p) : x % p + p * (x / p) = x ∧ 0 ≤ x % p ∧ x % p < p :=
  ⟨Int.emod_add_mul_ediv x p, Int.emod_nonneg x (by omega), Int.emod_lt_of_pos x (by omega)⟩

theorem div_pred (x p : Int) (hp : 1 ≤ p) : (x - 1) / p = if x % p = 0 then x / p - 1 else x / p := by
  obtain ⟨h, h0, h1⟩ := split x p hp
  by_cases e : x % p = 0
  · rw [if_pos e]
    exact div_is (r := p - 1) (by omega) (by rw [Int.mul_sub]; omega) (by omega) (by omega)
  · rw [if_neg e]
    exact div_is (r := x % p - 1) (by omega) (by omega) (by omega) (by omega)

theorem cb_nonneg (o p b : Int) (hp : 1 ≤ p) : 0 ≤ cbF o p b := by
  unfold cbF; split
  · omega
  · have := Int.ediv_nonneg (a := b - 1 - o) (b := p) (by omega) (by omega); omega

theorem div_le (x p : Int) (hp : 1 ≤ p) (hx : 0 ≤ x) : 0 ≤ x / p ∧ x / p ≤ x :=
  ⟨Int.ediv_nonneg hx (by omega), Int.ediv_le_self p hx⟩

theorem cb_le (o p b : Int) (hp : 1 ≤ p) (ho : 0 ≤ o) (hb : b ≤ 9223372036854775807) : cbF o p b ≤ 9223372036854775807 := by
  unfold cbF; split
  · omega
  · have := (div_le (b - 1 - o) p hp (by omega)).2; omega

theorem cb_gt (o p b k : Int) (hp : 1 ≤ p) (hk : 0 ≤ k) : k < cbF o p b ↔ o + k * p < b := by
  unfold cbF
  have hm : 0 ≤ k * p := Int.mul_nonneg hk (by omega)
  split
  · omega
  · have := @Int.le_ediv_iff_mul_le k (b - 1 - o) p (by omega)
    omega

theorem cb_mono (o p b c : Int) (hp : 1 ≤ p) (h : b ≤ c) : cbF o p b ≤ cbF o p c := by
  apply Decidable.byContradiction
  intro hn
  have h1 := (cb_gt o p b (cbF o p c) hp (cb_nonneg o p c hp)).1 (by omega)
  have h2 := (cb_gt o p c (cbF o p c) hp (cb_nonneg o p c hp)).2 (by omega)
  omega

theorem next_at (o p f : Int) (ho : 0 ≤ o) (hp : 1 ≤ p) (h : nextB o p f = true) : nextV o p f = o + cbF o p f * p := by
  unfold nextB at h; unfold nextV cbF
  rw [if_neg (by omega)] at h ⊢
  by_cases h1 : f ≤ o
  · simp [h1]
  · simp only [h1, if_false] at h ⊢
    have hd := div_pred (f - o) p hp
    obtain ⟨hs, hs0, hs1⟩ := split (f - o) p hp
    rw [show f - 1 - o = f - o - 1 by omega, hd]
    have hc : (f - o) / p * p = p * ((f - o) / p) := Int.mul_comm _ _
    by_cases h2 : (f - o) % p = 0
    · simp only [h2, if_true]
      rw [show (f - o) / p - 1 + 1 = (f - o) / p by omega]
      omega
    · simp only [h2, if_false] at h ⊢
      split at h
      · cases h
      · rename_i h3
        simp only [h3, if_false]
        rw [Int.add_mul]
        omega

theorem next_yes (o p f : Int) (ho : 0 ≤ o) (ho2 : o ≤ 9223372036854775807) (hp : 1 ≤ p) (hf : f ≤ 9223372036854775807) (h : nextB o p f = true) :
    f ≤ nextV o p f ∧ o ≤ nextV o p f ∧ (nextV o p f - o) % p = 0 ∧ (nextV o p f - o < p ∨ nextV o p f - p < f) ∧ nextV o p f ≤ 9223372036854775807 := by
  have hat := next_at o p f ho hp h
  have hmod : (nextV o p f - o) % p = 0 := by
    rw [hat, show o + cbF o p f * p - o = cbF o p f * p by omega]; exact Int.mul_emod_left _ _
  refine ⟨?_, ?_, hmod, ?_, ?_⟩
  all_goals
    clear hat hmod
    unfold nextB at h; unfold nextV
    rw [if_neg (by omega)] at h ⊢
    have := Int.emod_nonneg (f - o) (b := p) (by omega)
    have := Int.emod_lt_of_pos (f - o) (b := p) (by omega)
    split
    · omega
    · rename_i h1; rw [if_neg h1] at h
      split
      · omega
      · rename_i h2; rw [if_neg h2] at h
        split
        · rename_i h3; rw [if_pos h3] at h; cases h
        · omega

theorem next_no (o p f : Int) (ho : 0 ≤ o) (hp : 1 ≤ p) (h : nextB o p f = false) : nextV o p f = 0 ∧ 9223372036854775807 - p < f := by
  unfold nextB at h; unfold nextV
  rw [if_neg (by omega)] at h ⊢
  have := Int.emod_nonneg (f - o) (b := p) (by omega)
  by_cases h1 : f ≤ o
  · simp [h1] at h
  · by_cases h2 : (f - o) % p = 0
    · simp [h1, h2] at h
    · by_cases h3 : 9223372036854775807 - f < p - (f - o) % p
      · rw [if_neg h1, if_neg h2, if_pos h3]; exact ⟨rfl, by omega⟩
      · simp [h1, h2, h3] at h

theorem count_of (o p f b : Int) (ho : 0 ≤ o) (hp : 1 ≤ p) (h : f < b) : countV o p f b = cbF o p b - cbF o p f := by
  unfold countV; rw [if_neg (by omega), if_neg (by omega)]
theorem count_zero (o p f b : Int) (h : b ≤ f) : countV o p f b = 0 := by
  unfold countV; rw [if_pos h]; split <;> rfl
theorem count_bd (o p f b : Int) (ho : 0 ≤ o) (hp : 1 ≤ p) (hb : b ≤ 9223372036854775807) : 0 ≤ countV o p f b ∧ countV o p f b ≤ 9223372036854775807 := by
  by_cases h : b ≤ f
  · rw [count_zero o p f b h]; omega
  · rw [count_of o p f b ho hp (by omega)]
    have := cb_mono o p f b hp (by omega)
    have := cb_nonneg o p f hp
    have := cb_le o p b hp ho hb
    omega
theorem count_sum (o p f m b : Int) (ho : 0 ≤ o) (hp : 1 ≤ p) (h1 : f ≤ m) (h2 : m ≤ b) : countV o p f m + countV o p m b = countV o p f b := by
  have e : ∀ x y, x ≤ y → countV o p x y = cbF o p y - cbF o p x := by
    intro x y h
    by_cases hx : x = y
    · subst hx; rw [count_zero _ _ _ _ (by omega)]; omega
    · exact count_of o p x y ho hp (by omega)
  rw [e f m h1, e m b h2, e f b (by omega)]; omega
theorem count_next (o p f b : Int) (ho : 0 ≤ o) (hp : 1 ≤ p) (h : f < b) (hk : nextB o p f = true) : nextV o p f < b ↔ 1 ≤ countV o p f b := by
  rw [count_of o p f b ho hp h, next_at o p f ho hp hk, ← cb_gt o p b (cbF o p f) hp (cb_nonneg o p f hp)]; omega
theorem count_one (o p f : Int) (ho : 0 ≤ o) (hp : 1 ≤ p) : countV o p f (f + 1) = if o ≤ f ∧ (f - o) % p = 0 then 1 else 0 := by
  rw [count_of o p f (f + 1) ho hp (by omega)]
  unfold cbF
  by_cases h1 : f + 1 ≤ o
  · rw [if_pos h1, if_pos (by omega), if_neg (by omega)]; omega
  · rw [if_neg h1, show f + 1 - 1 - o = f - o by omega]
    by_cases h2 : f ≤ o
    · have : f - o = 0 := by omega
      rw [if_pos h2, this, if_pos ⟨by omega, Int.zero_emod _⟩, Int.zero_ediv]; rfl
    · rw [if_neg h2, show f - 1 - o = f - o - 1 by omega, div_pred (f - o) p hp]
      by_cases h3 : (f - o) % p = 0
      · rw [if_pos h3, if_pos ⟨by omega, h3⟩]; omega
      · rw [if_neg h3, if_neg (fun h => h3 h.2)]; omega

end Go.Proofs.YthdmbikmjimmkaaGreatDoor.Plain
