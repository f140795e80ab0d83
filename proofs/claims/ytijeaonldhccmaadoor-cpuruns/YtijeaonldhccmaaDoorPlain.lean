/-
  Plain mathematics of the words: no dump.
-/
import Derived.RowKit
import Derived.WalkKit
namespace Go.Proofs.YtijeaonldhccmaaDoor
open Go Go.RowKit
set_option linter.unusedVariables false

/-- an int64 -/
def I6 (x : Int) : Prop := -9223372036854775808 ≤ x ∧ x ≤ 9223372036854775807
theorem w6 (x : Int) : I6 (wrap64 x) := by unfold I6 wrap64; omega
theorem w6_id {x : Int} (h : I6 x) : wrap64 x = x := by unfold I6 at h; unfold wrap64; omega
theorem w6_off (x : Int) : ∃ k : Int, wrap64 x = x - 18446744073709551616 * k := ⟨(x + 9223372036854775808) / 18446744073709551616, by unfold wrap64; omega⟩
theorem w6_add (x k : Int) : wrap64 (x + 18446744073709551616 * k) = wrap64 x := by unfold wrap64; omega
theorem w6_eq {x y : Int} (k : Int) (h : x = y + 18446744073709551616 * k) : wrap64 x = wrap64 y := by rw [h]; exact w6_add y k
theorem w6_addl (x y : Int) : wrap64 (wrap64 x + y) = wrap64 (x + y) := by unfold wrap64; omega
theorem w6_addr (x y : Int) : wrap64 (x + wrap64 y) = wrap64 (x + y) := by unfold wrap64; omega
theorem w6_subl (x y : Int) : wrap64 (wrap64 x - y) = wrap64 (x - y) := by unfold wrap64; omega
theorem w6_subr (x y : Int) : wrap64 (x - wrap64 y) = wrap64 (x - y) := by unfold wrap64; omega
theorem w6_mull (x y : Int) : wrap64 (wrap64 x * y) = wrap64 (x * y) := by
  obtain ⟨k, hk⟩ := w6_off x
  refine w6_eq (-(k * y)) ?_
  rw [hk, Int.sub_mul, Int.mul_neg, ← Int.mul_assoc]
  omega
theorem w6_mulr (x y : Int) : wrap64 (x * wrap64 y) = wrap64 (x * y) := by rw [Int.mul_comm, w6_mull, Int.mul_comm]

/-- the document's quotient and rest -/
def qt (b c : Int) : Int := wrap64 (b / c)
def rm (b c : Int) : Int := b % c
theorem rm_bd {b c : Int} (h0 : c ≠ 0) : 0 ≤ rm b c ∧ rm b c < c.natAbs := ⟨Int.emod_nonneg _ h0, Int.emod_lt b h0⟩
theorem rm_I6 {b c : Int} (hc : I6 c) (h0 : c ≠ 0) : I6 (rm b c) := by
  have := rm_bd (b := b) h0
  unfold I6 at *
  omega
theorem qt_I6 (b c : Int) : I6 (qt b c) := w6 _
theorem qt_rm {b c : Int} (hb : I6 b) : wrap64 (wrap64 (qt b c * c) + rm b c) = b := by
  unfold qt rm
  rw [w6_mull, w6_addl, Int.mul_comm, Int.mul_ediv_add_emod, w6_id hb]
theorem rm_of {b c : Int} (hc : I6 c) (h0 : c ≠ 0) : wrap64 (b - wrap64 (qt b c * c)) = rm b c := by
  unfold qt
  rw [w6_mull, w6_subr]
  have := Int.mul_ediv_add_emod b c
  rw [Int.mul_comm] at this
  rw [show b - b / c * c = rm b c by unfold rm; omega, w6_id (rm_I6 hc h0)]

theorem tdiv_yes {b c : Int} (h0 : c ≠ 0) (h : 0 ≤ b.tmod c) : b.tdiv c = b / c := by
  have h1 := Int.mul_tdiv_add_tmod b c
  have hr := Int.natAbs_tmod b c
  have h2 := Nat.mod_lt b.natAbs (y := c.natAbs) (by omega)
  have h3 := Int.emod_emod_of_dvd b (Int.dvd_refl c)
  have := Int.ediv_emod_unique (a := b) (b := c.natAbs) (r := b.tmod c) (q := if 0 < c then b.tdiv c else - b.tdiv c) (by omega)
  have h4 := this.2 ⟨by
    rcases Int.lt_or_le 0 c with hc | hc
    · rw [if_pos hc, show (c.natAbs : Int) = c by omega]; omega
    · rw [if_neg (by omega), show (c.natAbs : Int) = -c by omega, Int.neg_mul_neg]; omega, h, by omega⟩
  rcases Int.lt_or_le 0 c with hc | hc
  · rw [if_pos hc, show (c.natAbs : Int) = c by omega] at h4; exact h4.1.symm
  · rw [if_neg (by omega), show (c.natAbs : Int) = -c by omega, Int.ediv_neg] at h4; omega
theorem tdiv_no {b c : Int} (h0 : c ≠ 0) (h : b.tmod c < 0) : b / c = if 0 < c then b.tdiv c - 1 else b.tdiv c + 1 := by
  have h1 := Int.mul_tdiv_add_tmod b c
  have hr := Int.natAbs_tmod b c
  have h2 := Nat.mod_lt b.natAbs (y := c.natAbs) (by omega)
  have := Int.ediv_emod_unique (a := b) (b := c.natAbs) (r := b.tmod c + c.natAbs) (q := if 0 < c then b.tdiv c - 1 else - b.tdiv c - 1) (by omega)
  have h4 := this.2 ⟨by
    rcases Int.lt_or_le 0 c with hc | hc
    · rw [if_pos hc, show (c.natAbs : Int) = c by omega, Int.mul_sub]; omega
    · rw [if_neg (by omega), show (c.natAbs : Int) = -c by omega, Int.mul_sub, Int.neg_mul_neg]; omega, by omega, by omega⟩
  rcases Int.lt_or_le 0 c with hc | hc
  · rw [if_pos hc, show (c.natAbs : Int) = c by omega] at h4; rw [if_pos hc]; exact h4.1
  · rw [if_neg (by omega), show (c.natAbs : Int) = -c by omega, Int.ediv_neg] at h4; rw [if_neg (by omega)]; omega

/-- bits of numbers -/
theorem nat_bits (a : Nat) : ∀ b, (a ^^^ b) + 2 * (a &&& b) = a + b ∧ (a ||| b) + (a &&& b) = a + b := by
  induction a using Nat.strongRecOn with
  | ind a ih =>
    intro b
    by_cases h0 : a = 0
    · subst h0; simp
    · obtain ⟨h1, h2⟩ := ih (a / 2) (by omega) (b / 2)
      have e1 : (a ^^^ b) / 2 = a / 2 ^^^ b / 2 := Nat.xor_div_two
      have e2 : (a &&& b) / 2 = a / 2 &&& b / 2 := Nat.and_div_two
      have e3 : (a ||| b) / 2 = a / 2 ||| b / 2 := Nat.or_div_two
      rw [← e1, ← e2] at h1
      rw [← e3, ← e2] at h2
      have m1 : (a ^^^ b) % 2 = (a % 2 + b % 2) % 2 := by
        have := Nat.xor_mod_two_pow (a := a) (b := b) (n := 1)
        rw [show 2 ^ 1 = 2 from rfl] at this
        rw [this]
        rcases Nat.mod_two_eq_zero_or_one a with ha | ha <;> rcases Nat.mod_two_eq_zero_or_one b with hb | hb <;> rw [ha, hb] <;> rfl
      have m2 : (a &&& b) % 2 = (a % 2) * (b % 2) := by
        have := Nat.and_mod_two_pow (a := a) (b := b) (n := 1)
        rw [show 2 ^ 1 = 2 from rfl] at this
        rw [this]
        rcases Nat.mod_two_eq_zero_or_one a with ha | ha <;> rcases Nat.mod_two_eq_zero_or_one b with hb | hb <;> rw [ha, hb] <;> rfl
      have m3 : (a ||| b) % 2 = a % 2 + b % 2 - (a % 2) * (b % 2) := by
        have := Nat.or_mod_two_pow (a := a) (b := b) (n := 1)
        rw [show 2 ^ 1 = 2 from rfl] at this
        rw [this]
        rcases Nat.mod_two_eq_zero_or_one a with ha | ha <;> rcases Nat.mod_two_eq_zero_or_one b with hb | hb <;> rw [ha, hb] <;> rfl
      rcases Nat.mod_two_eq_zero_or_one a with ha | ha <;> rcases Nat.mod_two_eq_zero_or_one b with hb | hb <;> rw [ha, hb] at m1 m2 m3 <;> omega

/-- a word without its sign -/
def un (x : Int) : Nat := (x % 18446744073709551616).toNat
theorem un_lt (x : Int) : un x < 18446744073709551616 := by unfold un; omega
theorem un_eq (x : Int) : ∃ k : Int, (un x : Int) = x + 18446744073709551616 * k := ⟨-(x / 18446744073709551616), by unfold un; omega⟩
theorem un_I6 {x : Int} (h : I6 x) : (un x : Int) = if 0 ≤ x then x else x + 18446744073709551616 := by unfold un; unfold I6 at h; split <;> omega
theorem un_bv (x : Int) : (BitVec.ofInt 64 x).toNat = un x := by rw [BitVec.toNat_ofInt]; unfold un; congr 1
theorem bits_and (x y : Int) : bits .and .i64 x y = wrap64 ((un x &&& un y : Nat) : Int) := by
  show IntKind.i64.wrap (((BitVec.ofInt 64 x &&& BitVec.ofInt 64 y).toNat : Nat) : Int) = _
  rw [BitVec.toNat_and, un_bv, un_bv, IntKind.wrap_i64]; unfold wrap64; first | done | omega
theorem bits_or (x y : Int) : bits .or .i64 x y = wrap64 ((un x ||| un y : Nat) : Int) := by
  show IntKind.i64.wrap (((BitVec.ofInt 64 x ||| BitVec.ofInt 64 y).toNat : Nat) : Int) = _
  rw [BitVec.toNat_or, un_bv, un_bv, IntKind.wrap_i64]; unfold wrap64; first | done | omega
theorem bits_xor (x y : Int) : bits .xor .i64 x y = wrap64 ((un x ^^^ un y : Nat) : Int) := by
  show IntKind.i64.wrap (((BitVec.ofInt 64 x ^^^ BitVec.ofInt 64 y).toNat : Nat) : Int) = _
  rw [BitVec.toNat_xor, un_bv, un_bv, IntKind.wrap_i64]; unfold wrap64; first | done | omega
theorem un_wrap {n : Nat} (h : n < 18446744073709551616) : un (wrap64 n) = n := by unfold un wrap64; omega
theorem xor_lt (x y : Int) : un x ^^^ un y < 18446744073709551616 := Nat.xor_lt_two_pow (n := 64) (un_lt x) (un_lt y)
theorem and_or_sum (x y : Int) : wrap64 (bits .and .i64 x y + bits .or .i64 x y) = wrap64 (x + y) := by
  rw [bits_and, bits_or, w6_addl, w6_addr]
  obtain ⟨k, hk⟩ := un_eq x
  obtain ⟨l, hl⟩ := un_eq y
  have h := (nat_bits (un x) (un y)).2
  exact w6_eq (k + l) (by omega)
theorem xor_or_and (x y : Int) : bits .xor .i64 x y = wrap64 (bits .or .i64 x y - bits .and .i64 x y) := by
  rw [bits_and, bits_or, bits_xor, w6_subl, w6_subr]
  have h := nat_bits (un x) (un y)
  congr 1
  omega
theorem xor_back {x : Int} (hx : I6 x) (y : Int) : bits .xor .i64 (bits .xor .i64 x y) y = x := by
  rw [bits_xor x y, bits_xor, un_wrap (xor_lt x y), Nat.xor_assoc, Nat.xor_self, Nat.xor_zero]
  unfold un wrap64
  unfold I6 at hx
  omega
theorem and_top (a : Nat) (h : a < 18446744073709551616) : a &&& 9223372036854775808 = if a < 9223372036854775808 then 0 else 9223372036854775808 := by
  have h1 := Nat.and_mod_two_pow (a := a) (b := 9223372036854775808) (n := 63)
  rw [show 9223372036854775808 % 2 ^ 63 = 0 by decide, Nat.and_zero] at h1
  have h2 := Nat.and_div_two_pow (a := a) (b := 9223372036854775808) (n := 63)
  rw [show 9223372036854775808 / 2 ^ 63 = 1 by decide, Nat.and_one_is_mod] at h2
  split <;> omega
theorem xor_least {x : Int} (hx : I6 x) : bits .xor .i64 x (-9223372036854775808) = (un x : Int) - 9223372036854775808 := by
  rw [bits_xor, show un (-9223372036854775808) = 9223372036854775808 by decide]
  have h := (nat_bits (un x) 9223372036854775808).1
  have h2 := un_lt x
  rw [and_top _ h2] at h
  unfold wrap64
  split at h <;> omega

theorem pow_pos' (k : Nat) : 0 < (2 : Int) ^ k := Int.pow_pos (by decide)
theorem sar_I6 {x : Int} (h : I6 x) (k : Nat) : I6 (x / 2 ^ k) := by
  have hp := pow_pos' k
  unfold I6 at *
  constructor
  · refine (Int.le_ediv_iff_mul_le hp).2 ?_
    generalize (2 : Int) ^ k = P at *
    omega
  · have : x / 2 ^ k < 9223372036854775808 := (Int.ediv_lt_iff_lt_mul hp).2 (by
      generalize (2 : Int) ^ k = P at *
      omega)
    omega

end Go.Proofs.YtijeaonldhccmaaDoor
