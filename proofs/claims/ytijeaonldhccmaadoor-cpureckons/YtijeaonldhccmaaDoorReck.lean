/-
  Plain mathematics of the reckoning laws.
-/
import Derived.Test.YtijeaonldhccmaaDoorStepAny
namespace Go.Proofs.YtijeaonldhccmaaDoor
open Go.RowKit
set_option linter.unusedVariables false

/-- 2^k, modulo 2^64 -/
def pw (k : Nat) : Int := wrap64 (2 ^ k)
theorem pw_zero : pw 0 = 1 := by unfold pw; rw [Int.pow_zero]; exact w6_id (by unfold I6; omega)
theorem pw_succ (k : Nat) : pw (k + 1) = wrap64 (pw k + pw k) := by
  unfold pw
  rw [w6_addl, w6_addr, Int.pow_succ]
  congr 1
  omega
theorem pow_lt63 {k : Nat} (h : k < 63) : (2 : Int) ^ k < 9223372036854775808 := by
  have h1 : (2 : Nat) ^ k ≤ 2 ^ 62 := Nat.pow_le_pow_right (by decide) (by omega)
  have h2 : ((2 : Nat) ^ k : Int) = (2 : Int) ^ k := by norm_cast
  have h3 : (2 : Nat) ^ 62 = 4611686018427387904 := by decide
  omega
theorem pw_small {k : Nat} (h : k < 63) : pw k = 2 ^ k := by
  unfold pw
  exact w6_id ⟨by have := pow_pos' k; omega, by have := pow_lt63 h; omega⟩
theorem shl_pw (b d : Int) : shl b d = wrap64 (b * pw (d % 64).toNat) := by unfold shl pw; rw [w6_mulr]
theorem mod64 (d : Int) : d % 64 % 64 = d % 64 := by omega
theorem shl_mod (b d : Int) : shl b (d % 64) = shl b d := by unfold shl; rw [mod64]
theorem sar_mod (b d : Int) : sar b (d % 64) = sar b d := by unfold sar; rw [mod64]
theorem sar_qt {b d : Int} (hb : I6 b) (h : d % 64 < 63) : sar b d = qt b (pw (d % 64).toNat) := by
  unfold sar qt
  rw [pw_small (by omega), w6_id (sar_I6 hb _)]
theorem shr_sar {b d : Int} (hb : I6 b) (h : 0 ≤ b) : shr b d = sar b d := by
  unfold shr sar
  rw [un_I6 hb, if_pos h, w6_id (sar_I6 hb _)]
theorem shr_pos {b d : Int} (h : 0 < d % 64) : 0 ≤ shr b d := by
  unfold shr
  have h1 := un_lt b
  obtain ⟨K, hK⟩ : ∃ K : Nat, (d % 64).toNat = K + 1 := ⟨(d % 64).toNat - 1, by omega⟩
  rw [hK, Int.pow_succ]
  have hp := pow_pos' K
  have h2 : 0 ≤ (un b : Int) / (2 ^ K * 2) := Int.ediv_nonneg (by omega) (by omega)
  have h3 : (un b : Int) / (2 ^ K * 2) < 9223372036854775808 := (Int.ediv_lt_iff_lt_mul (by omega)).2 (by omega)
  generalize (un b : Int) / (2 ^ K * 2) = X at *
  rw [w6_id (by unfold I6; omega)]
  exact h2
theorem sum_back {b : Int} (c : Int) (hb : I6 b) : wrap64 (wrap64 (b + c) - c) = b := by rw [w6_subl, show b + c - c = b by omega, w6_id hb]
theorem mul_over (b c d : Int) : wrap64 (wrap64 (b + c) * d) = wrap64 (wrap64 (b * d) + wrap64 (c * d)) := by rw [w6_mull, w6_addl, w6_addr, Int.add_mul]
theorem sltu_slt {b c : Int} (hb : I6 b) (hc : I6 c) : fl (decide (un b < un c)) = fl (decide (bits .xor .i64 b (-9223372036854775808) < bits .xor .i64 c (-9223372036854775808))) := by
  rw [xor_least hb, xor_least hc]
  congr 1
  rw [decide_eq_decide]
  omega

end Go.Proofs.YtijeaonldhccmaaDoor
