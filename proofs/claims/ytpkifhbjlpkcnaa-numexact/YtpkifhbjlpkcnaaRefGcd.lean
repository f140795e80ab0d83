/-
  Contracts of the document's Gcd, Later, NextAt, Count.
-/
import Derived.Test.YtpkifhbjlpkcnaaRefMul
import Derived.Test.YtpkifhbjlpkcnaaGcdCalls
namespace Go.Proofs.Ytpkifhbjlpkcnaa
open Go.RowKit Plain
set_option linter.unusedVariables false

theorem sgn_gcd (a b : Int) (ha : I64 a) (hb : I64 b) : sgnV false (Int.gcd a b : Int) = gcdF a b := by
  unfold gcdF
  by_cases h : (Int.gcd a b : Int) ≤ 9223372036854775807
  · rw [if_pos h]; exact (sgn_up h).1
  · have h2 : 9223372036854775807 < (Int.gcd a b : Int) := by omega
    rw [if_neg h]; exact if_pos h2

theorem u64_mod (X Y : Nat) : Value.int .u64 ((X : Int) % (Y : Int)) = .int .u64 ((X % Y : Nat) : Int) := by rw [Int.natCast_emod]

set_option maxHeartbeats 400000 in
theorem rgcd_any (a b : Int) (w : World) (ha : I64 a) (hb : I64 b) :
    Calls Try.prog 26 #[.int .i64 a, .int .i64 b] w fun e w' => e = .returned (.int .i64 (gcdF a b)) ∧ w' = w := by
  have n1 : (a.natAbs : Int) ≤ 9223372036854775808 := by unfold I64 at ha; omega
  have n2 : (b.natAbs : Int) ≤ 9223372036854775808 := by unfold I64 at hb; omega
  have HS : Hid (sgnV false (Int.gcd a b : Int) = gcdF a b) := sgn_gcd a b ha hb
  go_enter Try.func26, Try.ntmps26
  go_wp2_with (go_at_call 35; refine (away_any _ _ ?_).mono ?_; all_goals first | assumption | (rintro e w' ⟨rfl, hw⟩; obtain rfl := hw.symm))
  go_loop [5, 6] (fun x y => ∃ X Y : Nat, (X : Int) ≤ 9223372036854775808 ∧ (Y : Int) ≤ 9223372036854775808 ∧ x = .int .u64 X ∧ y = .int .u64 Y ∧ Nat.gcd X Y = Int.gcd a b) (fun _ y => (intOf y).toNat)
  case atStart => exact ⟨a.natAbs, b.natAbs, n1, n2, rfl, rfl, rfl⟩
  case round =>
    obtain ⟨X, Y, hX, hY, rfl, rfl, hg⟩ := hrel
    have HG : Hid (Nat.gcd X Y = Int.gcd a b) := hg
    clear hg
    by_cases h0 : Y = 0
    · subst h0
      have H2 : Hid (sgnV false (X : Int) = gcdF a b) := by
        have := HG.out
        rw [Nat.gcd_zero_right] at this
        have e := HS.out
        rw [← this] at e
        exact e
      clear HS HG
      go_wp2_with (go_at_call 36; refine (signed_any _ _ _ ?_ ?_).mono ?_; all_goals first | omega | (rintro e w' ⟨rfl, hw⟩; obtain rfl := hw.symm))
      go_ret
      exact ⟨ret1 H2.out, rfl⟩
    · have h1 : 0 < (Y : Int) := by omega
      have h2 : X % Y < Y := Nat.mod_lt _ (by omega)
      have H3 : Hid (Nat.gcd Y (X % Y) = Int.gcd a b) := by
        have e : Nat.gcd Y (X % Y) = Nat.gcd X Y := by rw [Nat.gcd_comm, ← Nat.gcd_rec, Nat.gcd_comm]
        exact e.trans HG.out
      have h4 : ((X : Int) % (Y : Int)) = ((X % Y : Nat) : Int) := (Int.natCast_emod X Y).symm
      have H4 : Hid (((X : Int) % (Y : Int)) = ((X % Y : Nat) : Int)) := h4
      clear HG h4
      go_wp2
      go_round
      case rel => exact ⟨Y, X % Y, hY, by omega, rfl, by rw [H4.out], H3.out⟩
      case measure => simp [intOf]; omega

theorem rlater_any (t n : Int) (w : World) (hn : n ≤ 9223372036854775807) :
    Calls Try.prog 31 #[.int .i64 t, .int .i64 n] w fun e w' => e = .returned (.int .i64 (laterF t n)) ∧ w' = w := by
  by_cases h1 : t < 0
  · rw [laterF_no (by omega)]
    go_enter Try.func31, Try.ntmps31
    go_wp2
    go_ret
    exact ⟨rfl, rfl⟩
  by_cases h2 : 1099511627776 ≤ t
  · rw [laterF_no (by omega)]
    go_enter Try.func31, Try.ntmps31
    go_wp2
    go_ret
    exact ⟨rfl, rfl⟩
  by_cases h3 : n < 0
  · rw [laterF_no (by omega)]
    go_enter Try.func31, Try.ntmps31
    go_wp2
    go_ret
    exact ⟨rfl, rfl⟩
  by_cases h4 : 1099511627776 ≤ n
  · rw [laterF_no (by omega)]
    go_enter Try.func31, Try.ntmps31
    go_wp2
    go_ret
    exact ⟨rfl, rfl⟩
  by_cases h5 : 1099511627776 ≤ t + n
  · rw [laterF_no (by omega)]
    go_enter Try.func31, Try.ntmps31
    go_wp2
    go_ret
    exact ⟨rfl, rfl⟩
  rw [laterF_yes (by omega) (by omega) (by omega)]
  go_enter Try.func31, Try.ntmps31
  go_wp2
  go_ret
  exact ⟨rfl, rfl⟩

theorem ahead_any (o p b : Int) (w : World) (ho : 0 ≤ o) (hp : 1 ≤ p) (hb : I64 b) :
    Calls Try.prog 37 #[.int .i64 o, .int .i64 p, .int .i64 b] w fun e w' => e = .returned (.int .i64 (cbF o p b)) ∧ w' = w := by
  unfold I64 at hb
  obtain ⟨hb1, hb2⟩ := hb
  by_cases h1 : b ≤ o
  · rw [show cbF o p b = 0 from if_pos h1]
    go_enter Try.func37, Try.ntmps37
    go_wp2
    go_ret
    exact ⟨rfl, rfl⟩
  rw [show cbF o p b = (b - 1 - o) / p + 1 from if_neg h1, show b - 1 - o = b - o - 1 by omega]
  obtain ⟨d1, d2⟩ := div_le (b - o - 1) p hp (by omega)
  go_enter Try.func37, Try.ntmps37
  go_wp2
  go_ret
  exact ⟨rfl, rfl⟩

theorem rcount_any (o p f b : Int) (w : World) (hf : I64 f) (hb : I64 b) :
    Calls Try.prog 33 #[.int .i64 o, .int .i64 p, .int .i64 f, .int .i64 b] w fun e w' => e = .returned (.tuple #[.int .i64 (countV o p f b), .bool (countB o p)]) ∧ w' = w := by
  by_cases h1 : o < 0 ∨ p < 1
  · rw [show countV o p f b = 0 from if_pos h1, show countB o p = false from if_pos h1]
    clear hf hb
    by_cases h2 : p < 1
    · clear h1
      go_enter Try.func33, Try.ntmps33
      go_wp2
      go_ret2
      exact ⟨rfl, rfl⟩
    · have h3 : o < 0 := by omega
      clear h1
      go_enter Try.func33, Try.ntmps33
      go_wp2
      go_ret2
      exact ⟨rfl, rfl⟩
  rw [show countB o p = true from if_neg h1]
  have ho : 0 ≤ o := by omega
  have hp : 1 ≤ p := by omega
  clear h1
  by_cases h2 : b ≤ f
  · rw [count_zero o p f b h2]
    clear hf hb
    go_enter Try.func33, Try.ntmps33
    go_wp2
    go_ret2
    exact ⟨rfl, rfl⟩
  rw [count_of o p f b ho hp (by omega)]
  have m1 := cb_mono o p f b hp (by omega)
  have m2 := cb_nonneg o p f hp
  have m3 := cb_le o p b hp ho hb.2
  go_enter Try.func33, Try.ntmps33
  go_wp2_with (go_at_call 37; refine (ahead_any _ _ _ _ ?_ ?_ ?_).mono ?_; all_goals first | assumption | rintro e w' ⟨rfl, rfl⟩)
  go_ret2
  exact ⟨rfl, rfl⟩

theorem rnext_any (o p f : Int) (w : World) (ho2 : I64 o) (hp2 : I64 p) (hf : I64 f) :
    Calls Try.prog 32 #[.int .i64 o, .int .i64 p, .int .i64 f] w fun e w' => e = .returned (.tuple #[.int .i64 (nextV o p f), .bool (nextB o p f)]) ∧ w' = w := by
  unfold I64 at hf ho2 hp2
  obtain ⟨hf1, hf2⟩ := hf
  obtain ⟨_, ho2⟩ := ho2
  obtain ⟨_, hp2⟩ := hp2
  by_cases h1 : o < 0 ∨ p < 1
  · rw [show nextV o p f = 0 from if_pos h1, show nextB o p f = false from if_pos h1]
    by_cases h2 : p < 1
    · clear h1
      go_enter Try.func32, Try.ntmps32
      go_wp2
      go_ret2
      exact ⟨rfl, rfl⟩
    · have h3 : o < 0 := by omega
      clear h1
      go_enter Try.func32, Try.ntmps32
      go_wp2
      go_ret2
      exact ⟨rfl, rfl⟩
  unfold nextV nextB
  rw [if_neg h1, if_neg h1]
  have ho : 0 ≤ o := by omega
  have hp : 1 ≤ p := by omega
  clear h1
  by_cases h2 : f ≤ o
  · rw [if_pos h2, if_pos h2]
    go_enter Try.func32, Try.ntmps32
    go_wp2
    go_ret2
    exact ⟨rfl, rfl⟩
  rw [if_neg h2, if_neg h2]
  have r1 := Int.emod_nonneg (f - o) (b := p) (by omega)
  have r2 := Int.emod_lt_of_pos (f - o) (b := p) (by omega)
  have h2' : o < f := by omega
  clear h2
  by_cases h3 : (f - o) % p = 0
  · rw [if_pos h3, if_pos h3]
    go_enter Try.func32, Try.ntmps32
    go_wp2
    go_ret2
    exact ⟨rfl, rfl⟩
  rw [if_neg h3, if_neg h3]
  by_cases h4 : 9223372036854775807 - f < p - (f - o) % p
  · rw [if_pos h4, if_pos h4]
    have h5 : 9223372036854775807 - (p - (f - o) % p) < f := by omega
    go_enter Try.func32, Try.ntmps32
    go_wp2
    go_ret2
    exact ⟨rfl, rfl⟩
  rw [if_neg h4, if_neg h4]
  have h5 : f ≤ 9223372036854775807 - (p - (f - o) % p) := by omega
  go_enter Try.func32, Try.ntmps32
  go_wp2
  go_ret2
  exact ⟨rfl, rfl⟩

end Go.Proofs.Ytpkifhbjlpkcnaa
