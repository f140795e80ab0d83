/-
  Contracts of Mul and Div.
-/
import Derived.Test.YtpkifhbjlpkcnaaCalls
import Derived.Test.YtpkifhbjlpkcnaaDivs
import Derived.Deep.QuietTactic
import Derived.BigQuiet
namespace Go.Proofs.Ytpkifhbjlpkcnaa
open Go.RowKit Plain
set_option linter.unusedVariables false

theorem ret3 {a b c d : Int} {x : Bool} (h1 : a = c) (h2 : b = d) : Ending.returned (.tuple #[.int .i64 a, .int .i64 b, .bool x]) = .returned (.tuple #[.int .i64 c, .int .i64 d, .bool x]) := by rw [h1, h2]

theorem mul_any (a b : Int) (w : World) (ha : I64 a) (hb : I64 b) :
    Calls Try.prog 15 #[.int .i64 a, .int .i64 b] w fun e w' => e = .returned (.tuple #[.int .i64 (mulV a b), .bool (mulB a b)]) ∧ w' = w := by
  by_cases h0 : b = 0
  · subst h0
    rw [mulV_yes (by rw [Int.mul_zero]; unfold I64; omega), mulB_yes (by rw [Int.mul_zero]; unfold I64; omega), Int.mul_zero]
    clear ha hb
    go_enter Try.func15, Try.ntmps15
    go_wp2
    go_ret2
    exact ⟨rfl, rfl⟩
  have z0 : (b == 0) = false := by simpa using h0
  by_cases hn : a = -9223372036854775808 ∧ b = -1
  · obtain ⟨rfl, rfl⟩ := hn
    rw [mulV_no (by unfold I64; omega), mulB_no (by unfold I64; omega)]
    clear ha hb
    go_enter Try.func15, Try.ntmps15
    go_wp2
    go_ret2
    exact ⟨rfl, rfl⟩
  by_cases hf : I64 (a * b)
  · rw [mulV_yes hf, mulB_yes hf]
    have hq := mul_back a b h0
    unfold I64 at hf ha
    obtain ⟨hf1, hf2⟩ := hf
    obtain ⟨ha1, ha2⟩ := ha
    clear hb
    by_cases h1 : a = -9223372036854775808
    · have h2 : (b == -1) = false := by simp; omega
      subst h1
      clear hn
      go_enter Try.func15, Try.ntmps15
      go_wp2
      go_ret2
      exact ⟨rfl, rfl⟩
    · have h1' : -9223372036854775808 < a := by omega
      clear h1 hn
      go_enter Try.func15, Try.ntmps15
      go_wp2
      go_ret2
      exact ⟨rfl, rfl⟩
  · rw [mulV_no hf, mulB_no hf]
    have hq := mul_wraps a b ha hb h0 hn hf
    unfold I64 at ha
    obtain ⟨ha1, ha2⟩ := ha
    clear hb hf
    by_cases h1 : a = -9223372036854775808
    · have h2 : (b == -1) = false := by simp; omega
      subst h1
      clear hn
      go_enter Try.func15, Try.ntmps15
      go_wp2
      go_ret2
      exact ⟨rfl, rfl⟩
    · have h1' : -9223372036854775808 < a := by omega
      clear h1 hn
      go_enter Try.func15, Try.ntmps15
      go_wp2
      go_ret2
      exact ⟨rfl, rfl⟩

theorem div_no (a b : Int) (w : World) (h : b = 0 ∨ (a = -9223372036854775808 ∧ b = -1)) :
    Calls Try.prog 16 #[.int .i64 a, .int .i64 b] w fun e w' => e = .returned (.tuple #[.int .i64 0, .int .i64 0, .bool false]) ∧ ∃ n, w' = w.drewN n := by
  rcases h with rfl | ⟨rfl, rfl⟩
  · go_enter Try.func16, Try.ntmps16
    go_wp2
    go_ret3
    exact ⟨rfl, 0, rfl⟩
  · go_enter Try.func16, Try.ntmps16
    go_wp2
    go_ret3
    exact ⟨rfl, 0, rfl⟩

set_option maxHeartbeats 400000 in
theorem div_yes (a b : Int) (w : World) (ha : I64 a) (hb : I64 b) (h0 : b ≠ 0) (hn : ¬ (a = -9223372036854775808 ∧ b = -1)) :
    Calls Try.prog 16 #[.int .i64 a, .int .i64 b] w fun e w' => e = .returned (.tuple #[.int .i64 (a / b), .int .i64 (a % b), .bool true]) ∧ ∃ n, w' = w.drewN n := by
  have hd := ediv_I64 a b ha h0 hn
  have hr := Int.emod_nonneg a h0
  have hc := div_cases a b h0
  have z0 : (b == 0) = false := by simpa using h0
  have z1 : ((a == -9223372036854775808) && (b == -1)) = false := by simp; omega
  have z2 : (b == -1) = true → (a == -9223372036854775808) = false := by simp; omega
  unfold I64 at hd ha hb
  obtain ⟨hd1, hd2⟩ := hd
  obtain ⟨ha1, ha2⟩ := ha
  obtain ⟨hb1, hb2⟩ := hb
  rcases hc with ⟨e1, e2⟩ | ⟨hp, hl, e1, e2⟩ | ⟨hp, hl, e1, e2⟩
  · by_cases h1 : a = -9223372036854775808
    · have h2 : (b == -1) = false := by simp; omega
      subst h1
      clear hn z1 z2
      go_enter Try.func16, Try.ntmps16
      go_wp2
      go_quiet (fail)
      go_wp2
      go_ret3
      exact ⟨rfl, _, rfl⟩
    · have h1' : -9223372036854775808 < a := by omega
      clear hn z1 z2 h1
      go_enter Try.func16, Try.ntmps16
      go_wp2
      go_quiet (fail)
      go_wp2
      go_ret3
      exact ⟨rfl, _, rfl⟩
  · by_cases h1 : a = -9223372036854775808
    · have h2 : (b == -1) = false := by simp; omega
      subst h1
      clear hn z1 z2
      go_enter Try.func16, Try.ntmps16
      go_wp2
      go_quiet (fail)
      go_wp2
      go_ret3
      exact ⟨ret3 (by unfold wrap64; omega) (by first | omega | (unfold wrap64; omega)), _, rfl⟩
    · have h1' : -9223372036854775808 < a := by omega
      clear hn z1 z2 h1
      go_enter Try.func16, Try.ntmps16
      go_wp2
      go_quiet (fail)
      go_wp2
      go_ret3
      exact ⟨ret3 (by unfold wrap64; omega) (by first | omega | (unfold wrap64; omega)), _, rfl⟩
  · by_cases h1 : a = -9223372036854775808
    · have h2 : (b == -1) = false := by simp; omega
      subst h1
      clear hn z1 z2
      go_enter Try.func16, Try.ntmps16
      go_wp2
      go_quiet (fail)
      go_wp2
      go_ret3
      exact ⟨ret3 (by unfold wrap64; omega) (by first | omega | (unfold wrap64; omega)), _, rfl⟩
    · have h1' : -9223372036854775808 < a := by omega
      clear hn z1 z2 h1
      go_enter Try.func16, Try.ntmps16
      go_wp2
      go_quiet (fail)
      go_wp2
      go_ret3
      exact ⟨ret3 (by unfold wrap64; omega) (by first | omega | (unfold wrap64; omega)), _, rfl⟩

theorem div_any (a b : Int) (w : World) (ha : I64 a) (hb : I64 b) :
    Calls Try.prog 16 #[.int .i64 a, .int .i64 b] w fun e w' => e = .returned (.tuple #[.int .i64 (divQ a b), .int .i64 (divR a b), .bool (divB a b)]) ∧ ∃ n, w' = w.drewN n := by
  by_cases h : b = 0 ∨ (a = -9223372036854775808 ∧ b = -1)
  · have hB := divB_no h
    unfold divQ divR
    rw [hB]
    exact div_no a b w h
  · have hB := divB_yes h
    unfold divQ divR
    rw [hB]
    exact div_yes a b w ha hb (fun e => h (.inl e)) (fun e => h (.inr e))

end Go.Proofs.Ytpkifhbjlpkcnaa
