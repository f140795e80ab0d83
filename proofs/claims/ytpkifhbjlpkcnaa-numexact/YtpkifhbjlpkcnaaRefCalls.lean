/-
  Contracts of the document's own answers that only reckon.
-/
import Derived.Test.YtpkifhbjlpkcnaaDivCalls
import Derived.Test.YtpkifhbjlpkcnaaTickCalls
import Derived.Test.YtpkifhbjlpkcnaaRefs
namespace Go.Proofs.Ytpkifhbjlpkcnaa
open Go.RowKit Plain
set_option linter.unusedVariables false

theorem ret1u {a b : Int} (h : a = b) : Ending.returned (.int .u64 a) = .returned (.int .u64 b) := by rw [h]
theorem ret2' {a b : Int} {x y : Bool} (h : a = b) (h2 : x = y) : Ending.returned (.tuple #[.int .i64 a, .bool x]) = .returned (.tuple #[.int .i64 b, .bool y]) := by rw [h, h2]

theorem away_any (a : Int) (w : World) (ha : I64 a) :
    Calls Try.prog 35 #[.int .i64 a] w fun e w' => e = .returned (.int .u64 (a.natAbs : Int)) ∧ w' = w := by
  unfold I64 at ha
  obtain ⟨h1, h2⟩ := ha
  by_cases h : a < 0
  · go_enter Try.func35, Try.ntmps35
    go_wp2
    go_ret
    exact ⟨ret1u (by omega), rfl⟩
  · go_enter Try.func35, Try.ntmps35
    go_wp2
    go_ret
    exact ⟨ret1u (by omega), rfl⟩

theorem signed_any (s : Bool) (d : Int) (w : World) (h0 : 0 ≤ d) (h1 : d ≤ 18446744073709551615) :
    Calls Try.prog 36 #[.bool s, .int .u64 d] w fun e w' => e = .returned (.tuple #[.int .i64 (sgnV s d), .bool (sgnB s d)]) ∧ w' = w := by
  cases s
  · by_cases h : 9223372036854775807 < d
    · rw [show sgnV false d = 0 from if_pos h, show sgnB false d = false from if_pos h]
      go_enter Try.func36, Try.ntmps36
      go_wp2
      go_ret2
      exact ⟨rfl, rfl⟩
    · rw [show sgnV false d = d from if_neg h, show sgnB false d = true from if_neg h]
      go_enter Try.func36, Try.ntmps36
      go_wp2
      go_ret2
      exact ⟨rfl, rfl⟩
  · by_cases h : 9223372036854775808 < d
    · rw [show sgnV true d = 0 from if_pos h, show sgnB true d = false from if_pos h]
      go_enter Try.func36, Try.ntmps36
      go_wp2
      go_ret2
      exact ⟨rfl, rfl⟩
    · rw [show sgnV true d = -d from if_neg h, show sgnB true d = true from if_neg h]
      by_cases h2 : d = 9223372036854775808
      · have h3 : 9223372036854775808 ≤ d := by omega
        have H2 : Hid (d = 9223372036854775808) := h2
        clear h2
        go_enter Try.func36, Try.ntmps36
        go_wp2
        all_goals (go_ret2; exact ⟨ret2' (by omega) rfl, rfl⟩)
      · have h3 : d < 9223372036854775808 := by omega
        go_enter Try.func36, Try.ntmps36
        go_wp2
        go_ret2
        exact ⟨rfl, rfl⟩

theorem sum_any (s : Bool) (x y : Int) (w : World) (h0 : 0 ≤ x) (h1 : x ≤ 9223372036854775808) (h2 : 0 ≤ y) (h3 : y ≤ 9223372036854775808) :
    Calls Try.prog 34 #[.bool s, .int .u64 x, .int .u64 y] w fun e w' => e = .returned (.tuple #[.int .i64 (sgnV s (x + y)), .bool (sgnB s (x + y))]) ∧ w' = w := by
  by_cases h : x = 9223372036854775808 ∧ y = 9223372036854775808
  · obtain ⟨rfl, rfl⟩ := h
    have e1 : sgnV s (9223372036854775808 + 9223372036854775808) = 0 := by cases s <;> rfl
    have e2 : sgnB s (9223372036854775808 + 9223372036854775808) = false := by cases s <;> rfl
    rw [e1, e2]
    clear e1 e2
    go_enter Try.func34, Try.ntmps34
    go_wp2
    go_ret2
    exact ⟨rfl, rfl⟩
  · have h4 : x + y ≤ 18446744073709551615 := by omega
    have h5 : 0 ≤ x + y := by omega
    by_cases hx : x = 9223372036854775808
    · have hy : y < 9223372036854775808 := by omega
      subst hx
      go_enter Try.func34, Try.ntmps34
      go_wp2_with (go_at_call 36; refine (signed_any _ _ _ ?_ ?_).mono ?_; all_goals first | omega | rintro e w' ⟨rfl, rfl⟩)
      go_ret2
      exact ⟨rfl, rfl⟩
    · have hx' : x < 9223372036854775808 := by omega
      clear hx h
      go_enter Try.func34, Try.ntmps34
      go_wp2_with (go_at_call 36; refine (signed_any _ _ _ ?_ ?_).mono ?_; all_goals first | omega | rintro e w' ⟨rfl, rfl⟩)
      go_ret2
      exact ⟨rfl, rfl⟩

theorem radd_any (a b : Int) (w : World) (ha : I64 a) (hb : I64 b) :
    Calls Try.prog 22 #[.int .i64 a, .int .i64 b] w fun e w' => e = .returned (.tuple #[.int .i64 (addV a b), .bool (addB a b)]) ∧ w' = w := by
  by_cases h : (a < 0 ↔ b < 0)
  · obtain ⟨e1, e2⟩ := add_same a b ha hb h
    rw [← e1, ← e2]
    clear e1 e2
    have n1 : (a.natAbs : Int) ≤ 9223372036854775808 := by unfold I64 at ha; omega
    have n2 : (b.natAbs : Int) ≤ 9223372036854775808 := by unfold I64 at hb; omega
    by_cases hn : a < 0
    · have d1 : decide (a < 0) = true := by simpa using hn
      have d2 : decide (b < 0) = true := by simpa using (h.1 hn)
      go_enter Try.func22, Try.ntmps22
      go_wp2_with (first | (go_at_call 35; refine (away_any _ _ ?_).mono ?_; all_goals first | assumption | rintro e w' ⟨rfl, rfl⟩) | (go_at_call 34; refine (sum_any _ _ _ _ ?_ ?_ ?_ ?_).mono ?_; all_goals first | omega | rintro e w' ⟨rfl, rfl⟩))
      go_ret2
      exact ⟨by rw [d1]; rfl, rfl⟩
    · have d1 : decide (a < 0) = false := by simpa using hn
      have d2 : decide (b < 0) = false := by simp; omega
      go_enter Try.func22, Try.ntmps22
      go_wp2_with (first | (go_at_call 35; refine (away_any _ _ ?_).mono ?_; all_goals first | assumption | rintro e w' ⟨rfl, rfl⟩) | (go_at_call 34; refine (sum_any _ _ _ _ ?_ ?_ ?_ ?_).mono ?_; all_goals first | omega | rintro e w' ⟨rfl, rfl⟩))
      go_ret2
      exact ⟨by rw [d1]; rfl, rfl⟩
  · have hf : I64 (a + b) := by unfold I64 at *; omega
    rw [addV_yes ha hb hf, addB_yes ha hb hf]
    unfold I64 at hf
    by_cases hn : a < 0
    · have d1 : decide (a < 0) = true := by simpa using hn
      have d2 : decide (b < 0) = false := by simp; omega
      clear h ha hb
      go_enter Try.func22, Try.ntmps22
      go_wp2
      go_ret2
      exact ⟨rfl, rfl⟩
    · have d1 : decide (a < 0) = false := by simpa using hn
      have d2 : decide (b < 0) = true := by simp; omega
      clear h ha hb
      go_enter Try.func22, Try.ntmps22
      go_wp2
      go_ret2
      exact ⟨rfl, rfl⟩

theorem rsub_any (a b : Int) (w : World) (ha : I64 a) (hb : I64 b) :
    Calls Try.prog 23 #[.int .i64 a, .int .i64 b] w fun e w' => e = .returned (.tuple #[.int .i64 (subV a b), .bool (subB a b)]) ∧ w' = w := by
  by_cases h : b = -9223372036854775808
  · subst h
    by_cases hn : 0 ≤ a
    · have hf : ¬ I64 (a - -9223372036854775808) := by unfold I64; omega
      rw [subV_no ha hb hf, subB_no ha hb hf]
      clear ha hb hf
      go_enter Try.func23, Try.ntmps23
      go_wp2
      go_ret2
      exact ⟨rfl, rfl⟩
    · have hf : I64 (a - -9223372036854775808) := by unfold I64 at *; omega
      rw [subV_yes ha hb hf, subB_yes ha hb hf]
      unfold I64 at ha
      clear hb hf
      go_enter Try.func23, Try.ntmps23
      go_wp2
      go_ret2
      exact ⟨ret2' (by omega) rfl, rfl⟩
  · obtain ⟨e1, e2⟩ := sub_of_add a b ha hb h
    rw [← e1, ← e2]
    clear e1 e2
    have hn : I64 (-b) := by unfold I64 at *; omega
    have hb1 : -9223372036854775808 < b := by unfold I64 at hb; omega
    have hb2 := hb.2
    go_enter Try.func23, Try.ntmps23
    go_wp2_with (go_at_call 22; refine (radd_any _ _ _ ?_ ?_).mono ?_; all_goals first | assumption | rintro e w' ⟨rfl, rfl⟩)
    go_ret2
    exact ⟨rfl, rfl⟩

end Go.Proofs.Ytpkifhbjlpkcnaa
