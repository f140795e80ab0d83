/-
  The walk of NumLater.
-/
import Derived.Test.YtpkifhbjlpkcnaaCalls
namespace Go.Proofs.Ytpkifhbjlpkcnaa
open Go.RowKit Plain
set_option linter.unusedVariables false

set_option maxHeartbeats 400000 in
theorem numLater_walk (t n m : Int) (w : World) (ht : I64 t) (hn : I64 n) (hm : I64 m) :
    Calls Try.prog 4 #[.int .i64 t, .int .i64 n, .int .i64 m] w fun e w' => e = .returned (.bool true) ∧ w' = w := by
  by_cases hA : t < 0 ∨ 1099511627776 ≤ t ∨ n < 0
  · have l0 : laterF t n = -1 := laterF_no (by omega)
    have l1 : laterF 0 0 = 0 := laterF_yes (by omega) (by omega) (by omega)
    clear ht hn hm
    by_cases h1 : t < 0
    · clear hA
      go_enter Try.func4, Try.ntmps4
      go_wp2_with (go_at_call 10; refine (later_any _ _ _).mono ?_; rintro e w' ⟨rfl, rfl⟩)
      go_ret
      exact ⟨rfl, rfl⟩
    by_cases h2 : 1099511627776 ≤ t
    · clear hA
      go_enter Try.func4, Try.ntmps4
      go_wp2_with (go_at_call 10; refine (later_any _ _ _).mono ?_; rintro e w' ⟨rfl, rfl⟩)
      go_ret
      exact ⟨rfl, rfl⟩
    have h3 : n < 0 := by omega
    clear hA
    go_enter Try.func4, Try.ntmps4
    go_wp2_with (go_at_call 10; refine (later_any _ _ _).mono ?_; rintro e w' ⟨rfl, rfl⟩)
    go_ret
    exact ⟨rfl, rfl⟩
  have g1 : 0 ≤ t := by omega
  have g2 : t < 1099511627776 := by omega
  have g3 : 0 ≤ n := by omega
  clear hA
  by_cases hB : 1099511627776 ≤ t + n
  · have l0 : laterF t n = -1 := laterF_no (by omega)
    unfold I64 at hn
    clear ht hm
    by_cases h1 : 1099511627776 ≤ n
    · go_enter Try.func4, Try.ntmps4
      go_wp2_with (go_at_call 10; refine (later_any _ _ _).mono ?_; rintro e w' ⟨rfl, rfl⟩)
      go_ret
      exact ⟨rfl, rfl⟩
    · go_enter Try.func4, Try.ntmps4
      go_wp2_with (go_at_call 10; refine (later_any _ _ _).mono ?_; rintro e w' ⟨rfl, rfl⟩)
      go_ret
      exact ⟨rfl, rfl⟩
  have h1 : n < 1099511627776 := by omega
  have h4 : t + n < 1099511627776 := by omega
  clear hB
  have l0 : laterF t n = t + n := laterF_yes g1 g3 h4
  by_cases hm0 : m < 0
  · clear ht hn hm
    go_enter Try.func4, Try.ntmps4
    go_wp2_with (first | (go_at_call 10; refine (later_any _ _ _).mono ?_; rintro e w' ⟨rfl, rfl⟩) | (go_at_call 11; refine (add_any _ _ _).mono ?_; rintro e w' ⟨rfl, rfl⟩))
    go_ret
    exact ⟨rfl, rfl⟩
  by_cases hs : I64 (n + m)
  · have a1 := addB_yes hn hm hs
    have a2 := addV_yes hn hm hs
    have l1 : laterF (t + n) m = laterF t (n + m) := by
      by_cases hx : t + n + m < 1099511627776
      · rw [laterF_yes (by omega) (by omega) hx, laterF_yes g1 (by omega) (by omega)]; omega
      · rw [laterF_no (by omega), laterF_no (by omega)]
    clear ht hn hm hs
    go_enter Try.func4, Try.ntmps4
    go_wp2_with (first | (go_at_call 10; refine (later_any _ _ _).mono ?_; rintro e w' ⟨rfl, rfl⟩) | (go_at_call 11; refine (add_any _ _ _).mono ?_; rintro e w' ⟨rfl, rfl⟩))
    go_ret
    exact ⟨rfl, rfl⟩
  · have a1 := addB_no hn hm hs
    clear ht hn hm hs
    go_enter Try.func4, Try.ntmps4
    go_wp2_with (first | (go_at_call 10; refine (later_any _ _ _).mono ?_; rintro e w' ⟨rfl, rfl⟩) | (go_at_call 11; refine (add_any _ _ _).mono ?_; rintro e w' ⟨rfl, rfl⟩))
    go_ret
    exact ⟨rfl, rfl⟩

end Go.Proofs.Ytpkifhbjlpkcnaa
