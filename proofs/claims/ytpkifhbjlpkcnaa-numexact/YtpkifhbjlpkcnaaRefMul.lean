/-
  Contracts of the document's Mul, Div, Gcd.
-/
import Derived.Test.YtpkifhbjlpkcnaaRefCalls
namespace Go.Proofs.Ytpkifhbjlpkcnaa
open Go.RowKit Plain
set_option linter.unusedVariables false

set_option maxHeartbeats 1000000 in
theorem rmul_any (a b : Int) (w : World) (ha : I64 a) (hb : I64 b) :
    Calls Try.prog 24 #[.int .i64 a, .int .i64 b] w fun e w' => e = .returned (.tuple #[.int .i64 (mulV a b), .bool (mulB a b)]) ∧ w' = w := by
  have n1 : (a.natAbs : Int) ≤ 9223372036854775808 := by unfold I64 at ha; omega
  have n2 : (b.natAbs : Int) ≤ 9223372036854775808 := by unfold I64 at hb; omega
  have p0 : 0 ≤ (a.natAbs : Int) * (b.natAbs : Int) := Int.mul_nonneg (by omega) (by omega)
  by_cases hp : 9223372036854775808 < (a.natAbs : Int) * (b.natAbs : Int)
  · obtain ⟨e1, e2⟩ := mul_ref_no a b hp
    rw [e1, e2]
    have hx : 0 < (a.natAbs : Int) := by
      by_cases h0 : (a.natAbs : Int) = 0
      · rw [h0, Int.zero_mul] at hp; omega
      · omega
    have hd := (fit_div _ _ hx).2 hp
    clear e1 e2
    go_enter Try.func24, Try.ntmps24
    go_wp2_with (go_at_call 35; refine (away_any _ _ ?_).mono ?_; all_goals first | assumption | rintro e w' ⟨rfl, rfl⟩)
    go_ret2
    exact ⟨rfl, rfl⟩
  · have HM := mul_ref a b hp
    have p1 : (a.natAbs : Int) * (b.natAbs : Int) ≤ 9223372036854775808 := by omega
    have key : ∀ s : Bool, Hid (s = ((decide (a < 0) != decide (b < 0)) && ((a.natAbs : Int) * (b.natAbs : Int) != 0)) → sgnV s ((a.natAbs : Int) * (b.natAbs : Int)) = mulV a b ∧ sgnB s ((a.natAbs : Int) * (b.natAbs : Int)) = mulB a b) := HM
    clear HM
    have hd : 0 < (a.natAbs : Int) → ¬ 9223372036854775808 / (a.natAbs : Int) < (b.natAbs : Int) := fun h => fun h2 => hp ((fit_div _ _ h).1 h2)
    clear hp
    have hz : ((a.natAbs : Int) * (b.natAbs : Int) != 0) = true ∨ ((a.natAbs : Int) * (b.natAbs : Int) != 0) = false := by cases ((a.natAbs : Int) * (b.natAbs : Int) != 0) <;> simp
    have hs : decide (a < 0) = true ∨ decide (a < 0) = false := by cases decide (a < 0) <;> simp
    have ht : decide (b < 0) = true ∨ decide (b < 0) = false := by cases decide (b < 0) <;> simp
    by_cases hx : 0 < (a.natAbs : Int)
    · have hd2 := hd hx
      clear hd
      rcases hz with hz | hz <;> rcases hs with hs | hs <;> rcases ht with ht | ht
      all_goals
        go_enter Try.func24, Try.ntmps24
        go_wp2_with (first | (go_at_call 35; refine (away_any _ _ ?_).mono ?_; all_goals first | assumption | rintro e w' ⟨rfl, rfl⟩) | (go_at_call 36; refine (signed_any _ _ _ ?_ ?_).mono ?_; all_goals first | omega | rintro e w' ⟨rfl, rfl⟩))
        go_ret2
        exact ⟨ret2' ((key _).out (by simp [hz, hs, ht])).1 ((key _).out (by simp [hz, hs, ht])).2, rfl⟩
    · have hx2 : a = 0 := by omega
      subst hx2
      have e1 : mulV 0 b = 0 := by rw [mulV_yes (by rw [Int.zero_mul]; unfold I64; omega), Int.zero_mul]
      have e2 : mulB 0 b = true := mulB_yes (by rw [Int.zero_mul]; unfold I64; omega)
      rw [e1, e2]
      have e3 : sgnV false 0 = 0 := rfl
      have e4 : sgnB false 0 = true := rfl
      clear hd hx p0 p1 hz hs key n1 e1 e2
      rcases ht with ht | ht
      all_goals
        go_enter Try.func24, Try.ntmps24
        go_wp2_with (first | (go_at_call 35; refine (away_any _ _ ?_).mono ?_; all_goals first | assumption | rintro e w' ⟨rfl, rfl⟩) | (go_at_call 36; refine (signed_any _ _ _ ?_ ?_).mono ?_; all_goals first | omega | rintro e w' ⟨rfl, rfl⟩))
        go_ret2
        exact ⟨ret2' (by first | rfl | simp [sgnV]) (by first | rfl | simp [sgnB]), rfl⟩

theorem bneTT : (true != true) = false := rfl
theorem bneTF : (true != false) = true := rfl
theorem bneFT : (false != true) = true := rfl
theorem bneFF : (false != false) = false := rfl

set_option maxRecDepth 100000 in
set_option maxHeartbeats 1000000 in
theorem rdiv_any (a b : Int) (w : World) (ha : I64 a) (hb : I64 b) :
    Calls Try.prog 25 #[.int .i64 a, .int .i64 b] w fun e w' => e = .returned (.tuple #[.int .i64 (divQ a b), .int .i64 (divR a b), .bool (divB a b)]) ∧ w' = w := by
  by_cases h0 : b = 0
  · subst h0
    have hB : divB a 0 = false := divB_no (.inl rfl)
    unfold divQ divR
    rw [hB]
    clear hB ha hb
    go_enter Try.func25, Try.ntmps25
    go_wp2
    go_ret3
    exact ⟨rfl, rfl⟩
  cases hB : divB a b
  · rw [show divQ a b = 0 by unfold divQ; rw [hB]; rfl, show divR a b = 0 by unfold divR; rw [hB]; rfl]
    obtain ⟨rfl, rfl⟩ : a = -9223372036854775808 ∧ b = -1 := by have := divB_not hB; omega
    have e1 : sgnB false 9223372036854775808 = false := rfl
    clear hB h0
    go_enter Try.func25, Try.ntmps25
    go_wp2_with (first | (go_at_call 35; refine (away_any _ _ ?_).mono ?_; all_goals first | assumption | rintro e w' ⟨rfl, rfl⟩) | (go_at_call 36; refine (signed_any _ _ _ ?_ ?_).mono ?_; all_goals first | omega | rintro e w' ⟨rfl, rfl⟩))
    go_ret3
    exact ⟨rfl, rfl⟩
  obtain ⟨r1, r2⟩ := div_ref a b ha hb h0
  obtain ⟨q1, q2, q3, q4⟩ := refQ_bd a b ha h0
  obtain ⟨r2, r3⟩ := r2 hB
  rw [← r2, ← r3]
  rw [hB] at r1
  have n1 : (a.natAbs : Int) ≤ 9223372036854775808 := by unfold I64 at ha; omega
  have n2 : (b.natAbs : Int) ≤ 9223372036854775808 := by unfold I64 at hb; omega
  have n3 : 0 < (b.natAbs : Int) := by omega
  obtain ⟨s1, s2, s3⟩ := split (a.natAbs : Int) (b.natAbs : Int) (by omega)
  obtain ⟨d1, d2⟩ := div_le (a.natAbs : Int) (b.natAbs : Int) (by omega) (by omega)
  clear s1 r2 r3 hB
  have z0 : (b == 0) = false := by simpa using h0
  have hs : decide (a < 0) = true ∨ decide (a < 0) = false := by cases decide (a < 0) <;> simp
  have ht : decide (b < 0) = true ∨ decide (b < 0) = false := by cases decide (b < 0) <;> simp
  by_cases hc : a < 0 ∧ 0 < (a.natAbs : Int) % (b.natAbs : Int)
  · have k1 : refQ a b = (a.natAbs : Int) / (b.natAbs : Int) + 1 := if_pos hc
    have k2 : refR a b = (b.natAbs : Int) - (a.natAbs : Int) % (b.natAbs : Int) := if_pos hc
    rw [k1] at r1 q1 q2 ⊢
    rw [k2] at q3 q4 ⊢
    obtain ⟨hc1, hc2⟩ := hc
    have hs : decide (a < 0) = true := by simpa using hc1
    clear k1 k2
    rcases ht with ht | ht
    · rw [hs, ht, bneTT] at r1 ⊢
      go_enter Try.func25, Try.ntmps25
      go_wp2_with (first | (go_at_call 35; refine (away_any _ _ ?_).mono ?_; all_goals first | assumption | rintro e w' ⟨rfl, rfl⟩) | (go_at_call 36; refine (signed_any _ _ _ ?_ ?_).mono ?_; all_goals first | omega | rintro e w' ⟨rfl, rfl⟩))
      go_ret3
      exact ⟨rfl, rfl⟩
    · rw [hs, ht, bneTF] at r1 ⊢
      go_enter Try.func25, Try.ntmps25
      go_wp2_with (first | (go_at_call 35; refine (away_any _ _ ?_).mono ?_; all_goals first | assumption | rintro e w' ⟨rfl, rfl⟩) | (go_at_call 36; refine (signed_any _ _ _ ?_ ?_).mono ?_; all_goals first | omega | rintro e w' ⟨rfl, rfl⟩))
      go_ret3
      exact ⟨rfl, rfl⟩
  · have k1 : refQ a b = (a.natAbs : Int) / (b.natAbs : Int) := if_neg hc
    have k2 : refR a b = (a.natAbs : Int) % (b.natAbs : Int) := if_neg hc
    rw [k1] at r1 q1 q2 ⊢
    rw [k2] at q3 q4 ⊢
    clear k1 k2
    by_cases hn : a < 0
    · have hc2 : (a.natAbs : Int) % (b.natAbs : Int) ≤ 0 := by omega
      have hs : decide (a < 0) = true := by simpa using hn
      clear hc
      rcases ht with ht | ht
      · rw [hs, ht, bneTT] at r1 ⊢
        go_enter Try.func25, Try.ntmps25
        go_wp2_with (first | (go_at_call 35; refine (away_any _ _ ?_).mono ?_; all_goals first | assumption | rintro e w' ⟨rfl, rfl⟩) | (go_at_call 36; refine (signed_any _ _ _ ?_ ?_).mono ?_; all_goals first | omega | rintro e w' ⟨rfl, rfl⟩))
        go_ret3
        exact ⟨rfl, rfl⟩
      · rw [hs, ht, bneTF] at r1 ⊢
        go_enter Try.func25, Try.ntmps25
        go_wp2_with (first | (go_at_call 35; refine (away_any _ _ ?_).mono ?_; all_goals first | assumption | rintro e w' ⟨rfl, rfl⟩) | (go_at_call 36; refine (signed_any _ _ _ ?_ ?_).mono ?_; all_goals first | omega | rintro e w' ⟨rfl, rfl⟩))
        go_ret3
        exact ⟨rfl, rfl⟩
    · have hs : decide (a < 0) = false := by simpa using hn
      clear hc
      rcases ht with ht | ht
      · rw [hs, ht, bneFT] at r1 ⊢
        go_enter Try.func25, Try.ntmps25
        go_wp2_with (first | (go_at_call 35; refine (away_any _ _ ?_).mono ?_; all_goals first | assumption | rintro e w' ⟨rfl, rfl⟩) | (go_at_call 36; refine (signed_any _ _ _ ?_ ?_).mono ?_; all_goals first | omega | rintro e w' ⟨rfl, rfl⟩))
        go_ret3
        exact ⟨rfl, rfl⟩
      · rw [hs, ht, bneFF] at r1 ⊢
        go_enter Try.func25, Try.ntmps25
        go_wp2_with (first | (go_at_call 35; refine (away_any _ _ ?_).mono ?_; all_goals first | assumption | rintro e w' ⟨rfl, rfl⟩) | (go_at_call 36; refine (signed_any _ _ _ ?_ ?_).mono ?_; all_goals first | omega | rintro e w' ⟨rfl, rfl⟩))
        go_ret3
        exact ⟨rfl, rfl⟩

end Go.Proofs.Ytpkifhbjlpkcnaa
