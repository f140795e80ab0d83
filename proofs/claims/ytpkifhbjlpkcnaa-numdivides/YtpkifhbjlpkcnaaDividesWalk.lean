/-
  The walk of NumDivides.
-/
import Derived.Test.YtpkifhbjlpkcnaaDivCalls
import Derived.Deep.DeepCutAuto
namespace Go.Proofs.Ytpkifhbjlpkcnaa
open Go.RowKit Plain
set_option linter.unusedVariables false

set_option maxRecDepth 100000 in
set_option maxHeartbeats 1000000 in
theorem numDivides_walk (a b : Int) (w : World) (ha : I64 a) (hb : I64 b) :
    Calls Try.prog 6 #[.int .i64 a, .int .i64 b] w fun e w' => e = .returned (.bool true) ∧ ∃ n, w' = w.drewN n := by
  have c1 := addV_comm ha hb
  have c2 := addB_comm ha hb
  have c3 := mulV_comm a b
  have c4 := mulB_comm a b
  have hmv := mulV_I64 a b
  have SB : Hid (addB a b = true → subV (addV a b) b = a ∧ subB (addV a b) b = true) := sub_back ha hb
  have DB : Hid (b ≠ 0 → mulB a b = true → divQ (mulV a b) b = a ∧ divR (mulV a b) b = 0 ∧ divB (mulV a b) b = true) := div_back ha
  have DF : Hid (divB a b = true → b ≠ 0 ∧ 0 ≤ divR a b ∧ (b < 0 ∨ divR a b < b) ∧ (0 < b ∨ divR a b < -b) ∧ wrap64 (wrap64 (divQ a b * b) + divR a b) = a) := div_facts ha
  have DN : Hid (divB a b = false → b = 0 ∨ (a = -9223372036854775808 ∧ b = -1)) := divB_not
  go_enter Try.func6, Try.ntmps6
  go_upto_if 38 with (go_at_call 11; refine (add_any _ _ _).mono ?_; rintro e w' ⟨rfl, hw⟩; obtain rfl := hw.symm)
  go_cut [5, 6, 7, 8, 38] (fun _ _ _ _ _ wx => wx = w)
  case first =>
    cases hk : addB a b
    · go_wp2
      go_meet
      case rel => exact rfl
    · obtain ⟨s1, s2⟩ := SB.out hk
      go_wp2_with (go_at_call 14; refine (sub_any _ _ _).mono ?_; rintro e w' ⟨rfl, hw⟩; obtain rfl := hw.symm)
      go_meet
      case rel => exact rfl
  case rest =>
    obtain rfl := hcut.symm
    go_upto_region 13 with (go_at_call 15; refine (mul_any _ _ _ ?_ ?_).mono ?_; all_goals first | assumption | (rintro e w' ⟨rfl, hw⟩; obtain rfl := hw.symm))
    go_cut [6, 8, 11, 12, 76] (fun _ _ p _ s wx => p = .int .i64 (mulV a b) ∧ s = .bool (mulB a b && (b != 0)) ∧ wx = w)
    case first =>
      cases hk : mulB a b
      · go_wp2
        go_meet
        case rel => exact ⟨rfl, by simp [hk], rfl⟩
      · go_wp2
        go_meet
        case rel => exact ⟨rfl, by simp [hk], rfl⟩
    case rest =>
      obtain ⟨rfl, rfl, hw⟩ := hcut
      obtain rfl := hw.symm
      go_upto_if 76 with fail
      go_cut [13, 14, 15, 76] (fun _ _ _ _ wx => ∃ n, wx = w.drewN n)
      case first =>
        cases hk : (mulB a b && (b != 0))
        · go_wp2
          go_meet
          case rel => exact ⟨0, rfl⟩
        · simp only [Bool.and_eq_true, bne_iff_ne] at hk
          obtain ⟨s1, s2, s3⟩ := DB.out hk.2 hk.1
          clear hk
          go_wp2_with (go_at_call 16; refine (div_any _ _ _ ?_ ?_).mono ?_; all_goals first | assumption | (rintro e w' ⟨rfl, n, hw⟩; subst hw))
          go_meet
          case rel => exact ⟨_, rfl⟩
      case rest =>
        obtain ⟨n, rfl⟩ := hcut
        clear c1 c2 c3 c4 hmv SB DB
        cases hk : divB a b
        · have hd := DN.out hk
          by_cases h0 : b = 0
          · subst h0
            clear hd
            go_wp2_with (go_at_call 16; refine (div_any _ _ _ ?_ ?_).mono ?_; all_goals first | assumption | (rintro e w' ⟨rfl, n, hw⟩; subst hw))
            go_ret
            exact ⟨rfl, _, rfl⟩
          · obtain ⟨rfl, rfl⟩ : a = -9223372036854775808 ∧ b = -1 := by omega
            clear hd h0
            go_wp2_with (go_at_call 16; refine (div_any _ _ _ ?_ ?_).mono ?_; all_goals first | assumption | (rintro e w' ⟨rfl, n, hw⟩; subst hw))
            go_ret
            exact ⟨rfl, _, rfl⟩
        · obtain ⟨d1, d2, d3, d4, d5⟩ := DF.out hk
          by_cases h0 : 0 < b
          · have d3' : divR a b < b := by omega
            clear d3 d4
            go_wp2_with (go_at_call 16; refine (div_any _ _ _ ?_ ?_).mono ?_; all_goals first | assumption | (rintro e w' ⟨rfl, n, hw⟩; subst hw))
            all_goals (go_ret; exact ⟨congrArg (fun x => Ending.returned (Value.bool x)) (by first | rfl | (simp; omega)), _, rfl⟩)
          · have h0' : b < 0 := by omega
            have d3' : divR a b < -b := by omega
            have hb1 := hb.1
            clear d3 d4
            by_cases hm : b = -9223372036854775808
            · subst hm
              go_wp2_with (go_at_call 16; refine (div_any _ _ _ ?_ ?_).mono ?_; all_goals first | assumption | (rintro e w' ⟨rfl, n, hw⟩; subst hw))
              all_goals (go_ret; exact ⟨congrArg (fun x => Ending.returned (Value.bool x)) (by first | rfl | (simp; omega)), _, rfl⟩)
            · have hm' : -9223372036854775808 < b := by omega
              clear hm
              go_wp2_with (go_at_call 16; refine (div_any _ _ _ ?_ ?_).mono ?_; all_goals first | assumption | (rintro e w' ⟨rfl, n, hw⟩; subst hw))
              all_goals (go_ret; exact ⟨congrArg (fun x => Ending.returned (Value.bool x)) (by first | rfl | (simp; omega)), _, rfl⟩)

end Go.Proofs.Ytpkifhbjlpkcnaa
