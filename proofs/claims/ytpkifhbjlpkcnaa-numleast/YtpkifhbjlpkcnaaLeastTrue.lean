/-
  The walk of NumLeast.
-/
import Derived.Test.YtpkifhbjlpkcnaaLcmCalls
import Derived.Deep.DeepCutAuto
namespace Go.Proofs.Ytpkifhbjlpkcnaa
open Go.RowKit Plain
set_option linter.unusedVariables false

set_option maxRecDepth 100000 in
theorem numLeast_long (a0 : Option Addr) (len cap : Nat) (most times a b d : Int) (w : World) (hl : len ≤ 9223372036854775807) (h : 1000 < len) :
    Calls Try.prog 3 #[.slice a0 len cap, .int .i64 most, .int .i64 times, .int .i64 a, .int .i64 b, .int .i64 d] w fun e w' => e = .returned (.bool true) ∧ ∃ n, w' = w.drewN n := by
  go_enter Try.func3, Try.ntmps3
  go_wp2
  go_ret
  exact ⟨rfl, 0, rfl⟩

set_option maxRecDepth 100000 in
set_option maxHeartbeats 2000000 in
theorem numLeast_true (a0 : Option Addr) (len cap : Nat) (z : Nat → Int) (most times a b d : Int) (w : World) (hl : len ≤ 9223372036854775807) (h : len ≤ 1000)
    (hm : I64 most) (ht : I64 times) (ha : I64 a) (hb : I64 b) (hd : I64 d) (hr : Row w a0 len z) (hB : lcmB z len most = true) :
    Calls Try.prog 3 #[.slice a0 len cap, .int .i64 most, .int .i64 times, .int .i64 a, .int .i64 b, .int .i64 d] w fun e w' => e = .returned (.bool true) ∧ ∃ n, w' = w.drewN n := by
  obtain ⟨V1, V2, V3⟩ := lcmV_facts z len most
  have hv1 : 1 ≤ lcmV z len most := by
    have : decide (0 < lcmV z len most) = true := hB
    simp at this; omega
  have hv2 : lcmV z len most ≤ most := (V2 (by omega)).1
  have HP : Hid (∀ i, i < len → 1 ≤ z i ∧ z i ∣ lcmV z len most) := (V2 (by omega)).2
  have V3 : Hid (∀ t, 1 ≤ t → t ≤ most → (∀ i, i < len → 1 ≤ z i ∧ z i ∣ t) → 0 < lcmV z len most ∧ lcmV z len most ∣ t) := V3
  clear V2
  have HR : Hid (Row w a0 len z) := hr
  go_enter Try.func3, Try.ntmps3
  go_wp2_with (go_at_call 8; refine (lcm64_any _ _ _ z _ _ ?_ ?_ ?_).mono ?_; all_goals first | assumption | (rintro e w' ⟨rfl, n, hw⟩; subst hw))
  clear hr
  go_loop [15, 16] (fun p i => ∃ (q : Bool) (k : Nat), p = .bool q ∧ i = .int .i64 k ∧ k ≤ len ∧ (q = true → ∀ i, i < k → 1 ≤ z i) ∧ (q = false → ∃ i, i < len ∧ z i < 1)) (fun _ i => len - (intOf i).toNat)
  case atStart => exact ⟨true, 0, rfl, rfl, by omega, fun _ i hi => absurd hi (by omega), fun h => by cases h⟩
  case round =>
    obtain ⟨q, k, rfl, rfl, hk, hq1, hq2⟩ := hrel
    have HQ1 : Hid (q = true → ∀ i, i < k → 1 ≤ z i) := hq1
    have HQ2 : Hid (q = false → ∃ i, i < len ∧ z i < 1) := hq2
    clear hq1 hq2
    by_cases hlt : k < len
    · obtain ⟨bk, off, rfl, hck, hzk⟩ := HR.out k hlt
      cases q
      · go_wp2
        go_round
        case rel => exact ⟨false, k + 1, rfl, by go_num, by omega, fun h => by (cases h), HQ2.out⟩
        case measure => simp [intOf]; omega
      · by_cases hz : 1 ≤ z k
        · have hz' : decide (1 ≤ z k) = true := by simpa using hz
          go_wp2
          go_round
          case rel => exact ⟨true, k + 1, rfl, by go_num, by omega, fun _ i hi => (by
            by_cases e : i = k
            · subst e; exact hz
            · exact HQ1.out rfl i (by omega)), fun h => by (cases h)⟩
          case measure => simp [intOf]; omega
        · have hz' : decide (1 ≤ z k) = false := by simpa using hz
          go_wp2
          go_round
          case rel => exact ⟨false, k + 1, rfl, by go_num, by omega, fun h => by (cases h), fun _ => ⟨k, hlt, by omega⟩⟩
          case measure => simp [intOf]; omega
    · have hk' : k = len := by omega
      cases q
      · have hq2 := HQ2.out
        clear HQ1 HQ2
        · exfalso
          obtain ⟨i, hi, hz⟩ := hq2 rfl
          have := HP.out i hi
          omega
      · have HQ : Hid (∀ i, i < len → 1 ≤ z i) := fun i hi => HQ1.out rfl i (by omega)
        clear HQ1 HQ2 hk' hk
        go_upto_region 13 with fail
        go_cut [17] (fun s wx => s = .bool (decide (1 ≤ times ∧ times ≤ most)) ∧ wx = w.drewN n)
        case first =>
          by_cases h1 : 1 ≤ times
          · by_cases h2 : times ≤ most
            · have hb : decide (1 ≤ times ∧ times ≤ most) = true := decide_eq_true ⟨h1, h2⟩
              go_wp2
              go_meet
              case rel => exact ⟨congrArg Value.bool (by first | rfl | (simp; omega)), rfl⟩
            · go_wp2
              go_meet
              case rel => exact ⟨congrArg Value.bool (by first | rfl | (simp; omega)), rfl⟩
          · go_wp2
            go_meet
            case rel => exact ⟨congrArg Value.bool (by first | rfl | (simp; omega)), rfl⟩
        case rest =>
          obtain ⟨rfl, hw⟩ := hcut
          obtain rfl := hw.symm
          clear hw
          go_wp2
          go_loop [17, 18] (fun p i => ∃ (c : Bool) (k : Nat), p = .bool c ∧ i = .int .i64 k ∧ k ≤ len ∧ (c = true → 1 ≤ times ∧ times ≤ most ∧ ∀ i, i < k → z i ∣ times)) (fun _ i => len - (intOf i).toNat)
          case atStart => exact ⟨_, 0, rfl, rfl, by omega, fun h => by (simp at h; exact ⟨h.1, h.2, fun i hi => absurd hi (by omega)⟩)⟩
          case round =>
            obtain ⟨c, k2, rfl, rfl, hk2, hc⟩ := hrel
            have HC : Hid (c = true → 1 ≤ times ∧ times ≤ most ∧ ∀ i, i < k2 → z i ∣ times) := hc
            clear hc
            by_cases hlt2 : k2 < len
            · obtain ⟨bk, off, rfl, hck, hzk⟩ := HR.out k2 hlt2
              have hp := HP.out k2 hlt2
              have hv3 := Int.emod_eq_zero_of_dvd hp.2
              have hzp : 1 ≤ z k2 := hp.1
              clear hp
              cases c
              · go_wp2
                go_round
                case rel => exact ⟨false, k2 + 1, rfl, by go_num, by omega, fun h => by (cases h)⟩
                case measure => simp [intOf]; omega
              · obtain ⟨t1, t2, t3⟩ := HC.out rfl
                have T3 : Hid (∀ i, i < k2 → z i ∣ times) := t3
                clear t3
                by_cases hdv : times % z k2 = 0
                · have hdb : (times % z k2 == 0) = true := by simpa using hdv
                  go_wp2
                  go_round
                  case rel => exact ⟨true, k2 + 1, rfl, by go_num, by omega, fun _ => ⟨t1, t2, fun i hi => (by
                    by_cases e : i = k2
                    · subst e; exact Int.dvd_of_emod_eq_zero hdv
                    · exact T3.out i (by omega))⟩⟩
                  case measure => simp [intOf]; omega
                · have hdb : (times % z k2 == 0) = false := by simpa using hdv
                  go_wp2
                  go_round
                  case rel => exact ⟨false, k2 + 1, rfl, by go_num, by omega, fun h => by (cases h)⟩
                  case measure => simp [intOf]; omega
            · go_upto_region 20 with fail
              go_cut [112] (fun s wx => s = .bool false ∧ wx = w.drewN n)
              case first =>
                cases c
                · go_wp2
                  go_meet
                  case rel => exact ⟨congrArg Value.bool (by first | rfl | (simp; omega)), rfl⟩
                · obtain ⟨t1, t2, t3⟩ := HC.out rfl
                  have hx := (V3.out times t1 t2 (fun i hi => ⟨HQ.out i hi, t3 i (by omega)⟩)).2
                  have hx2 := Int.emod_eq_zero_of_dvd hx
                  clear hx t3
                  go_wp2
                  go_meet
                  case rel => exact ⟨congrArg Value.bool (by first | rfl | (simp; omega)), rfl⟩
              case rest =>
                obtain ⟨rfl, hw⟩ := hcut
                obtain rfl := hw.symm
                clear hw HR HQ V3 HC
                have g0 := gcdF_nonneg a b
                have GD : Hid (gcdF a b ≠ 0 → a.tmod (gcdF a b) = 0 ∧ b.tmod (gcdF a b) = 0) := gcdF_div a b
                have GG : Hid (gcdF a b ≠ 0 → a.tmod d = 0 → b.tmod d = 0 → (gcdF a b).tmod d = 0) := gcdF_great a b d
                have GZ : Hid (gcdF a b = 0 → (a = 0 ∨ a = -9223372036854775808) ∧ (b = 0 ∨ b = -9223372036854775808)) := gcdF_zero a b ha hb
                go_upto_region 23 with (go_at_call 9; refine (gcd64_any _ _ _ ?_ ?_).mono ?_; all_goals first | assumption | (rintro e w' ⟨rfl, n2, hw⟩; subst hw))
                go_cut [133] (fun s wx => s = .bool false ∧ ∃ n3, wx = w.drewN n3)
                case first =>
                  by_cases hg : gcdF a b = 0
                  · have hgb : (gcdF a b != 0) = false := by simp [hg]
                    clear hg
                    go_wp2
                    go_meet
                    case rel => exact ⟨congrArg Value.bool (by first | rfl | (simp; omega)), _, rfl⟩
                  · have hgb : (gcdF a b != 0) = true := by simp [hg]
                    obtain ⟨x1, x2⟩ := GD.out hg
                    go_wp2
                    go_meet
                    case rel => exact ⟨congrArg Value.bool (by first | rfl | (simp; omega)), _, rfl⟩
                case rest =>
                  obtain ⟨rfl, n3, rfl⟩ := hcut
                  go_upto_region 25 with fail
                  go_cut [157] (fun s wx => s = .bool false ∧ ∃ n4, wx = w.drewN n4)
                  case first =>
                    by_cases hd0 : d = 0
                    · have hdb : (d != 0) = false := by simp [hd0]
                      clear hd0
                      go_wp2
                      go_meet
                      case rel => exact ⟨congrArg Value.bool (by first | rfl | (simp; omega)), _, rfl⟩
                    · have hdb : (d != 0) = true := by simp [hd0]
                      by_cases e1 : a.tmod d = 0
                      · by_cases e2 : b.tmod d = 0
                        · by_cases hg : gcdF a b = 0
                          · have hgb : (gcdF a b != 0) = false := by simp [hg]
                            clear hg
                            go_wp2
                            go_meet
                            case rel => exact ⟨congrArg Value.bool (by first | rfl | (simp; omega)), _, rfl⟩
                          · have hgb : (gcdF a b != 0) = true := by simp [hg]
                            have x1 := GG.out hg e1 e2
                            have x2 : gcdF a b % d = 0 := Int.emod_eq_zero_of_dvd (Int.dvd_of_tmod_eq_zero x1)
                            go_wp2
                            go_meet
                            case rel => exact ⟨congrArg Value.bool (by first | rfl | (simp; omega)), _, rfl⟩
                        · have e2b : (b.tmod d == 0) = false := by simpa using e2
                          go_wp2
                          go_meet
                          case rel => exact ⟨congrArg Value.bool (by first | rfl | (simp; omega)), _, rfl⟩
                      · have e1b : (a.tmod d == 0) = false := by simpa using e1
                        go_wp2
                        go_meet
                        case rel => exact ⟨congrArg Value.bool (by first | rfl | (simp; omega)), _, rfl⟩
                  case rest =>
                    obtain ⟨rfl, n4, rfl⟩ := hcut
                    by_cases hg : gcdF a b = 0
                    · have hgb : (gcdF a b != 0) = false := by simp [hg]
                      obtain ⟨y1, y2⟩ := GZ.out hg
                      clear hg GZ GG GD
                      rcases y1 with rfl | rfl <;> rcases y2 with rfl | rfl
                      all_goals
                        go_wp2
                        all_goals (go_ret; exact ⟨congrArg (fun x => Ending.returned (Value.bool x)) (by first | rfl | (simp; omega)), _, rfl⟩)
                    · have hgb : (gcdF a b != 0) = true := by simp [hg]
                      go_wp2
                      all_goals (go_ret; exact ⟨congrArg (fun x => Ending.returned (Value.bool x)) (by first | rfl | (simp; omega)), _, rfl⟩)


end Go.Proofs.Ytpkifhbjlpkcnaa
