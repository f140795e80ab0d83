/-
  One text: NLcmR, CRef, CRef2.
-/
import Derived.Test.YtkjnhhoniodbcaaGreatDoorProg
import Derived.Test.YtkjnhhoniodbcaaGreatDoorNLcm
import Derived.WalkKit
import Derived.WalkSpells
import Derived.WalkLawsBesides
import Derived.WalkMore
import Derived.Deep.QuietTactic
import Derived.BigQuiet
import Derived.Test.YtkjnhhoniodbcaaGreatDoorCHyp
import Derived.Test.YtkjnhhoniodbcaaGreatDoorCHyp2
namespace Go.Proofs.YtkjnhhoniodbcaaGreatDoor
open Go.RowKit Plain
set_option linter.unusedVariables false
set_option maxRecDepth 100000

theorem ret1u {a b : Int} (h : a = b) : Ending.returned (.int .u64 a) = .returned (.int .u64 b) := by rw [h]
theorem ret2' {a b : Int} {x y : Bool} (h : a = b) (h2 : x = y) : Ending.returned (.tuple #[.int .i64 a, .bool x]) = .returned (.tuple #[.int .i64 b, .bool y]) := by rw [h, h2]

theorem away_any (a : Int) (w : World) (ha : I64 a) :
    Calls Tryz.prog 96 #[.int .i64 a] w fun e w' => e = .returned (.int .u64 (a.natAbs : Int)) ∧ w' = w := by
  unfold I64 at ha
  obtain ⟨h1, h2⟩ := ha
  by_cases h : a < 0
  · go_enter Tryz.func96, Tryz.ntmps96
    go_wp2
    go_ret
    exact ⟨ret1u (by omega), rfl⟩
  · go_enter Tryz.func96, Tryz.ntmps96
    go_wp2
    go_ret
    exact ⟨ret1u (by omega), rfl⟩

theorem signed_any (s : Bool) (d : Int) (w : World) (h0 : 0 ≤ d) (h1 : d ≤ 18446744073709551615) :
    Calls Tryz.prog 97 #[.bool s, .int .u64 d] w fun e w' => e = .returned (.tuple #[.int .i64 (sgnV s d), .bool (sgnB s d)]) ∧ w' = w := by
  cases s
  · by_cases h : 9223372036854775807 < d
    · rw [show sgnV false d = 0 from if_pos h, show sgnB false d = false from if_pos h]
      go_enter Tryz.func97, Tryz.ntmps97
      go_wp2
      go_ret2
      exact ⟨rfl, rfl⟩
    · rw [show sgnV false d = d from if_neg h, show sgnB false d = true from if_neg h]
      go_enter Tryz.func97, Tryz.ntmps97
      go_wp2
      go_ret2
      exact ⟨rfl, rfl⟩
  · by_cases h : 9223372036854775808 < d
    · rw [show sgnV true d = 0 from if_pos h, show sgnB true d = false from if_pos h]
      go_enter Tryz.func97, Tryz.ntmps97
      go_wp2
      go_ret2
      exact ⟨rfl, rfl⟩
    · rw [show sgnV true d = -d from if_neg h, show sgnB true d = true from if_neg h]
      by_cases h2 : d = 9223372036854775808
      · have h3 : 9223372036854775808 ≤ d := by omega
        have H2 : Hid (d = 9223372036854775808) := h2
        clear h2
        go_enter Tryz.func97, Tryz.ntmps97
        go_wp2
        all_goals (go_ret2; exact ⟨ret2' (by omega) rfl, rfl⟩)
      · have h3 : d < 9223372036854775808 := by omega
        go_enter Tryz.func97, Tryz.ntmps97
        go_wp2
        go_ret2
        exact ⟨rfl, rfl⟩


set_option maxHeartbeats 1000000 in
theorem rmul_any (a b : Int) (w : World) (ha : I64 a) (hb : I64 b) :
    Calls Tryz.prog 78 #[.int .i64 a, .int .i64 b] w fun e w' => e = .returned (.tuple #[.int .i64 (mulV a b), .bool (mulB a b)]) ∧ w' = w := by
  have n1 : (a.natAbs : Int) ≤ 9223372036854775808 := by unfold I64 at ha; omega
  have n2 : (b.natAbs : Int) ≤ 9223372036854775808 := by unfold I64 at hb; omega
  have p0 : 0 ≤ (a.natAbs : Int) * (b.natAbs : Int) := Int.mul_nonneg (by omega) (by omega)
  by_cases hp : 9223372036854775808 < (a.natAbs : Int) * (b.natAbs : Int)
  · obtain ⟨e1, e2⟩ := mul_ref_no a b hp
    rw [e1, e2]
    have hx : 0 < (a.natAbs : Int) := by
      by_cases h0 : (a.natAbs : Int) = 0
      · rw [h0, Int.zero_mul] at hp; omega
      · omega
    have hd := (fit_div _ _ hx).2 hp
    clear e1 e2
    go_enter Tryz.func78, Tryz.ntmps78
    go_wp2_with (go_at_call 96; refine (away_any _ _ ?_).mono ?_; all_goals first | assumption | rintro e w' ⟨rfl, rfl⟩)
    go_ret2
    exact ⟨rfl, rfl⟩
  · have HM := mul_ref a b hp
    have p1 : (a.natAbs : Int) * (b.natAbs : Int) ≤ 9223372036854775808 := by omega
    have key : ∀ s : Bool, Hid (s = ((decide (a < 0) != decide (b < 0)) && ((a.natAbs : Int) * (b.natAbs : Int) != 0)) → sgnV s ((a.natAbs : Int) * (b.natAbs : Int)) = mulV a b ∧ sgnB s ((a.natAbs : Int) * (b.natAbs : Int)) = mulB a b) := HM
    clear HM
    have hd : 0 < (a.natAbs : Int) → ¬ 9223372036854775808 / (a.natAbs : Int) < (b.natAbs : Int) := fun h => fun h2 => hp ((fit_div _ _ h).1 h2)
    clear hp
    have hz : ((a.natAbs : Int) * (b.natAbs : Int) != 0) = true ∨ ((a.natAbs : Int) * (b.natAbs : Int) != 0) = false := by cases ((a.natAbs : Int) * (b.natAbs : Int) != 0) <;> simp
    have hs : decide (a < 0) = true ∨ decide (a < 0) = false := by cases decide (a < 0) <;> simp
    have ht : decide (b < 0) = true ∨ decide (b < 0) = false := by cases decide (b < 0) <;> simp
    by_cases hx : 0 < (a.natAbs : Int)
    · have hd2 := hd hx
      clear hd
      rcases hz with hz | hz <;> rcases hs with hs | hs <;> rcases ht with ht | ht
      all_goals
        go_enter Tryz.func78, Tryz.ntmps78
        go_wp2_with (first | (go_at_call 96; refine (away_any _ _ ?_).mono ?_; all_goals first | assumption | rintro e w' ⟨rfl, rfl⟩) | (go_at_call 97; refine (signed_any _ _ _ ?_ ?_).mono ?_; all_goals first | omega | rintro e w' ⟨rfl, rfl⟩))
        go_ret2
        exact ⟨ret2' ((key _).out (by simp [hz, hs, ht])).1 ((key _).out (by simp [hz, hs, ht])).2, rfl⟩
    · have hx2 : a = 0 := by omega
      subst hx2
      have e1 : mulV 0 b = 0 := by rw [mulV_yes (by rw [Int.zero_mul]; unfold I64; omega), Int.zero_mul]
      have e2 : mulB 0 b = true := mulB_yes (by rw [Int.zero_mul]; unfold I64; omega)
      rw [e1, e2]
      have e3 : sgnV false 0 = 0 := rfl
      have e4 : sgnB false 0 = true := rfl
      clear hd hx p0 p1 hz hs key n1 e1 e2
      rcases ht with ht | ht
      all_goals
        go_enter Tryz.func78, Tryz.ntmps78
        go_wp2_with (first | (go_at_call 96; refine (away_any _ _ ?_).mono ?_; all_goals first | assumption | rintro e w' ⟨rfl, rfl⟩) | (go_at_call 97; refine (signed_any _ _ _ ?_ ?_).mono ?_; all_goals first | omega | rintro e w' ⟨rfl, rfl⟩))
        go_ret2
        exact ⟨ret2' (by first | rfl | simp [sgnV]) (by first | rfl | simp [sgnB]), rfl⟩


theorem sgn_gcd (a b : Int) (ha : I64 a) (hb : I64 b) : sgnV false (Int.gcd a b : Int) = gcdF a b := by
  unfold gcdF
  by_cases h : (Int.gcd a b : Int) ≤ 9223372036854775807
  · rw [if_pos h]; exact (sgn_up h).1
  · have h2 : 9223372036854775807 < (Int.gcd a b : Int) := by omega
    rw [if_neg h]; exact if_pos h2

theorem u64_mod (X Y : Nat) : Value.int .u64 ((X : Int) % (Y : Int)) = .int .u64 ((X % Y : Nat) : Int) := by rw [Int.natCast_emod]

set_option maxHeartbeats 400000 in
theorem rgcd_any (a b : Int) (w : World) (ha : I64 a) (hb : I64 b) :
    Calls Tryz.prog 79 #[.int .i64 a, .int .i64 b] w fun e w' => e = .returned (.int .i64 (gcdF a b)) ∧ w' = w := by
  have n1 : (a.natAbs : Int) ≤ 9223372036854775808 := by unfold I64 at ha; omega
  have n2 : (b.natAbs : Int) ≤ 9223372036854775808 := by unfold I64 at hb; omega
  have HS : Hid (sgnV false (Int.gcd a b : Int) = gcdF a b) := sgn_gcd a b ha hb
  go_enter Tryz.func79, Tryz.ntmps79
  go_wp2_with (go_at_call 96; refine (away_any _ _ ?_).mono ?_; all_goals first | assumption | (rintro e w' ⟨rfl, hw⟩; obtain rfl := hw.symm))
  go_loop [5, 6] (fun x y => ∃ X Y : Nat, (X : Int) ≤ 9223372036854775808 ∧ (Y : Int) ≤ 9223372036854775808 ∧ x = .int .u64 X ∧ y = .int .u64 Y ∧ Nat.gcd X Y = Int.gcd a b) (fun _ y => (intOf y).toNat)
  case atStart => exact ⟨a.natAbs, b.natAbs, n1, n2, rfl, rfl, rfl⟩
  case round =>
    obtain ⟨X, Y, hX, hY, rfl, rfl, hg⟩ := hrel
    have HG : Hid (Nat.gcd X Y = Int.gcd a b) := hg
    clear hg
    by_cases h0 : Y = 0
    · subst h0
      have H2 : Hid (sgnV false (X : Int) = gcdF a b) := by
        have := HG.out
        rw [Nat.gcd_zero_right] at this
        have e := HS.out
        rw [← this] at e
        exact e
      clear HS HG
      go_wp2_with (go_at_call 97; refine (signed_any _ _ _ ?_ ?_).mono ?_; all_goals first | omega | (rintro e w' ⟨rfl, hw⟩; obtain rfl := hw.symm))
      go_ret
      exact ⟨ret1 H2.out, rfl⟩
    · have h1 : 0 < (Y : Int) := by omega
      have h2 : X % Y < Y := Nat.mod_lt _ (by omega)
      have H3 : Hid (Nat.gcd Y (X % Y) = Int.gcd a b) := by
        have e : Nat.gcd Y (X % Y) = Nat.gcd X Y := by rw [Nat.gcd_comm, ← Nat.gcd_rec, Nat.gcd_comm]
        exact e.trans HG.out
      have h4 : ((X : Int) % (Y : Int)) = ((X % Y : Nat) : Int) := (Int.natCast_emod X Y).symm
      have H4 : Hid (((X : Int) % (Y : Int)) = ((X % Y : Nat) : Int)) := h4
      clear HG h4
      go_wp2
      go_round
      case rel => exact ⟨Y, X % Y, hY, by omega, rfl, by rw [H4.out], H3.out⟩
      case measure => simp [intOf]; omega



theorem lcm_small (z : Nat → Int) (len : Nat) (most : Int) (i : Nat) (hi : i < len) (h : z i < 1) : lcmV z len most = 0 ∧ lcmB z len most = false := by
  obtain ⟨V1, V2, _⟩ := lcmV_facts z len most
  have hv : lcmV z len most = 0 := by
    by_cases hp : 0 < lcmV z len most
    · have := ((V2 hp).2 i hi).1; omega
    · omega
  unfold lcmB; rw [hv]; exact ⟨rfl, rfl⟩

set_option maxHeartbeats 1000000 in
theorem rlcm_any (a0 : Option Addr) (len cap : Nat) (z : Nat → Int) (most : Int) (w : World) (hl : len ≤ 9223372036854775807) (hm : I64 most) (hr : Row w a0 len z) :
    Calls Tryz.prog 58 #[.slice a0 len cap, .int .i64 most] w fun e w' => e = .returned (.tuple #[.int .i64 (lcmV z len most), .bool (lcmB z len most)]) ∧ ∃ n, w' = w.drewN n := by
  have HR : Hid (Row w a0 len z) := hr
  clear hr
  have hm2 := hm.2
  go_enter Tryz.func58, Tryz.ntmps58
  go_wp2
  go_loop [7] (fun i => ∃ k : Nat, i = .int .i64 k ∧ k ≤ len ∧ ∀ i, i < k → 1 ≤ z i) (fun i => len - (intOf i).toNat)
  case atStart => exact ⟨0, rfl, by omega, fun i hi => absurd hi (by omega)⟩
  case round =>
    obtain ⟨k, rfl, hk, hz⟩ := hrel
    have HZ : Hid (∀ i, i < k → 1 ≤ z i) := hz
    clear hz
    by_cases hlt : k < len
    · obtain ⟨bk, off, rfl, hck, hzk⟩ := HR.out k hlt
      by_cases h1 : z k < 1
      · have HE : Hid (lcmV z len most = 0 ∧ lcmB z len most = false) := lcm_small z len most k hlt h1
        go_wp2
        go_ret2
        exact ⟨ret2 HE.out.1.symm HE.out.2.symm, 0, rfl⟩
      · go_wp2
        go_round
        case rel => exact ⟨k + 1, by go_num, by omega, fun i hi => (by
          by_cases e : i = k
          · subst e; omega
          · exact HZ.out i (by omega))⟩
        case measure => simp [intOf]; omega
    · have HZ2 : Hid (∀ i, i < len → 1 ≤ z i) := fun i hi => HZ.out i (by omega)
      clear HZ hk
      by_cases hmost : most < 1
      · have HE : Hid (lcmV z len most = 0 ∧ lcmB z len most = false) := lcm_less z len most hmost
        go_wp2
        go_loopw [6, 8] (fun x i wx => x = .int .i64 1 ∧ i = .int .i64 0 ∧ wx = w) (fun _ i _ => 0)
        case atStart => exact ⟨rfl, rfl, rfl⟩
        case round =>
          obtain ⟨rfl, rfl, hw⟩ := hrel
          obtain rfl := hw.symm
          by_cases h0 : len = 0
          · subst h0
            go_wp2
            go_ret2
            exact ⟨ret2 HE.out.1.symm HE.out.2.symm, 0, rfl⟩
          · have h0' : 0 < len := by omega
            obtain ⟨bk, off, rfl, hck0, hzk⟩ := HR.out 0 h0'
            have hck : w.cell? ⟨bk, off, none⟩ = some (.int .i64 (z 0)) := by simpa using hck0
            clear hck0
            have h1 := HZ2.out 0 h0'
            have hzk2 := hzk.2
            obtain ⟨g1, g2, g3, g4⟩ := lcmGo_ref z 0 1 (by omega) (by omega) h1 hzk.2
            have hI1 : I64 1 := by unfold I64; omega
            have hI2 : I64 (z 0 / gcdF 1 (z 0)) := by unfold I64; omega
            have m1 : mulV 1 (z 0 / gcdF 1 (z 0)) = z 0 / gcdF 1 (z 0) := by rw [mulV_yes (by rw [Int.one_mul]; exact hI2), Int.one_mul]
            have m2 : mulB 1 (z 0 / gcdF 1 (z 0)) = true := mulB_yes (by rw [Int.one_mul]; exact hI2)
            clear g1
            go_wp2
            go_quiet ((first | (go_at_call 79; refine Calls.quiet_of_same (rgcd_any _ _ _ ?_ ?_) <;> assumption) | (go_at_call 78; refine Calls.quiet_of_same (rmul_any _ _ _ ?_ ?_) <;> assumption)))
            go_wp2
            go_ret2
            exact ⟨ret2 HE.out.1.symm HE.out.2.symm, _, rfl⟩
      · have HV : Hid (lcmV z len most = lcmGo most z len 0 1) := if_neg hmost
        go_wp2
        go_loopw [6, 8] (fun x y wx => ∃ (m : Int) (k n : Nat), 1 ≤ m ∧ m ≤ most ∧ k ≤ len ∧ x = .int .i64 m ∧ y = .int .i64 k ∧ lcmGo most z (len - k) k m = lcmV z len most ∧ wx = w.drewN n) (fun _ y _ => len - (intOf y).toNat)
        case atStart => exact ⟨1, 0, 0, by omega, by omega, by omega, rfl, rfl, HV.out.symm, rfl⟩
        case round =>
          obtain ⟨m, k2, n, hm1, hm3, hk2, rfl, rfl, hg, hw⟩ := hrel
          have HW : Hid (_ = w.drewN n) := hw
          clear hw
          by_cases hlt2 : k2 < len
          · obtain ⟨bk, off, rfl, hck0, hzk⟩ := HR.out k2 hlt2
            have hck := hck0
            rw [show w.cell? ⟨bk, off + k2, none⟩ = (w.drewN n).cell? ⟨bk, off + k2, none⟩ from rfl, ← HW.out] at hck
            clear hck0
            have h1 := HZ2.out k2 hlt2
            have hzk2 := hzk.2
            obtain ⟨g1, g2, g3, g4⟩ := lcmGo_ref z k2 m (by omega) (by omega) h1 hzk.2
            have hI1 : I64 m := by unfold I64; omega
            have hI2 : I64 (z k2 / gcdF m (z k2)) := by unfold I64; omega
            have hg' : lcmGo most z ((len - (k2 + 1)) + 1) k2 m = lcmV z len most := by rw [show (len - (k2 + 1)) + 1 = len - k2 by omega]; exact hg
            have hf := lcm_fit most m (z k2 / gcdF m (z k2)) hm1
            have hno : most < m * (z k2 / gcdF m (z k2)) → lcmV z len most = 0 ∧ lcmB z len most = false := fun hn => by
              have hv : lcmV z len most = 0 := hg'.symm.trans (lcmGo_no (by rw [← g1]; exact .inr (hf.2 hn)))
              unfold lcmB; rw [hv]; exact ⟨rfl, rfl⟩
            have hyes : ¬ most < m * (z k2 / gcdF m (z k2)) → lcmGo most z (len - (k2 + 1)) (k2 + 1) (m * (z k2 / gcdF m (z k2))) = lcmV z len most := by
              intro hn
              have h3 : ¬ (z k2 < 1 ∨ most / m < z k2 / (Int.gcd m (z k2) : Int)) := by rw [← g1]; omega
              have h4 := lcmGo_yes (n := len - (k2 + 1)) h3
              rw [← g1] at h4
              exact h4.symm.trans hg'
            have hs := (lcm_step m (z k2) hm1 h1).2.2.1
            rw [← g1] at hs
            have HNO : Hid (most < m * (z k2 / gcdF m (z k2)) → lcmV z len most = 0 ∧ lcmB z len most = false) := hno
            have HYES : Hid (¬ most < m * (z k2 / gcdF m (z k2)) → lcmGo most z (len - (k2 + 1)) (k2 + 1) (m * (z k2 / gcdF m (z k2))) = lcmV z len most) := hyes
            clear hno hyes hf hg hg' g1
            by_cases hI : I64 (m * (z k2 / gcdF m (z k2)))
            · have m1 := mulV_yes hI
              have m2 := mulB_yes hI
              by_cases hb : most < m * (z k2 / gcdF m (z k2))
              · have HE := HNO.out hb
                have HE : Hid (lcmV z len most = 0 ∧ lcmB z len most = false) := HE
                clear HNO HYES hI
                go_wp2
                go_quiet ((first | (go_at_call 79; refine Calls.quiet_of_same (rgcd_any _ _ _ ?_ ?_) <;> assumption) | (go_at_call 78; refine Calls.quiet_of_same (rmul_any _ _ _ ?_ ?_) <;> assumption)))
                go_wp2
                go_ret2
                exact ⟨ret2 HE.out.1.symm HE.out.2.symm, _, by rw [HW.out, World.drewN_drewN]⟩
              · have HG : Hid (lcmGo most z (len - (k2 + 1)) (k2 + 1) (m * (z k2 / gcdF m (z k2))) = lcmV z len most) := HYES.out hb
                clear HNO HYES hI
                go_wp2
                go_quiet ((first | (go_at_call 79; refine Calls.quiet_of_same (rgcd_any _ _ _ ?_ ?_) <;> assumption) | (go_at_call 78; refine Calls.quiet_of_same (rmul_any _ _ _ ?_ ?_) <;> assumption)))
                go_wp2
                go_roundw
                case rel => exact ⟨m * (z k2 / gcdF m (z k2)), k2 + 1, _, hs, by omega, by omega, rfl, by go_num, HG.out, by rw [HW.out, World.drewN_drewN]⟩
                case measure => simp [intOf]; omega
            · have m2 := mulB_no hI
              have HE : Hid (lcmV z len most = 0 ∧ lcmB z len most = false) := HNO.out (by unfold I64 at hI; omega)
              clear HNO HYES hI
              go_wp2
              go_quiet ((first | (go_at_call 79; refine Calls.quiet_of_same (rgcd_any _ _ _ ?_ ?_) <;> assumption) | (go_at_call 78; refine Calls.quiet_of_same (rmul_any _ _ _ ?_ ?_) <;> assumption)))
              go_wp2
              go_ret2
              exact ⟨ret2 HE.out.1.symm HE.out.2.symm, _, by rw [HW.out, World.drewN_drewN]⟩
          · have hk' : k2 = len := by omega
            have hv : m = lcmV z len most := by rw [← hg, hk', Nat.sub_self]; rfl
            have HE : Hid (m = lcmV z len most ∧ true = lcmB z len most) := ⟨hv, by unfold lcmB; rw [← hv]; simp; omega⟩
            clear hv hg HV
            go_wp2
            go_ret2
            exact ⟨ret2 HE.out.1 HE.out.2, _, HW.out⟩

end Go.Proofs.YtkjnhhoniodbcaaGreatDoor

namespace Go.Proofs.YtkjnhhoniodbcaaGreatDoor
open Go.RowKit Plain
set_option linter.unusedVariables false
set_option maxRecDepth 100000
set_option linter.unusedSimpArgs false

theorem rwithin_any (n lo hi : Int) (w : World) :
    Calls Tryz.prog 77 #[.int .i64 n, .int .i64 lo, .int .i64 hi] w fun e w' => e = .returned (.bool (inB n lo hi)) ∧ w' = w := by
  by_cases h : lo ≤ n
  · by_cases h2 : n ≤ hi
    · rw [show inB n lo hi = true by simp [inB, h, h2]]
      go_enter Tryz.func77, Tryz.ntmps77
      go_wp2
      go_ret
      exact ⟨rfl, rfl⟩
    · rw [show inB n lo hi = false by simp [inB, h2]]
      go_enter Tryz.func77, Tryz.ntmps77
      go_wp2
      go_ret
      exact ⟨rfl, rfl⟩
  · rw [show inB n lo hi = false by simp [inB, h]]
    go_enter Tryz.func77, Tryz.ntmps77
    go_wp2
    go_ret
    exact ⟨rfl, rfl⟩

theorem idxF_take (xs : List Srv) (q : Int) (i : Nat) : ∀ k, k ≤ i → idxF (xs.take i) q k = idxF xs q k
  | 0, _ => rfl
  | k + 1, h => by
    have e : (xs.take i).getD k ⟨0, 0, 0, 0⟩ = xs.getD k ⟨0, 0, 0, 0⟩ := by
      simp only [List.getD_eq_getElem?_getD, List.getElem?_take]
      rw [if_pos (by omega)]
    rw [idxF, idxF, idxF_take xs q i k (by omega), e]

/-- the document's rule of one server -/
def okF (xs : List Srv) (i : Nat) : Bool :=
  decide (idxF xs (xs.getD i ⟨0, 0, 0, 0⟩).q i = -1) && (inB (xs.getD i ⟨0, 0, 0, 0⟩).p 1 1048576 && (inB (xs.getD i ⟨0, 0, 0, 0⟩).b 1 (xs.getD i ⟨0, 0, 0, 0⟩).p && (inB (xs.getD i ⟨0, 0, 0, 0⟩).o 0 (wrap64 ((xs.getD i ⟨0, 0, 0, 0⟩).p - 1)) && inB (xs.getD i ⟨0, 0, 0, 0⟩).q 0 255)))
theorem rows_ok (xs : List Srv) (i : Nat) : rowsF (fun j => if bS xs i j then 0 else 101) 5 = if okF xs i then 0 else 101 := by
  have e4 : bS xs i 4 = decide (idxF xs (xs.getD i ⟨0, 0, 0, 0⟩).q i = -1) := by
    show (!decide (0 ≤ idxF (xs.take i) (xs.getD i ⟨0, 0, 0, 0⟩).q i)) = _
    rw [idxF_take xs _ i i (Nat.le_refl _)]
    have := idx_ge xs (xs.getD i ⟨0, 0, 0, 0⟩).q i
    generalize idxF xs (xs.getD i ⟨0, 0, 0, 0⟩).q i = z at *
    by_cases h : z = -1
    · subst h; rfl
    · rw [decide_eq_false h, decide_eq_true (show 0 ≤ z by omega)]; rfl
  have e0 : bS xs i 0 = inB (xs.getD i ⟨0, 0, 0, 0⟩).p 1 1048576 := rfl
  have e1 : bS xs i 1 = inB (xs.getD i ⟨0, 0, 0, 0⟩).b 1 (xs.getD i ⟨0, 0, 0, 0⟩).p := rfl
  have e2 : bS xs i 2 = inB (xs.getD i ⟨0, 0, 0, 0⟩).o 0 (wrap64 ((xs.getD i ⟨0, 0, 0, 0⟩).p - 1)) := rfl
  have e3 : bS xs i 3 = inB (xs.getD i ⟨0, 0, 0, 0⟩).q 0 255 := rfl
  unfold okF
  rw [← e0, ← e1, ← e2, ← e3, ← e4]
  simp only [rowsF]
  cases bS xs i 0 <;> cases bS xs i 1 <;> cases bS xs i 2 <;> cases bS xs i 3 <;> cases bS xs i 4 <;> rfl

set_option maxHeartbeats 1000000 in
theorem rserver_any (F : Nat → Prop) (a : Option Addr) (n c : Nat) (xs : List Srv) (i : Nat) (w : World) (h : Sv w F a n c xs) (hi : i < n) :
    Calls Tryz.prog 57 #[.slice a n c, .int .i64 i] w fun e w' => e = .returned (.bool (okF xs i)) ∧ Kept No w w' := by
  have hn : n ≤ 9223372036854775807 := Nat.le_trans h.cap h.max
  have H : Hid (Sv w F a n c xs) := h
  have hx : xs[i]? = some (xs.getD i ⟨0, 0, 0, 0⟩) := by rw [List.getD, List.getElem?_eq_getElem (by rw [h.len]; exact hi)]; rfl
  obtain ⟨hok, b, o, rfl, hb, c0, c1, c2, c3⟩ := h.at' i _ hx
  have HO : Hid (okF xs i = (decide (idxF xs (xs.getD i ⟨0, 0, 0, 0⟩).q i = -1) && (inB (xs.getD i ⟨0, 0, 0, 0⟩).p 1 1048576 && (inB (xs.getD i ⟨0, 0, 0, 0⟩).b 1 (xs.getD i ⟨0, 0, 0, 0⟩).p && (inB (xs.getD i ⟨0, 0, 0, 0⟩).o 0 (wrap64 ((xs.getD i ⟨0, 0, 0, 0⟩).p - 1)) && inB (xs.getD i ⟨0, 0, 0, 0⟩).q 0 255))))) := rfl
  clear h hx hok hb
  generalize xs.getD i ⟨0, 0, 0, 0⟩ = y at *
  obtain ⟨yp, yb, yo, yq⟩ := y
  simp only at c0 c1 c2 c3 HO
  generalize okF xs i = R at *
  have HK1 : Hid (Kept No w (w.alloc (.cells #[.int .i64 yp, .int .i64 yb, .int .i64 yo, .int .i64 yq] 43))) := (Kept.refl No w).alloc _
  obtain ⟨b0, q0⟩ : ∃ z, inB yp 1 1048576 = z := ⟨_, rfl⟩
  obtain ⟨b1, q1⟩ : ∃ z, inB yb 1 yp = z := ⟨_, rfl⟩
  obtain ⟨b2, q2⟩ : ∃ z, inB yo 0 (wrap64 (yp - 1)) = z := ⟨_, rfl⟩
  obtain ⟨b3, q3⟩ : ∃ z, inB yq 0 255 = z := ⟨_, rfl⟩
  rw [q0, q1, q2, q3] at HO
  have Q0 : Hid (inB yp 1 1048576 = b0) := q0
  have Q1 : Hid (inB yb 1 yp = b1) := q1
  have Q2 : Hid (inB yo 0 (wrap64 (yp - 1)) = b2) := q2
  have Q3 : Hid (inB yq 0 255 = b3) := q3
  clear q0 q1 q2 q3
  go_enter Tryz.func57, Tryz.ntmps57
  go_upto_region 2 with fail
  generalize hW1 : w.alloc (.cells #[.int .i64 yp, .int .i64 yb, .int .i64 yo, .int .i64 yq] 43) = w1 at *
  have HCY : Hid (w1.cell? ⟨w.heap.size, 0, none⟩ = some (.int .i64 yp) ∧ w1.cell? ⟨w.heap.size, 1, none⟩ = some (.int .i64 yb) ∧ w1.cell? ⟨w.heap.size, 2, none⟩ = some (.int .i64 yo) ∧ w1.cell? ⟨w.heap.size, 3, none⟩ = some (.int .i64 yq)) := by subst hW1; exact ⟨by simp, by simp, by simp, by simp⟩
  clear hW1 c0 c1 c2 c3
  go_wp2
  go_loopw [6] (fun x wr => ∃ k : Nat, k ≤ i ∧ x = .int .i64 k ∧ (∃ m, wr = w1.drewN m) ∧ idxF xs yq k = -1) (fun x _ => i - (intOf x).toNat)
  case atStart => exact ⟨0, by omega, rfl, ⟨0, rfl⟩, rfl⟩
  case round =>
    obtain ⟨k, hk, rfl, ⟨m, rfl⟩, hno⟩ := hrel
    have HNO : Hid (idxF xs yq k = -1) := hno
    clear hno
    by_cases hlt : k < i
    · have hx : xs[k]? = some (xs.getD k ⟨0, 0, 0, 0⟩) := by rw [List.getD, List.getElem?_eq_getElem (by rw [H.out.len]; omega)]; rfl
      obtain ⟨hok, b', o', he, hb, d0, d1, d2, d3⟩ := (H.out.keep HK1.out).at' k _ hx
      simp only [Option.some.injEq, Addr.mk.injEq, and_true] at he
      obtain ⟨rfl, rfl⟩ := he
      have z3 := HCY.out.2.2.2
      clear d0 d1 d2 hx hok hb
      by_cases hq : (xs.getD k ⟨0, 0, 0, 0⟩).q = yq
      · have HF : Hid (idxF xs yq i = k) := idxF_hit HNO.out hq i hlt
        have HR : Hid (R = false) := by
          have := HO.out
          rw [HF.out, decide_eq_false (show ¬ (k : Int) = -1 by omega), Bool.false_and] at this
          exact this
        rw [hq] at d3
        go_wp2
        go_quiet (fail)
        go_wp2
        go_ret
        exact ⟨by rw [HR.out]; rfl, (HK1.out.drewN _).drewN _⟩
      · have HF : Hid (idxF xs yq (k + 1) = -1) := idxF_miss HNO.out hq
        have hq2 : ¬ (xs.getD k ⟨0, 0, 0, 0⟩).q = yq := hq
        generalize (xs.getD k ⟨0, 0, 0, 0⟩).q = q' at *
        go_wp2
        go_quiet (fail)
        go_wp2
        go_roundw
        case rel => exact ⟨k + 1, by omega, by go_num, ⟨_, rfl⟩, HF.out⟩
        case measure => simp [intOf]; omega
    · have hke : k = i := by omega
      subst hke
      have HR : Hid (R = (b0 && (b1 && (b2 && b3)))) := by
        have := HO.out
        rw [HNO.out] at this
        have t2 : R = (b0 && (b1 && (b2 && b3))) := by simpa using this
        exact t2
      obtain ⟨z0, z1, z2, z3⟩ := HCY.out
      clear HO HNO HCY
      have q0 := Q0.out
      have q1 := Q1.out
      have q2 := Q2.out
      have q3 := Q3.out
      cases b0
      · go_wp2_with (go_at_call 77; refine (rwithin_any _ _ _ _).mono ?_; rintro e w' ⟨rfl, rfl⟩; (try simp only [q0, q1, q2, q3]))
        go_ret
        exact ⟨by rw [HR.out]; rfl, HK1.out.drewN _⟩
      cases b1
      · go_wp2_with (go_at_call 77; refine (rwithin_any _ _ _ _).mono ?_; rintro e w' ⟨rfl, rfl⟩; (try simp only [q0, q1, q2, q3]))
        go_ret
        exact ⟨by rw [HR.out]; rfl, HK1.out.drewN _⟩
      cases b2
      · go_wp2_with (go_at_call 77; refine (rwithin_any _ _ _ _).mono ?_; rintro e w' ⟨rfl, rfl⟩; (try simp only [q0, q1, q2, q3]))
        go_ret
        exact ⟨by rw [HR.out]; rfl, HK1.out.drewN _⟩
      cases b3
      · go_wp2_with (go_at_call 77; refine (rwithin_any _ _ _ _).mono ?_; rintro e w' ⟨rfl, rfl⟩; (try simp only [q0, q1, q2, q3]))
        go_ret
        exact ⟨by rw [HR.out]; rfl, HK1.out.drewN _⟩
      · go_wp2_with (go_at_call 77; refine (rwithin_any _ _ _ _).mono ?_; rintro e w' ⟨rfl, rfl⟩; (try simp only [q0, q1, q2, q3]))
        go_ret
        exact ⟨by rw [HR.out]; rfl, HK1.out.drewN _⟩

theorem servF_ok (xs : List Srv) (n : Nat) : servF xs n = eachF (fun i => if okF xs i then 0 else 101) 1 n := by
  unfold servF
  congr 1
  funext i
  exact rows_ok xs i

set_option maxHeartbeats 2000000 in
theorem rservers_any (F : Nat → Prop) (a : Option Addr) (n c : Nat) (xs : List Srv) (w : World) (h : Sv w F a n c xs) :
    Calls Tryz.prog 41 #[.slice a n c] w fun e w' => e = .returned (.tuple #[.int .i64 (fe (findF xs n)), .int .i64 (fn (findF xs n))]) ∧ Kept No w w' := by
  have hn : n ≤ 9223372036854775807 := Nat.le_trans h.cap h.max
  have H : Hid (Sv w F a n c xs) := h
  clear h
  by_cases h32 : n ≤ 32
  · have HF : Hid (findF xs n = eachF (fun i => if okF xs i then 0 else 101) 1 n) := by show findF xs n = _; unfold findF; rw [if_pos h32, servF_ok]
    rw [HF.out]
    obtain ⟨fe0, hfe⟩ : ∃ z, z = fe (eachF (fun i => if okF xs i then 0 else 101) 1 n) := ⟨_, rfl⟩
    obtain ⟨fn0, hfn⟩ : ∃ z, z = fn (eachF (fun i => if okF xs i then 0 else 101) 1 n) := ⟨_, rfl⟩
    rw [← hfe, ← hfn]
    have HFE : Hid (fe0 = fe (eachF (fun i => if okF xs i then 0 else 101) 1 n)) := hfe
    have HFN : Hid (fn0 = fn (eachF (fun i => if okF xs i then 0 else 101) 1 n)) := hfn
    clear hfe hfn HF
    go_enter Tryz.func41, Tryz.ntmps41
    go_wp2
    go_loopw [4] (fun x wr => ∃ k : Nat, k ≤ n ∧ x = .int .i64 k ∧ Kept No w wr ∧ eachF (fun i => if okF xs i then 0 else 101) 1 k = none) (fun x _ => n - (intOf x).toNat)
    case atStart => exact ⟨0, by omega, rfl, Kept.refl No w, rfl⟩
    case round =>
      obtain ⟨k, hk, rfl, hkr, hno⟩ := hrel
      have HNO : Hid (eachF (fun i => if okF xs i then 0 else 101) 1 k = none) := hno
      have HKR : Hid (Kept No w wr) := hkr
      clear hno
      by_cases hlt : k < n
      · have hc := rserver_any F a n c xs k wr (H.out.keep hkr) hlt
        clear hkr
        cases hb : okF xs k
        · have HE : Hid (fe0 = 101 ∧ fn0 = 1 + k) := by
            have := eachF_hit (r := fun i => if okF xs i then 0 else 101) HNO.out (by simp [hb]) n hlt
            have e1 := HFE.out
            have e2 := HFN.out
            rw [this] at e1 e2
            simp only [hb] at e1 e2
            exact ⟨e1, e2⟩
          rw [hb] at hc
          clear hb
          go_wp2_with (go_at_call 57; refine hc.mono ?_; rintro e w' ⟨rfl, hk1⟩; have HK2 : Hid (Kept No w w') := HKR.out.trans hk1 (fun _ h => h.elim); clear hk1)
          go_ret2
          refine ⟨?_, HK2.out⟩
          rw [HE.out.1, HE.out.2, Int.add_comm]
          rfl
        · have HE : Hid (eachF (fun i => if okF xs i then 0 else 101) 1 (k + 1) = none) := eachF_miss (r := fun i => if okF xs i then 0 else 101) HNO.out (by simp [hb])
          rw [hb] at hc
          clear hb
          go_wp2_with (go_at_call 57; refine hc.mono ?_; rintro e w' ⟨rfl, hk1⟩; have HK2 : Hid (Kept No w w') := HKR.out.trans hk1 (fun _ h => h.elim); clear hk1)
          go_roundw
          case rel => exact ⟨k + 1, by omega, by go_num, HK2.out, HE.out⟩
          case measure => simp [intOf]; omega
      · have hke : k = n := by omega
        subst hke
        have HE : Hid (fe0 = 0 ∧ fn0 = 0) := by
          have e1 := HFE.out
          have e2 := HFN.out
          rw [HNO.out] at e1 e2
          exact ⟨e1, e2⟩
        clear hkr
        go_wp2
        go_ret2
        refine ⟨?_, HKR.out⟩
        rw [HE.out.1, HE.out.2]
        rfl
  · have HF : Hid (findF xs n = some (100, 0)) := by show findF xs n = some (100, 0); unfold findF; rw [if_neg h32]
    rw [HF.out]
    show Calls Tryz.prog 41 #[.slice a n c] w fun e w' => e = .returned (.tuple #[.int .i64 100, .int .i64 0]) ∧ Kept No w w'
    have HK : Hid (Kept No w w) := Kept.refl No w
    go_enter Tryz.func41, Tryz.ntmps41
    go_wp2
    go_ret2
    exact ⟨rfl, HK.out⟩
end Go.Proofs.YtkjnhhoniodbcaaGreatDoor

namespace Go.Proofs.YtkjnhhoniodbcaaGreatDoor
open Go.RowKit Plain
set_option linter.unusedVariables false
set_option linter.unusedSimpArgs false
set_option maxRecDepth 100000

set_option maxHeartbeats 4000000 in
theorem rhyper_any (F : Nat → Prop) (a : Option Addr) (n c : Nat) (xs : List Srv) (w : World) (h : Sv w F a n c xs) (hn : n ≤ 70000) :
    Calls Tryz.prog 42 #[.slice a n c] w fun e w' => e = .returned (.tuple #[.int .i64 (lcmV (zP xs) n 1048576), .bool (lcmB (zP xs) n 1048576)]) ∧ Kept No w w' := by
  obtain ⟨i0, hi, hz0, hz1, hz2⟩ := info_parts Tryz.infoL
  have H : Hid (Sv w F a n c xs) := h
  obtain ⟨z1, hz1'⟩ : ∃ z, z = lcmV (zP xs) n 1048576 := ⟨_, rfl⟩
  obtain ⟨z2, hz2'⟩ : ∃ z, z = lcmB (zP xs) n 1048576 := ⟨_, rfl⟩
  rw [← hz1', ← hz2']
  have HZ1 : Hid (z1 = lcmV (zP xs) n 1048576) := hz1'
  have HZ2 : Hid (z2 = lcmB (zP xs) n 1048576) := hz2'
  have hz1b : -9223372036854775808 ≤ z1 ∧ z1 ≤ 9223372036854775807 := by have := lcm_bd xs n; rw [hz1']; omega
  clear h hz1' hz2'
  go_enter Tryz.func42, Tryz.ntmps42
  go_wp2
  go_loopw [4, 5] (fun v x wr => ∃ k : Nat, k ≤ n ∧ x = .int .i64 k ∧ Kept No w wr ∧ wr.ownsRow w.heap.size 2 1 v k ((psP xs k).map iv)) (fun _ x _ => n - (intOf x).toNat)
  case atStart => exact ⟨0, by omega, rfl, Kept.refl No w, ⟨rfl, .inl ⟨rfl, rfl⟩⟩⟩
  case round =>
    obtain ⟨k, hk, rfl, hkr, hown⟩ := hrel
    by_cases hlt : k < n
    · have hx : xs[k]? = some (xs.getD k ⟨0, 0, 0, 0⟩) := by rw [List.getD, List.getElem?_eq_getElem (by rw [H.out.len]; exact hlt)]; rfl
      obtain ⟨hok, b, o, rfl, hb, c0, c1, c2, c3⟩ := (H.out.keep hkr).at' k _ hx
      have HNX : Hid ((psP xs (k + 1)).map iv = (psP xs k).map iv ++ [.int .i64 (xs.getD k ⟨0, 0, 0, 0⟩).p]) := psP_succ xs k
      have hyp : -9223372036854775808 ≤ (xs.getD k ⟨0, 0, 0, 0⟩).p ∧ (xs.getD k ⟨0, 0, 0, 0⟩).p ≤ 9223372036854775807 := hok.1
      clear hx hok
      generalize (psP xs k).map iv = L0 at *
      generalize xs.getD k ⟨0, 0, 0, 0⟩ = y at *
      obtain ⟨yp, yb, yo, yq⟩ := y
      simp only at c0 c1 c2 c3 HNX hyp
      have HOW : Hid (wr.ownsRow w.heap.size 2 1 u4 k L0) := hown
      have HKR : Hid (Kept No w wr) := hkr
      clear hown hkr
      go_wp2_with (at_builtin; refine wpList_append_own_at _ rfl _ _ 88 rfl w.heap.size 2 i0 (.int .i64 0) 1 8 Tryz.underlying88 hi hz0 hz1 hz2 rfl (by decide) _ _ _ rfl (HOW.out.alloc _) ⟨wr.heap.size, 0, none⟩ 1 1 [.int .i64 yp] rfl rfl (cell_one_new _ _ _) (one_one _ _) (by unfold maxLen; omega) (by omega) (by have := HKR.out.size; simp; omega) ?_; intro v1 w6 own1 grow1 _ at1)
      have HK6 : Hid (Kept No w w6 ∧ w6.ownsRow w.heap.size 2 1 v1 (k + 1) ((psP xs (k + 1)).map iv)) := by
        exact ⟨(HKR.out.alloc _).grown grow1 (fun g e => .inr (HOW.out.lt g e).1), by rw [HNX.out]; exact own1⟩
      clear own1 grow1 at1
      go_wp2
      go_roundw
      case rel => exact ⟨k + 1, by omega, by go_num, HK6.out.1, HK6.out.2⟩
      case measure => simp [intOf]; omega
    · have hke : k = n := by omega
      subst hke
      obtain ⟨sa, sc, rfl, hrow⟩ := row_of wr w.heap.size 2 u4 xs k hown (fun i hi => by
        have hx : xs[i]? = some (xs.getD i ⟨0, 0, 0, 0⟩) := by rw [List.getD, List.getElem?_eq_getElem (by rw [H.out.len]; exact hi)]; rfl
        exact (H.out.at' i _ hx).1.1)
      have hc := rlcm_any sa k sc (zP xs) 1048576 wr (by omega) (by unfold I64; omega) hrow
      have HKR : Hid (Kept No w wr) := hkr
      clear hown hkr hrow
      rw [← HZ1.out, ← HZ2.out] at hc
      go_wp2_with (go_at_call 58; refine hc.mono ?_; rintro e w2 ⟨rfl, nn, rfl⟩)
      go_ret2
      exact ⟨rfl, HKR.out.drewN _⟩

theorem fe_of {xs : List Srv} {n : Nat} {p : Int × Int} (h : findF xs n = some p) : p.1 = 100 ∨ p.1 = 101 := by
  unfold findF at h
  by_cases h32 : n ≤ 32
  · rw [if_pos h32, servF_ok] at h
    have key : ∀ m, eachF (fun i => if okF xs i then 0 else 101) 1 m = some p → p.1 = 101 := by
      intro m
      induction m with
      | zero => intro h; cases h
      | succ m ih =>
        intro h
        rw [eachF] at h
        cases he : eachF (fun i => if okF xs i then 0 else 101) 1 m with
        | some q => rw [he] at h; cases h; exact ih he
        | none =>
          rw [he] at h
          cases ho : okF xs m
          · simp [ho] at h; rw [← h]
          · simp [ho] at h
    exact .inr (key n h)
  · rw [if_neg h32] at h; cases h; exact .inl rfl

set_option maxHeartbeats 4000000 in
theorem rHyper_any (F : Nat → Prop) (a : Option Addr) (n c : Nat) (xs : List Srv) (w : World) (h : Sv w F a n c xs) :
    Calls Tryz.prog 22 #[.slice a n c] w fun e w' => e = .returned (.tuple #[.int .i64 (hyV xs n), .int .i64 (hyE xs n)]) ∧ Kept No w w' := by
  have hc := rservers_any F a n c xs w h
  cases hf : findF xs n with
  | some p =>
    have ht : timF xs n = some p := by unfold timF; rw [hf]
    rw [show hyV xs n = 0 by unfold hyV; rw [ht], show hyE xs n = p.1 by unfold hyE; rw [ht]]
    have hp := fe_of hf
    rw [hf] at hc
    simp only [fe, fn] at hc
    obtain ⟨px, py⟩ := p
    simp only at hp hc ⊢
    have hne : ¬ px = 0 := by omega
    clear hf h ht hp
    go_enter Tryz.func22, Tryz.ntmps22
    go_wp2_with (go_at_call 41; refine hc.mono ?_; rintro e w1 ⟨rfl, hk1⟩; have HK1 : Hid (Kept No w w1) := hk1; clear hk1)
    go_ret2
    exact ⟨rfl, HK1.out⟩
  | none =>
    obtain ⟨hn, hp⟩ := findF_none hf
    have ht : timF xs n = togF xs n := by unfold timF; rw [hf]
    rw [hf] at hc
    simp only [fe, fn] at hc
    have H : Hid (Sv w F a n c xs) := h
    have HP : Hid (∀ i, i < n → 1 ≤ zP xs i) := fun i hi => (hp i hi).1
    have H2 : Hid (∀ w', Kept No w w' → Calls Tryz.prog 42 #[.slice a n c] w' fun e w' => e = .returned (.tuple #[.int .i64 (lcmV (zP xs) n 1048576), .bool (lcmB (zP xs) n 1048576)]) ∧ Kept No w w') := fun w' hw => (rhyper_any F a n c xs w' (h.keep hw) (by omega)).mono (fun e w2 he => ⟨he.1, hw.trans he.2 (fun _ h => h.elim)⟩)
    cases hB : lcmB (zP xs) n 1048576
    · have ht2 : timF xs n = some (102, 0) := by rw [ht]; unfold togF; rw [hB]; rfl
      rw [show hyV xs n = 0 by unfold hyV; rw [ht2], show hyE xs n = 102 by unfold hyE; rw [ht2]]
      rw [hB] at H2
      clear hf h ht ht2 hp hB
      generalize lcmV (zP xs) n 1048576 = z1 at *
      go_enter Tryz.func22, Tryz.ntmps22
      go_wp2_with (first
        | (go_at_call 41; refine hc.mono ?_; rintro e w1 ⟨rfl, hk1⟩; have HK1 : Hid (Kept No w w1) := hk1; have hc2 := H2.out w1 hk1; clear hk1)
        | (go_at_call 42; refine hc2.mono ?_; rintro e w2 ⟨rfl, hk1⟩; have HK2 : Hid (Kept No w w2) := hk1; clear hk1))
      go_ret2
      exact ⟨rfl, HK2.out⟩
    · obtain ⟨l0, l1⟩ := lcm_bd xs n
      rw [hB] at H2
      have HV : Hid (relF (lcmV (zP xs) n 1048576) xs n ≤ 65536 → hyV xs n = lcmV (zP xs) n 1048576 ∧ hyE xs n = 0) := fun hle => by
        have ht2 : timF xs n = none := by rw [ht]; unfold togF; rw [hB, if_pos hle]; rfl
        exact ⟨by unfold hyV; rw [ht2], by unfold hyE; rw [ht2]⟩
      have HV2 : Hid (¬ relF (lcmV (zP xs) n 1048576) xs n ≤ 65536 → hyV xs n = 0 ∧ hyE xs n = 103) := fun hle => by
        have ht2 : timF xs n = some (103, 0) := by rw [ht]; unfold togF; rw [hB, if_neg hle]; rfl
        exact ⟨by unfold hyV; rw [ht2], by unfold hyE; rw [ht2]⟩
      clear hf h ht hp hB
      generalize lcmV (zP xs) n 1048576 = z1 at *
      generalize hyV xs n = r1 at *
      generalize hyE xs n = r2 at *
      have HBD : Hid (∀ k, k ≤ n → 0 ≤ relF z1 xs k ∧ relF z1 xs k ≤ k * 2097152) := fun k hk => relF_bd (xs := xs) l0 l1 k (fun i hi => HP.out i (by omega))
      go_enter Tryz.func22, Tryz.ntmps22
      go_wp2_with (first
        | (go_at_call 41; refine hc.mono ?_; rintro e w1 ⟨rfl, hk1⟩; have HK1 : Hid (Kept No w w1) := hk1; have hc2 := H2.out w1 hk1; clear hk1)
        | (go_at_call 42; refine hc2.mono ?_; rintro e w2 ⟨rfl, hk1⟩; have HK2 : Hid (Kept No w w2) := hk1; clear hk1))
      clear hc hc2 H2 HK1
      go_loopw [8, 9] (fun v x wr => ∃ k : Nat, k ≤ n ∧ x = .int .i64 k ∧ Kept No w wr ∧ v = .int .i64 (relF z1 xs k)) (fun _ x _ => n - (intOf x).toNat)
      case atStart => exact ⟨0, by omega, rfl, HK2.out, rfl⟩
      case round =>
        clear HK2
        obtain ⟨k, hk, rfl, hkr, rfl⟩ := hrel
        by_cases hlt : k < n
        · have hx : xs[k]? = some (xs.getD k ⟨0, 0, 0, 0⟩) := by rw [List.getD, List.getElem?_eq_getElem (by rw [H.out.len]; exact hlt)]; rfl
          obtain ⟨hok, b, o, rfl, hb, c0, c1, c2, c3⟩ := (H.out.keep hkr).at' k _ hx
          have hpk : 1 ≤ (xs.getD k ⟨0, 0, 0, 0⟩).p := HP.out k hlt
          have HS : Hid (relF z1 xs (k + 1) = relF z1 xs k + (2 * z1) / (xs.getD k ⟨0, 0, 0, 0⟩).p) := rfl
          have hpm : (xs.getD k ⟨0, 0, 0, 0⟩).p ≤ 9223372036854775807 := hok.1.2
          obtain ⟨r0, r1⟩ := HBD.out k hk
          have r2 : relF z1 xs k ≤ 67108864 := by
            have : (k : Int) * 2097152 ≤ 67108864 := by omega
            omega
          have HKR : Hid (Kept No w wr) := hkr
          clear hx hok hkr r1
          generalize xs.getD k ⟨0, 0, 0, 0⟩ = y at *
          obtain ⟨yp, yb, yo, yq⟩ := y
          simp only at c0 c1 c2 c3 HS hpk hpm
          generalize relF z1 xs k = rk at *
          have hd0 : 0 ≤ (2 * z1) / yp := Int.ediv_nonneg (by omega) (by omega)
          have hd1 : (2 * z1) / yp ≤ 2 * z1 := Int.ediv_le_self _ (by omega)
          go_wp2
          go_roundw
          case rel => exact ⟨k + 1, by omega, by go_num, HKR.out, by rw [HS.out]⟩
          case measure => simp [intOf]; omega
        · have hke : k = n := by omega
          subst hke
          have HKR : Hid (Kept No w wr) := hkr
          clear hkr
          by_cases hle : relF z1 xs k ≤ 65536
          · obtain ⟨e1, e2⟩ := HV.out hle
            have HE : Hid (r1 = z1 ∧ r2 = 0) := ⟨e1, e2⟩
            clear e1 e2
            generalize relF z1 xs k = rk at *
            go_wp2
            go_ret2
            exact ⟨by rw [HE.out.1, HE.out.2]; rfl, HKR.out⟩
          · obtain ⟨e1, e2⟩ := HV2.out (by omega)
            have HE : Hid (r1 = 0 ∧ r2 = 103) := ⟨e1, e2⟩
            clear e1 e2
            generalize relF z1 xs k = rk at *
            go_wp2
            go_ret2
            exact ⟨by rw [HE.out.1, HE.out.2]; rfl, HKR.out⟩
end Go.Proofs.YtkjnhhoniodbcaaGreatDoor
