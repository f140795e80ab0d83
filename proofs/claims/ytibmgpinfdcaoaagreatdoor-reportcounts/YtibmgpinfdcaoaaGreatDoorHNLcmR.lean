/-
  One text: NLcmR.
-/
import Derived.Test.YtibmgpinfdcaoaaGreatDoorProg
import Derived.Test.YtibmgpinfdcaoaaGreatDoorG07
import Derived.WalkKit
import Derived.WalkSpells
import Derived.WalkLawsBesides
import Derived.WalkMore
import Derived.Deep.QuietTactic
import Derived.BigQuiet
namespace Go.Proofs.YtibmgpinfdcaoaaGreatDoor
open Go.RowKit Plain
set_option linter.unusedVariables false
set_option maxRecDepth 100000

theorem ret1u {a b : Int} (h : a = b) : Ending.returned (.int .u64 a) = .returned (.int .u64 b) := by rw [h]
theorem ret2' {a b : Int} {x y : Bool} (h : a = b) (h2 : x = y) : Ending.returned (.tuple #[.int .i64 a, .bool x]) = .returned (.tuple #[.int .i64 b, .bool y]) := by rw [h, h2]

theorem away_any (a : Int) (w : World) (ha : I64 a) :
    Calls Tryz.prog 81 #[.int .i64 a] w fun e w' => e = .returned (.int .u64 (a.natAbs : Int)) ∧ w' = w := by
  unfold I64 at ha
  obtain ⟨h1, h2⟩ := ha
  by_cases h : a < 0
  · go_enter Tryz.func81, Tryz.ntmps81
    go_wp2
    go_ret
    exact ⟨ret1u (by omega), rfl⟩
  · go_enter Tryz.func81, Tryz.ntmps81
    go_wp2
    go_ret
    exact ⟨ret1u (by omega), rfl⟩

theorem signed_any (s : Bool) (d : Int) (w : World) (h0 : 0 ≤ d) (h1 : d ≤ 18446744073709551615) :
    Calls Tryz.prog 82 #[.bool s, .int .u64 d] w fun e w' => e = .returned (.tuple #[.int .i64 (sgnV s d), .bool (sgnB s d)]) ∧ w' = w := by
  cases s
  · by_cases h : 9223372036854775807 < d
    · rw [show sgnV false d = 0 from if_pos h, show sgnB false d = false from if_pos h]
      go_enter Tryz.func82, Tryz.ntmps82
      go_wp2
      go_ret2
      exact ⟨rfl, rfl⟩
    · rw [show sgnV false d = d from if_neg h, show sgnB false d = true from if_neg h]
      go_enter Tryz.func82, Tryz.ntmps82
      go_wp2
      go_ret2
      exact ⟨rfl, rfl⟩
  · by_cases h : 9223372036854775808 < d
    · rw [show sgnV true d = 0 from if_pos h, show sgnB true d = false from if_pos h]
      go_enter Tryz.func82, Tryz.ntmps82
      go_wp2
      go_ret2
      exact ⟨rfl, rfl⟩
    · rw [show sgnV true d = -d from if_neg h, show sgnB true d = true from if_neg h]
      by_cases h2 : d = 9223372036854775808
      · have h3 : 9223372036854775808 ≤ d := by omega
        have H2 : Hid (d = 9223372036854775808) := h2
        clear h2
        go_enter Tryz.func82, Tryz.ntmps82
        go_wp2
        all_goals (go_ret2; exact ⟨ret2' (by omega) rfl, rfl⟩)
      · have h3 : d < 9223372036854775808 := by omega
        go_enter Tryz.func82, Tryz.ntmps82
        go_wp2
        go_ret2
        exact ⟨rfl, rfl⟩


set_option maxHeartbeats 1000000 in
theorem rmul_any (a b : Int) (w : World) (ha : I64 a) (hb : I64 b) :
    Calls Tryz.prog 62 #[.int .i64 a, .int .i64 b] w fun e w' => e = .returned (.tuple #[.int .i64 (mulV a b), .bool (mulB a b)]) ∧ w' = w := by
  have n1 : (a.natAbs : Int) ≤ 9223372036854775808 := by unfold I64 at ha; omega
  have n2 : (b.natAbs : Int) ≤ 9223372036854775808 := by unfold I64 at hb; omega
  have p0 : 0 ≤ (a.natAbs : Int) * (b.natAbs : Int) := Int.mul_nonneg (by omega) (by omega)
  by_cases hp : 9223372036854775808 < (a.natAbs : Int) * (b.natAbs : Int)
  · obtain ⟨e1, e2⟩ := mul_ref_no a b hp
    rw [e1, e2]
    have hx : 0 < (a.natAbs : Int) := by
      by_cases h0 : (a.natAbs : Int) = 0
      · rw [h0, Int.zero_mul] at hp; omega
      · omega
    have hd := (fit_div _ _ hx).2 hp
    clear e1 e2
    go_enter Tryz.func62, Tryz.ntmps62
    go_wp2_with (go_at_call 81; refine (away_any _ _ ?_).mono ?_; all_goals first | assumption | rintro e w' ⟨rfl, rfl⟩)
    go_ret2
    exact ⟨rfl, rfl⟩
  · have HM := mul_ref a b hp
    have p1 : (a.natAbs : Int) * (b.natAbs : Int) ≤ 9223372036854775808 := by omega
    have key : ∀ s : Bool, Hid (s = ((decide (a < 0) != decide (b < 0)) && ((a.natAbs : Int) * (b.natAbs : Int) != 0)) → sgnV s ((a.natAbs : Int) * (b.natAbs : Int)) = mulV a b ∧ sgnB s ((a.natAbs : Int) * (b.natAbs : Int)) = mulB a b) := HM
    clear HM
    have hd : 0 < (a.natAbs : Int) → ¬ 9223372036854775808 / (a.natAbs : Int) < (b.natAbs : Int) := fun h => fun h2 => hp ((fit_div _ _ h).1 h2)
    clear hp
    have hz : ((a.natAbs : Int) * (b.natAbs : Int) != 0) = true ∨ ((a.natAbs : Int) * (b.natAbs : Int) != 0) = false := by cases ((a.natAbs : Int) * (b.natAbs : Int) != 0) <;> simp
    have hs : decide (a < 0) = true ∨ decide (a < 0) = false := by cases decide (a < 0) <;> simp
    have ht : decide (b < 0) = true ∨ decide (b < 0) = false := by cases decide (b < 0) <;> simp
    by_cases hx : 0 < (a.natAbs : Int)
    · have hd2 := hd hx
      clear hd
      rcases hz with hz | hz <;> rcases hs with hs | hs <;> rcases ht with ht | ht
      all_goals
        go_enter Tryz.func62, Tryz.ntmps62
        go_wp2_with (first | (go_at_call 81; refine (away_any _ _ ?_).mono ?_; all_goals first | assumption | rintro e w' ⟨rfl, rfl⟩) | (go_at_call 82; refine (signed_any _ _ _ ?_ ?_).mono ?_; all_goals first | omega | rintro e w' ⟨rfl, rfl⟩))
        go_ret2
        exact ⟨ret2' ((key _).out (by simp [hz, hs, ht])).1 ((key _).out (by simp [hz, hs, ht])).2, rfl⟩
    · have hx2 : a = 0 := by omega
      subst hx2
      have e1 : mulV 0 b = 0 := by rw [mulV_yes (by rw [Int.zero_mul]; unfold I64; omega), Int.zero_mul]
      have e2 : mulB 0 b = true := mulB_yes (by rw [Int.zero_mul]; unfold I64; omega)
      rw [e1, e2]
      have e3 : sgnV false 0 = 0 := rfl
      have e4 : sgnB false 0 = true := rfl
      clear hd hx p0 p1 hz hs key n1 e1 e2
      rcases ht with ht | ht
      all_goals
        go_enter Tryz.func62, Tryz.ntmps62
        go_wp2_with (first | (go_at_call 81; refine (away_any _ _ ?_).mono ?_; all_goals first | assumption | rintro e w' ⟨rfl, rfl⟩) | (go_at_call 82; refine (signed_any _ _ _ ?_ ?_).mono ?_; all_goals first | omega | rintro e w' ⟨rfl, rfl⟩))
        go_ret2
        exact ⟨ret2' (by first | rfl | simp [sgnV]) (by first | rfl | simp [sgnB]), rfl⟩


theorem sgn_gcd (a b : Int) (ha : I64 a) (hb : I64 b) : sgnV false (Int.gcd a b : Int) = gcdF a b := by
  unfold gcdF
  by_cases h : (Int.gcd a b : Int) ≤ 9223372036854775807
  · rw [if_pos h]; exact (sgn_up h).1
  · have h2 : 9223372036854775807 < (Int.gcd a b : Int) := by omega
    rw [if_neg h]; exact if_pos h2

theorem u64_mod (X Y : Nat) : Value.int .u64 ((X : Int) % (Y : Int)) = .int .u64 ((X % Y : Nat) : Int) := by rw [Int.natCast_emod]

set_option maxHeartbeats 400000 in
theorem rgcd_any (a b : Int) (w : World) (ha : I64 a) (hb : I64 b) :
    Calls Tryz.prog 63 #[.int .i64 a, .int .i64 b] w fun e w' => e = .returned (.int .i64 (gcdF a b)) ∧ w' = w := by
  have n1 : (a.natAbs : Int) ≤ 9223372036854775808 := by unfold I64 at ha; omega
  have n2 : (b.natAbs : Int) ≤ 9223372036854775808 := by unfold I64 at hb; omega
  have HS : Hid (sgnV false (Int.gcd a b : Int) = gcdF a b) := sgn_gcd a b ha hb
  go_enter Tryz.func63, Tryz.ntmps63
  go_wp2_with (go_at_call 81; refine (away_any _ _ ?_).mono ?_; all_goals first | assumption | (rintro e w' ⟨rfl, hw⟩; obtain rfl := hw.symm))
  go_loop [5, 6] (fun x y => ∃ X Y : Nat, (X : Int) ≤ 9223372036854775808 ∧ (Y : Int) ≤ 9223372036854775808 ∧ x = .int .u64 X ∧ y = .int .u64 Y ∧ Nat.gcd X Y = Int.gcd a b) (fun _ y => (intOf y).toNat)
  case atStart => exact ⟨a.natAbs, b.natAbs, n1, n2, rfl, rfl, rfl⟩
  case round =>
    obtain ⟨X, Y, hX, hY, rfl, rfl, hg⟩ := hrel
    have HG : Hid (Nat.gcd X Y = Int.gcd a b) := hg
    clear hg
    by_cases h0 : Y = 0
    · subst h0
      have H2 : Hid (sgnV false (X : Int) = gcdF a b) := by
        have := HG.out
        rw [Nat.gcd_zero_right] at this
        have e := HS.out
        rw [← this] at e
        exact e
      clear HS HG
      go_wp2_with (go_at_call 82; refine (signed_any _ _ _ ?_ ?_).mono ?_; all_goals first | omega | (rintro e w' ⟨rfl, hw⟩; obtain rfl := hw.symm))
      go_ret
      exact ⟨ret1 H2.out, rfl⟩
    · have h1 : 0 < (Y : Int) := by omega
      have h2 : X % Y < Y := Nat.mod_lt _ (by omega)
      have H3 : Hid (Nat.gcd Y (X % Y) = Int.gcd a b) := by
        have e : Nat.gcd Y (X % Y) = Nat.gcd X Y := by rw [Nat.gcd_comm, ← Nat.gcd_rec, Nat.gcd_comm]
        exact e.trans HG.out
      have h4 : ((X : Int) % (Y : Int)) = ((X % Y : Nat) : Int) := (Int.natCast_emod X Y).symm
      have H4 : Hid (((X : Int) % (Y : Int)) = ((X % Y : Nat) : Int)) := h4
      clear HG h4
      go_wp2
      go_round
      case rel => exact ⟨Y, X % Y, hY, by omega, rfl, by rw [H4.out], H3.out⟩
      case measure => simp [intOf]; omega



theorem lcm_small (z : Nat → Int) (len : Nat) (most : Int) (i : Nat) (hi : i < len) (h : z i < 1) : lcmV z len most = 0 ∧ lcmB z len most = false := by
  obtain ⟨V1, V2, _⟩ := lcmV_facts z len most
  have hv : lcmV z len most = 0 := by
    by_cases hp : 0 < lcmV z len most
    · have := ((V2 hp).2 i hi).1; omega
    · omega
  unfold lcmB; rw [hv]; exact ⟨rfl, rfl⟩

set_option maxHeartbeats 1000000 in
theorem rlcm_any (a0 : Option Addr) (len cap : Nat) (z : Nat → Int) (most : Int) (w : World) (hl : len ≤ 9223372036854775807) (hm : I64 most) (hr : Row w a0 len z) :
    Calls Tryz.prog 48 #[.slice a0 len cap, .int .i64 most] w fun e w' => e = .returned (.tuple #[.int .i64 (lcmV z len most), .bool (lcmB z len most)]) ∧ ∃ n, w' = w.drewN n := by
  have HR : Hid (Row w a0 len z) := hr
  clear hr
  have hm2 := hm.2
  go_enter Tryz.func48, Tryz.ntmps48
  go_wp2
  go_loop [7] (fun i => ∃ k : Nat, i = .int .i64 k ∧ k ≤ len ∧ ∀ i, i < k → 1 ≤ z i) (fun i => len - (intOf i).toNat)
  case atStart => exact ⟨0, rfl, by omega, fun i hi => absurd hi (by omega)⟩
  case round =>
    obtain ⟨k, rfl, hk, hz⟩ := hrel
    have HZ : Hid (∀ i, i < k → 1 ≤ z i) := hz
    clear hz
    by_cases hlt : k < len
    · obtain ⟨bk, off, rfl, hck, hzk⟩ := HR.out k hlt
      by_cases h1 : z k < 1
      · have HE : Hid (lcmV z len most = 0 ∧ lcmB z len most = false) := lcm_small z len most k hlt h1
        go_wp2
        go_ret2
        exact ⟨ret2 HE.out.1.symm HE.out.2.symm, 0, rfl⟩
      · go_wp2
        go_round
        case rel => exact ⟨k + 1, by go_num, by omega, fun i hi => (by
          by_cases e : i = k
          · subst e; omega
          · exact HZ.out i (by omega))⟩
        case measure => simp [intOf]; omega
    · have HZ2 : Hid (∀ i, i < len → 1 ≤ z i) := fun i hi => HZ.out i (by omega)
      clear HZ hk
      by_cases hmost : most < 1
      · have HE : Hid (lcmV z len most = 0 ∧ lcmB z len most = false) := lcm_less z len most hmost
        go_wp2
        go_loopw [6, 8] (fun x i wx => x = .int .i64 1 ∧ i = .int .i64 0 ∧ wx = w) (fun _ i _ => 0)
        case atStart => exact ⟨rfl, rfl, rfl⟩
        case round =>
          obtain ⟨rfl, rfl, hw⟩ := hrel
          obtain rfl := hw.symm
          by_cases h0 : len = 0
          · subst h0
            go_wp2
            go_ret2
            exact ⟨ret2 HE.out.1.symm HE.out.2.symm, 0, rfl⟩
          · have h0' : 0 < len := by omega
            obtain ⟨bk, off, rfl, hck0, hzk⟩ := HR.out 0 h0'
            have hck : w.cell? ⟨bk, off, none⟩ = some (.int .i64 (z 0)) := by simpa using hck0
            clear hck0
            have h1 := HZ2.out 0 h0'
            have hzk2 := hzk.2
            obtain ⟨g1, g2, g3, g4⟩ := lcmGo_ref z 0 1 (by omega) (by omega) h1 hzk.2
            have hI1 : I64 1 := by unfold I64; omega
            have hI2 : I64 (z 0 / gcdF 1 (z 0)) := by unfold I64; omega
            have m1 : mulV 1 (z 0 / gcdF 1 (z 0)) = z 0 / gcdF 1 (z 0) := by rw [mulV_yes (by rw [Int.one_mul]; exact hI2), Int.one_mul]
            have m2 : mulB 1 (z 0 / gcdF 1 (z 0)) = true := mulB_yes (by rw [Int.one_mul]; exact hI2)
            clear g1
            go_wp2
            go_quiet ((first | (go_at_call 63; refine Calls.quiet_of_same (rgcd_any _ _ _ ?_ ?_) <;> assumption) | (go_at_call 62; refine Calls.quiet_of_same (rmul_any _ _ _ ?_ ?_) <;> assumption)))
            go_wp2
            go_ret2
            exact ⟨ret2 HE.out.1.symm HE.out.2.symm, _, rfl⟩
      · have HV : Hid (lcmV z len most = lcmGo most z len 0 1) := if_neg hmost
        go_wp2
        go_loopw [6, 8] (fun x y wx => ∃ (m : Int) (k n : Nat), 1 ≤ m ∧ m ≤ most ∧ k ≤ len ∧ x = .int .i64 m ∧ y = .int .i64 k ∧ lcmGo most z (len - k) k m = lcmV z len most ∧ wx = w.drewN n) (fun _ y _ => len - (intOf y).toNat)
        case atStart => exact ⟨1, 0, 0, by omega, by omega, by omega, rfl, rfl, HV.out.symm, rfl⟩
        case round =>
          obtain ⟨m, k2, n, hm1, hm3, hk2, rfl, rfl, hg, hw⟩ := hrel
          have HW : Hid (_ = w.drewN n) := hw
          clear hw
          by_cases hlt2 : k2 < len
          · obtain ⟨bk, off, rfl, hck0, hzk⟩ := HR.out k2 hlt2
            have hck := hck0
            rw [show w.cell? ⟨bk, off + k2, none⟩ = (w.drewN n).cell? ⟨bk, off + k2, none⟩ from rfl, ← HW.out] at hck
            clear hck0
            have h1 := HZ2.out k2 hlt2
            have hzk2 := hzk.2
            obtain ⟨g1, g2, g3, g4⟩ := lcmGo_ref z k2 m (by omega) (by omega) h1 hzk.2
            have hI1 : I64 m := by unfold I64; omega
            have hI2 : I64 (z k2 / gcdF m (z k2)) := by unfold I64; omega
            have hg' : lcmGo most z ((len - (k2 + 1)) + 1) k2 m = lcmV z len most := by rw [show (len - (k2 + 1)) + 1 = len - k2 by omega]; exact hg
            have hf := lcm_fit most m (z k2 / gcdF m (z k2)) hm1
            have hno : most < m * (z k2 / gcdF m (z k2)) → lcmV z len most = 0 ∧ lcmB z len most = false := fun hn => by
              have hv : lcmV z len most = 0 := hg'.symm.trans (lcmGo_no (by rw [← g1]; exact .inr (hf.2 hn)))
              unfold lcmB; rw [hv]; exact ⟨rfl, rfl⟩
            have hyes : ¬ most < m * (z k2 / gcdF m (z k2)) → lcmGo most z (len - (k2 + 1)) (k2 + 1) (m * (z k2 / gcdF m (z k2))) = lcmV z len most := by
              intro hn
              have h3 : ¬ (z k2 < 1 ∨ most / m < z k2 / (Int.gcd m (z k2) : Int)) := by rw [← g1]; omega
              have h4 := lcmGo_yes (n := len - (k2 + 1)) h3
              rw [← g1] at h4
              exact h4.symm.trans hg'
            have hs := (lcm_step m (z k2) hm1 h1).2.2.1
            rw [← g1] at hs
            have HNO : Hid (most < m * (z k2 / gcdF m (z k2)) → lcmV z len most = 0 ∧ lcmB z len most = false) := hno
            have HYES : Hid (¬ most < m * (z k2 / gcdF m (z k2)) → lcmGo most z (len - (k2 + 1)) (k2 + 1) (m * (z k2 / gcdF m (z k2))) = lcmV z len most) := hyes
            clear hno hyes hf hg hg' g1
            by_cases hI : I64 (m * (z k2 / gcdF m (z k2)))
            · have m1 := mulV_yes hI
              have m2 := mulB_yes hI
              by_cases hb : most < m * (z k2 / gcdF m (z k2))
              · have HE := HNO.out hb
                have HE : Hid (lcmV z len most = 0 ∧ lcmB z len most = false) := HE
                clear HNO HYES hI
                go_wp2
                go_quiet ((first | (go_at_call 63; refine Calls.quiet_of_same (rgcd_any _ _ _ ?_ ?_) <;> assumption) | (go_at_call 62; refine Calls.quiet_of_same (rmul_any _ _ _ ?_ ?_) <;> assumption)))
                go_wp2
                go_ret2
                exact ⟨ret2 HE.out.1.symm HE.out.2.symm, _, by rw [HW.out, World.drewN_drewN]⟩
              · have HG : Hid (lcmGo most z (len - (k2 + 1)) (k2 + 1) (m * (z k2 / gcdF m (z k2))) = lcmV z len most) := HYES.out hb
                clear HNO HYES hI
                go_wp2
                go_quiet ((first | (go_at_call 63; refine Calls.quiet_of_same (rgcd_any _ _ _ ?_ ?_) <;> assumption) | (go_at_call 62; refine Calls.quiet_of_same (rmul_any _ _ _ ?_ ?_) <;> assumption)))
                go_wp2
                go_roundw
                case rel => exact ⟨m * (z k2 / gcdF m (z k2)), k2 + 1, _, hs, by omega, by omega, rfl, by go_num, HG.out, by rw [HW.out, World.drewN_drewN]⟩
                case measure => simp [intOf]; omega
            · have m2 := mulB_no hI
              have HE : Hid (lcmV z len most = 0 ∧ lcmB z len most = false) := HNO.out (by unfold I64 at hI; omega)
              clear HNO HYES hI
              go_wp2
              go_quiet ((first | (go_at_call 63; refine Calls.quiet_of_same (rgcd_any _ _ _ ?_ ?_) <;> assumption) | (go_at_call 62; refine Calls.quiet_of_same (rmul_any _ _ _ ?_ ?_) <;> assumption)))
              go_wp2
              go_ret2
              exact ⟨ret2 HE.out.1.symm HE.out.2.symm, _, by rw [HW.out, World.drewN_drewN]⟩
          · have hk' : k2 = len := by omega
            have hv : m = lcmV z len most := by rw [← hg, hk', Nat.sub_self]; rfl
            have HE : Hid (m = lcmV z len most ∧ true = lcmB z len most) := ⟨hv, by unfold lcmB; rw [← hv]; simp; omega⟩
            clear hv hg HV
            go_wp2
            go_ret2
            exact ⟨ret2 HE.out.1 HE.out.2, _, HW.out⟩

end Go.Proofs.YtibmgpinfdcaoaaGreatDoor
