/-
  The contract of the document's Lcm.
-/
import Derived.Test.YtpkifhbjlpkcnaaRefGcd
import Derived.Test.YtpkifhbjlpkcnaaLcmCalls
namespace Go.Proofs.Ytpkifhbjlpkcnaa
open Go.RowKit Plain
set_option linter.unusedVariables false

theorem lcm_small (z : Nat → Int) (len : Nat) (most : Int) (i : Nat) (hi : i < len) (h : z i < 1) : lcmV z len most = 0 ∧ lcmB z len most = false := by
  obtain ⟨V1, V2, _⟩ := lcmV_facts z len most
  have hv : lcmV z len most = 0 := by
    by_cases hp : 0 < lcmV z len most
    · have := ((V2 hp).2 i hi).1; omega
    · omega
  unfold lcmB; rw [hv]; exact ⟨rfl, rfl⟩

set_option maxHeartbeats 1000000 in
theorem rlcm_any (a0 : Option Addr) (len cap : Nat) (z : Nat → Int) (most : Int) (w : World) (hl : len ≤ 9223372036854775807) (hm : I64 most) (hr : Row w a0 len z) :
    Calls Try.prog 29 #[.slice a0 len cap, .int .i64 most] w fun e w' => e = .returned (.tuple #[.int .i64 (lcmV z len most), .bool (lcmB z len most)]) ∧ ∃ n, w' = w.drewN n := by
  have HR : Hid (Row w a0 len z) := hr
  clear hr
  have hm2 := hm.2
  go_enter Try.func29, Try.ntmps29
  go_wp2
  go_loop [7] (fun i => ∃ k : Nat, i = .int .i64 k ∧ k ≤ len ∧ ∀ i, i < k → 1 ≤ z i) (fun i => len - (intOf i).toNat)
  case atStart => exact ⟨0, rfl, by omega, fun i hi => absurd hi (by omega)⟩
  case round =>
    obtain ⟨k, rfl, hk, hz⟩ := hrel
    have HZ : Hid (∀ i, i < k → 1 ≤ z i) := hz
    clear hz
    by_cases hlt : k < len
    · obtain ⟨bk, off, rfl, hck, hzk⟩ := HR.out k hlt
      by_cases h1 : z k < 1
      · have HE : Hid (lcmV z len most = 0 ∧ lcmB z len most = false) := lcm_small z len most k hlt h1
        go_wp2
        go_ret2
        exact ⟨ret2 HE.out.1.symm HE.out.2.symm, 0, rfl⟩
      · go_wp2
        go_round
        case rel => exact ⟨k + 1, by go_num, by omega, fun i hi => (by
          by_cases e : i = k
          · subst e; omega
          · exact HZ.out i (by omega))⟩
        case measure => simp [intOf]; omega
    · have HZ2 : Hid (∀ i, i < len → 1 ≤ z i) := fun i hi => HZ.out i (by omega)
      clear HZ hk
      by_cases hmost : most < 1
      · have HE : Hid (lcmV z len most = 0 ∧ lcmB z len most = false) := lcm_less z len most hmost
        go_wp2
        go_loopw [6, 8] (fun x i wx => x = .int .i64 1 ∧ i = .int .i64 0 ∧ wx = w) (fun _ i _ => 0)
        case atStart => exact ⟨rfl, rfl, rfl⟩
        case round =>
          obtain ⟨rfl, rfl, hw⟩ := hrel
          obtain rfl := hw.symm
          by_cases h0 : len = 0
          · subst h0
            go_wp2
            go_ret2
            exact ⟨ret2 HE.out.1.symm HE.out.2.symm, 0, rfl⟩
          · have h0' : 0 < len := by omega
            obtain ⟨bk, off, rfl, hck0, hzk⟩ := HR.out 0 h0'
            have hck : w.cell? ⟨bk, off, none⟩ = some (.int .i64 (z 0)) := by simpa using hck0
            clear hck0
            have h1 := HZ2.out 0 h0'
            have hzk2 := hzk.2
            obtain ⟨g1, g2, g3, g4⟩ := lcmGo_ref z 0 1 (by omega) (by omega) h1 hzk.2
            have hI1 : I64 1 := by unfold I64; omega
            have hI2 : I64 (z 0 / gcdF 1 (z 0)) := by unfold I64; omega
            have m1 : mulV 1 (z 0 / gcdF 1 (z 0)) = z 0 / gcdF 1 (z 0) := by rw [mulV_yes (by rw [Int.one_mul]; exact hI2), Int.one_mul]
            have m2 : mulB 1 (z 0 / gcdF 1 (z 0)) = true := mulB_yes (by rw [Int.one_mul]; exact hI2)
            clear g1
            go_wp2
            go_quiet ((first | (go_at_call 26; refine Calls.quiet_of_same (rgcd_any _ _ _ ?_ ?_) <;> assumption) | (go_at_call 24; refine Calls.quiet_of_same (rmul_any _ _ _ ?_ ?_) <;> assumption)))
            go_wp2
            go_ret2
            exact ⟨ret2 HE.out.1.symm HE.out.2.symm, _, rfl⟩
      · have HV : Hid (lcmV z len most = lcmGo most z len 0 1) := if_neg hmost
        go_wp2
        go_loopw [6, 8] (fun x y wx => ∃ (m : Int) (k n : Nat), 1 ≤ m ∧ m ≤ most ∧ k ≤ len ∧ x = .int .i64 m ∧ y = .int .i64 k ∧ lcmGo most z (len - k) k m = lcmV z len most ∧ wx = w.drewN n) (fun _ y _ => len - (intOf y).toNat)
        case atStart => exact ⟨1, 0, 0, by omega, by omega, by omega, rfl, rfl, HV.out.symm, rfl⟩
        case round =>
          obtain ⟨m, k2, n, hm1, hm3, hk2, rfl, rfl, hg, hw⟩ := hrel
          have HW : Hid (_ = w.drewN n) := hw
          clear hw
          by_cases hlt2 : k2 < len
          · obtain ⟨bk, off, rfl, hck0, hzk⟩ := HR.out k2 hlt2
            have hck := hck0
            rw [show w.cell? ⟨bk, off + k2, none⟩ = (w.drewN n).cell? ⟨bk, off + k2, none⟩ from rfl, ← HW.out] at hck
            clear hck0
            have h1 := HZ2.out k2 hlt2
            have hzk2 := hzk.2
            obtain ⟨g1, g2, g3, g4⟩ := lcmGo_ref z k2 m (by omega) (by omega) h1 hzk.2
            have hI1 : I64 m := by unfold I64; omega
            have hI2 : I64 (z k2 / gcdF m (z k2)) := by unfold I64; omega
            have hg' : lcmGo most z ((len - (k2 + 1)) + 1) k2 m = lcmV z len most := by rw [show (len - (k2 + 1)) + 1 = len - k2 by omega]; exact hg
            have hf := lcm_fit most m (z k2 / gcdF m (z k2)) hm1
            have hno : most < m * (z k2 / gcdF m (z k2)) → lcmV z len most = 0 ∧ lcmB z len most = false := fun hn => by
              have hv : lcmV z len most = 0 := hg'.symm.trans (lcmGo_no (by rw [← g1]; exact .inr (hf.2 hn)))
              unfold lcmB; rw [hv]; exact ⟨rfl, rfl⟩
            have hyes : ¬ most < m * (z k2 / gcdF m (z k2)) → lcmGo most z (len - (k2 + 1)) (k2 + 1) (m * (z k2 / gcdF m (z k2))) = lcmV z len most := by
              intro hn
              have h3 : ¬ (z k2 < 1 ∨ most / m < z k2 / (Int.gcd m (z k2) : Int)) := by rw [← g1]; omega
              have h4 := lcmGo_yes (n := len - (k2 + 1)) h3
              rw [← g1] at h4
              exact h4.symm.trans hg'
            have hs := (lcm_step m (z k2) hm1 h1).2.2.1
            rw [← g1] at hs
            have HNO : Hid (most < m * (z k2 / gcdF m (z k2)) → lcmV z len most = 0 ∧ lcmB z len most = false) := hno
            have HYES : Hid (¬ most < m * (z k2 / gcdF m (z k2)) → lcmGo most z (len - (k2 + 1)) (k2 + 1) (m * (z k2 / gcdF m (z k2))) = lcmV z len most) := hyes
            clear hno hyes hf hg hg' g1
            by_cases hI : I64 (m * (z k2 / gcdF m (z k2)))
            · have m1 := mulV_yes hI
              have m2 := mulB_yes hI
              by_cases hb : most < m * (z k2 / gcdF m (z k2))
              · have HE := HNO.out hb
                have HE : Hid (lcmV z len most = 0 ∧ lcmB z len most = false) := HE
                clear HNO HYES hI
                go_wp2
                go_quiet ((first | (go_at_call 26; refine Calls.quiet_of_same (rgcd_any _ _ _ ?_ ?_) <;> assumption) | (go_at_call 24; refine Calls.quiet_of_same (rmul_any _ _ _ ?_ ?_) <;> assumption)))
                go_wp2
                go_ret2
                exact ⟨ret2 HE.out.1.symm HE.out.2.symm, _, by rw [HW.out, World.drewN_drewN]⟩
              · have HG : Hid (lcmGo most z (len - (k2 + 1)) (k2 + 1) (m * (z k2 / gcdF m (z k2))) = lcmV z len most) := HYES.out hb
                clear HNO HYES hI
                go_wp2
                go_quiet ((first | (go_at_call 26; refine Calls.quiet_of_same (rgcd_any _ _ _ ?_ ?_) <;> assumption) | (go_at_call 24; refine Calls.quiet_of_same (rmul_any _ _ _ ?_ ?_) <;> assumption)))
                go_wp2
                go_roundw
                case rel => exact ⟨m * (z k2 / gcdF m (z k2)), k2 + 1, _, hs, by omega, by omega, rfl, by go_num, HG.out, by rw [HW.out, World.drewN_drewN]⟩
                case measure => simp [intOf]; omega
            · have m2 := mulB_no hI
              have HE : Hid (lcmV z len most = 0 ∧ lcmB z len most = false) := HNO.out (by unfold I64 at hI; omega)
              clear HNO HYES hI
              go_wp2
              go_quiet ((first | (go_at_call 26; refine Calls.quiet_of_same (rgcd_any _ _ _ ?_ ?_) <;> assumption) | (go_at_call 24; refine Calls.quiet_of_same (rmul_any _ _ _ ?_ ?_) <;> assumption)))
              go_wp2
              go_ret2
              exact ⟨ret2 HE.out.1.symm HE.out.2.symm, _, by rw [HW.out, World.drewN_drewN]⟩
          · have hk' : k2 = len := by omega
            have hv : m = lcmV z len most := by rw [← hg, hk', Nat.sub_self]; rfl
            have HE : Hid (m = lcmV z len most ∧ true = lcmB z len most) := ⟨hv, by unfold lcmB; rw [← hv]; simp; omega⟩
            clear hv hg HV
            go_wp2
            go_ret2
            exact ⟨ret2 HE.out.1 HE.out.2, _, HW.out⟩

end Go.Proofs.Ytpkifhbjlpkcnaa
