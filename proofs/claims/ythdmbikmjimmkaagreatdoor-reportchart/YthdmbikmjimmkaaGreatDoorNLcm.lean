/-
  num.Gcd[int], num.Lcm[int] and the document's Lcm.
-/
import Derived.Test.YthdmbikmjimmkaaGreatDoorProg
import Derived.Test.YthdmbikmjimmkaaGreatDoorGF
import Derived.WalkKit
import Derived.WalkSpells
import Derived.WalkLawsBesides
import Derived.WalkMore
import Derived.Deep.QuietTactic
import Derived.BigQuiet
namespace Go.Proofs.YthdmbikmjimmkaaGreatDoor
open Go.RowKit Plain
set_option linter.unusedVariables false
set_option maxRecDepth 100000

theorem ret1 {a b : Int} (h : a = b) : Ending.returned (.int .i64 a) = .returned (.int .i64 b) := by rw [h]
theorem ret2 {a b : Int} {x y : Bool} (h : a = b) (h2 : x = y) : Ending.returned (.tuple #[.int .i64 a, .bool x]) = .returned (.tuple #[.int .i64 b, .bool y]) := by rw [h, h2]

theorem lcm_less (z : Nat → Int) (len : Nat) (most : Int) (h : most < 1) : lcmV z len most = 0 ∧ lcmB z len most = false := by
  have : lcmV z len most = 0 := if_pos h
  unfold lcmB; rw [this]; exact ⟨rfl, rfl⟩

/-- a slice's elements are the numbers z 0 .. z (len - 1) -/
def Row (w : World) (a0 : Option Addr) (len : Nat) (z : Nat → Int) : Prop :=
  ∀ i, i < len → ∃ bk off, a0 = some ⟨bk, off, none⟩ ∧ w.cell? ⟨bk, off + i, none⟩ = some (.int .i64 (z i)) ∧ I64 (z i)

set_option maxHeartbeats 400000 in
theorem gcdInt_any (a b : Int) (w : World) (ha : I64 a) (hb : I64 b) :
    Calls Tryz.prog 48 #[.int .i64 a, .int .i64 b] w fun e w' => e = .returned (.int .i64 (gcdF a b)) ∧ ∃ n, w' = w.drewN n := by
  go_enter Tryz.func48, Tryz.ntmps48
  go_wp2
  go_loopw [0, 1] (fun x y w' => ∃ (c d : Int) (n : Nat), I64 c ∧ I64 d ∧ x = .int .i64 c ∧ y = .int .i64 d ∧ Int.gcd c d = Int.gcd a b ∧ w' = w.drewN n) (fun _ y _ => (intOf y).natAbs)
  case atStart => exact ⟨a, b, 0, ha, hb, rfl, rfl, rfl, rfl⟩
  case round =>
    obtain ⟨c, d, n, hc, hd, rfl, rfl, hg, rfl⟩ := hrel
    have HG : Hid (Int.gcd c d = Int.gcd a b) := hg
    clear hg
    by_cases h0 : d = 0
    · subst h0
      have he := gcdF_end a b c hc HG.out
      have HE : Hid (gcdF a b = if c = -9223372036854775808 then 0 else if c < 0 then -c else c) := he
      clear he
      unfold I64 at hc
      obtain ⟨hc1, hc2⟩ := hc
      by_cases h1 : c = -9223372036854775808
      · have H4 : Hid (gcdF a b = 0) := HE.out.trans (if_pos h1)
        clear HE
        subst h1
        have hw : wrap64 9223372036854775808 < 0 := by unfold wrap64; omega
        go_wp2
        go_ret
        exact ⟨ret1 H4.out.symm, n, rfl⟩
      · by_cases h2 : c < 0
        · have h3 : -9223372036854775808 < c := by omega
          have h4 := HE.out
          rw [if_neg h1, if_pos h2] at h4
          have H4 : Hid (gcdF a b = -c) := h4
          clear h4 h1
          go_wp2
          go_ret
          exact ⟨ret1 H4.out.symm, n, rfl⟩
        · have h4 := HE.out
          rw [if_neg h1, if_neg h2] at h4
          have H4 : Hid (gcdF a b = c) := h4
          clear h4 h1
          go_wp2
          go_ret
          exact ⟨ret1 H4.out.symm, n, rfl⟩
    · have hs := gcd_step c d
      have HS : Hid (Int.gcd d (c.tmod d) = Int.gcd a b) := hs.trans HG.out
      have ht := tmod_I64 c d hc
      have hl := tmod_lt c d h0
      clear hs
      go_wp2
      go_quiet (fail)
      go_wp2
      go_roundw
      case rel => exact ⟨d, c.tmod d, _, hd, ht, rfl, rfl, HS.out, World.drewN_drewN ..⟩
      case measure => simpa [intOf] using hl

theorem lcmInt_few (a0 : Option Addr) (len cap : Nat) (z : Nat → Int) (most : Int) (w : World) (h : most < 1) :
    Calls Tryz.prog 27 #[.slice a0 len cap, .int .i64 most] w fun e w' => e = .returned (.tuple #[.int .i64 (lcmV z len most), .bool (lcmB z len most)]) ∧ ∃ n, w' = w.drewN n := by
  rw [(lcm_less z len most h).1, (lcm_less z len most h).2]
  go_enter Tryz.func27, Tryz.ntmps27
  go_wp2
  go_step3
  go_wp2
  try rw [Exit.noGoto_ret]
  go_ret2
  exact ⟨rfl, 0, rfl⟩

theorem lcmInt_none (a0 : Option Addr) (cap : Nat) (z : Nat → Int) (most : Int) (w : World) (h : 1 ≤ most) :
    Calls Tryz.prog 27 #[.slice a0 0 cap, .int .i64 most] w fun e w' => e = .returned (.tuple #[.int .i64 (lcmV z 0 most), .bool (lcmB z 0 most)]) ∧ ∃ n, w' = w.drewN n := by
  have e1 : lcmV z 0 most = 1 := if_neg (by omega)
  have e2 : lcmB z 0 most = true := by unfold lcmB; rw [e1]; rfl
  rw [e1, e2]
  clear e1 e2
  go_enter Tryz.func27, Tryz.ntmps27
  go_wp2
  go_step3
  go_wp2
  go_step3
  go_wp2
  go_loopw [6, 15] (fun x y w' => x = .int .i64 1 ∧ y = .int .i64 0 ∧ w' = w) (fun _ y _ => 0)
  case atStart => exact ⟨rfl, rfl, rfl⟩
  case round =>
    obtain ⟨rfl, rfl, rfl⟩ := hrel
    go_wp2
    try rw [Exit.noGoto_ret]
    go_ret2
    exact ⟨rfl, 0, rfl⟩

set_option maxHeartbeats 800000 in
theorem lcmInt_some (bk off len cap : Nat) (z : Nat → Int) (most : Int) (w : World) (hl : len ≤ 9223372036854775807) (h : 1 ≤ most) (hm : most ≤ 9223372036854775807)
    (hc : ∀ i, i < len → w.cell? ⟨bk, off + i, none⟩ = some (.int .i64 (z i))) (hz : ∀ i, i < len → I64 (z i)) :
    Calls Tryz.prog 27 #[.slice (some ⟨bk, off, none⟩) len cap, .int .i64 most] w fun e w' => e = .returned (.tuple #[.int .i64 (lcmV z len most), .bool (lcmB z len most)]) ∧ ∃ n, w' = w.drewN n := by
  have HV : Hid (lcmV z len most = lcmGo most z len 0 1) := if_neg (by omega)
  go_enter Tryz.func27, Tryz.ntmps27
  go_wp2
  go_step3
  go_wp2
  go_step3
  go_wp2
  go_loopw [6, 15] (fun x y w' => ∃ (m : Int) (k n : Nat), 1 ≤ m ∧ m ≤ most ∧ k ≤ len ∧ x = .int .i64 m ∧ y = .int .i64 k ∧ lcmGo most z (len - k) k m = lcmV z len most ∧ w' = w.drewN n) (fun _ y _ => len - (intOf y).toNat)
  case atStart => exact ⟨1, 0, 0, by omega, by omega, by omega, rfl, rfl, HV.out.symm, rfl⟩
  case round =>
    obtain ⟨m, k, n, hm1, hm2, hk, rfl, rfl, hg, rfl⟩ := hrel
    by_cases hlt : k < len
    · have hck := hc k hlt
      have hzk := hz k hlt
      obtain ⟨g1, g2, g3⟩ := gcd_pos_le m (z k) hm1 (by omega)
      have hmI : I64 m := ⟨by omega, by omega⟩
      have hg' : lcmGo most z ((len - (k + 1)) + 1) k m = lcmV z len most := by rw [show (len - (k + 1)) + 1 = len - k by omega]; exact hg
      have gp : 1 ≤ gcdF m (z k) := by omega
      rw [← g1] at g2 g3
      obtain ⟨q1, q2⟩ := div_le most m hm1 (by omega)
      have hno : z k < 1 ∨ most / m < z k / gcdF m (z k) → lcmV z len most = 0 := fun hn => hg'.symm.trans (lcmGo_no (by rw [← g1]; exact hn))
      have hyes : ¬ (z k < 1 ∨ most / m < z k / gcdF m (z k)) → lcmGo most z (len - (k + 1)) (k + 1) (m * (z k / gcdF m (z k))) = lcmV z len most := by
        intro hn; rw [g1] at hn ⊢; exact (lcmGo_yes hn).symm.trans hg'
      have HNO : Hid (z k < 1 ∨ most / m < z k / gcdF m (z k) → lcmV z len most = 0) := hno
      have HYES : Hid (¬ (z k < 1 ∨ most / m < z k / gcdF m (z k)) → lcmGo most z (len - (k + 1)) (k + 1) (m * (z k / gcdF m (z k))) = lcmV z len most) := hyes
      have HST : Hid (1 ≤ z k → 1 ≤ m * (z k / gcdF m (z k))) := fun h1 => by rw [g1]; exact (lcm_step m (z k) hm1 h1).2.2.1
      clear hno hyes hg hg' g1 hc hz HV
      by_cases h1 : z k < 1
      · have hv : lcmV z len most = 0 := HNO.out (.inl h1)
        have HE : Hid (lcmV z len most = 0 ∧ lcmB z len most = false) := ⟨hv, by unfold lcmB; rw [hv]; rfl⟩
        clear hv HNO HYES HST
        go_wp2_with (go_at_call 48; refine (gcdInt_any _ _ _ ?_ ?_).mono ?_; all_goals first | assumption | (rintro e w' ⟨rfl, nn, hw⟩; subst hw))
        try rw [Exit.noGoto_ret]
        go_ret2
        exact ⟨ret2 HE.out.1.symm HE.out.2.symm, _, rfl⟩
      · have h1' : 1 ≤ z k := by omega
        obtain ⟨d1, d2⟩ := div_le (z k) (gcdF m (z k)) gp (by omega)
        have hzk2 := hzk.2
        by_cases h2 : most / m < z k / gcdF m (z k)
        · have hv : lcmV z len most = 0 := HNO.out (.inr h2)
          have HE : Hid (lcmV z len most = 0 ∧ lcmB z len most = false) := ⟨hv, by unfold lcmB; rw [hv]; rfl⟩
          clear hv HNO HYES HST
          go_wp2_with (go_at_call 48; refine (gcdInt_any _ _ _ ?_ ?_).mono ?_; all_goals first | assumption | (rintro e w' ⟨rfl, nn, hw⟩; subst hw))
          try rw [Exit.noGoto_ret]
          go_ret2
          exact ⟨ret2 HE.out.1.symm HE.out.2.symm, _, rfl⟩
        · have HG : Hid (lcmGo most z (len - (k + 1)) (k + 1) (m * (z k / gcdF m (z k))) = lcmV z len most) := HYES.out (by omega)
          have s1 := HST.out h1'
          have s2 : m * (z k / gcdF m (z k)) ≤ most := by
            have := lcm_fit most m (z k / gcdF m (z k)) hm1
            omega
          clear HNO HYES HST
          go_wp2_with (go_at_call 48; refine (gcdInt_any _ _ _ ?_ ?_).mono ?_; all_goals first | assumption | (rintro e w' ⟨rfl, nn, hw⟩; subst hw))
          go_roundw
          case rel => exact ⟨m * (z k / gcdF m (z k)), k + 1, _, s1, s2, by omega, rfl, by go_num, HG.out, rfl⟩
          case measure => simp [intOf]; omega
    · have hk' : k = len := by omega
      subst hk'
      have hv : m = lcmV z k most := by rw [← hg, Nat.sub_self]; rfl
      have HE : Hid (m = lcmV z k most ∧ true = lcmB z k most) := ⟨hv, by unfold lcmB; rw [← hv]; simp; omega⟩
      clear hv hg HV hc hz
      go_wp2
      try rw [Exit.noGoto_ret]
      go_ret2
      exact ⟨ret2 HE.out.1 (by rw [← HE.out.2]; simp; omega), _, rfl⟩

theorem lcmInt_any (a0 : Option Addr) (len cap : Nat) (z : Nat → Int) (most : Int) (w : World) (hl : len ≤ 9223372036854775807) (hm : I64 most) (hr : Row w a0 len z) :
    Calls Tryz.prog 27 #[.slice a0 len cap, .int .i64 most] w fun e w' => e = .returned (.tuple #[.int .i64 (lcmV z len most), .bool (lcmB z len most)]) ∧ ∃ n, w' = w.drewN n := by
  by_cases h : most < 1
  · exact lcmInt_few a0 len cap z most w h
  by_cases h0 : len = 0
  · subst h0; exact lcmInt_none a0 cap z most w (by omega)
  obtain ⟨bk, off, rfl, _, _⟩ := hr 0 (by omega)
  refine lcmInt_some bk off len cap z most w hl (by omega) hm.2 (fun i hi => ?_) (fun i hi => ?_)
  · obtain ⟨b2, o2, e, hc, _⟩ := hr i hi
    simp only [Option.some.injEq, Addr.mk.injEq, and_true] at e
    obtain ⟨rfl, rfl⟩ := e
    exact hc
  · obtain ⟨_, _, _, _, hz⟩ := hr i hi
    exact hz


end Go.Proofs.YthdmbikmjimmkaaGreatDoor
