/-
  num.Gcd[int], num.Lcm[int] and the document's Lcm.
-/
import Derived.Test.YtgjgaljdjkliaaaDoorProg
import Derived.Test.YtgjgaljdjkliaaaDoorNRefs
import Derived.WalkKit
import Derived.WalkSpells
import Derived.WalkLawsBesides
import Derived.WalkMore
import Derived.Deep.QuietTactic
import Derived.BigQuiet
namespace Go.Proofs.YtgjgaljdjkliaaaDoor
open Go.RowKit Plain
set_option linter.unusedVariables false
set_option maxRecDepth 100000

theorem ret1 {a b : Int} (h : a = b) : Ending.returned (.int .i64 a) = .returned (.int .i64 b) := by rw [h]
theorem ret2 {a b : Int} {x y : Bool} (h : a = b) (h2 : x = y) : Ending.returned (.tuple #[.int .i64 a, .bool x]) = .returned (.tuple #[.int .i64 b, .bool y]) := by rw [h, h2]

theorem lcm_less (z : Nat → Int) (len : Nat) (most : Int) (h : most < 1) : lcmV z len most = 0 ∧ lcmB z len most = false := by
  have : lcmV z len most = 0 := if_pos h
  unfold lcmB; rw [this]; exact ⟨rfl, rfl⟩

/-- a slice's elements are the numbers z 0 .. z (len - 1) -/
def Row (w : World) (a0 : Option Addr) (len : Nat) (z : Nat → Int) : Prop :=
  ∀ i, i < len → ∃ bk off, a0 = some ⟨bk, off, none⟩ ∧ w.cell? ⟨bk, off + i, none⟩ = some (.int .i64 (z i)) ∧ I64 (z i)

set_option maxHeartbeats 400000 in
theorem gcdInt_any (a b : Int) (w : World) (ha : I64 a) (hb : I64 b) :
    Calls Tryd.prog 40 #[.int .i64 a, .int .i64 b] w fun e w' => e = .returned (.int .i64 (gcdF a b)) ∧ ∃ n, w' = w.drewN n := by
  go_enter Tryd.func40, Tryd.ntmps40
  go_wp2
  go_loopw [0, 1] (fun x y w' => ∃ (c d : Int) (n : Nat), I64 c ∧ I64 d ∧ x = .int .i64 c ∧ y = .int .i64 d ∧ Int.gcd c d = Int.gcd a b ∧ w' = w.drewN n) (fun _ y _ => (intOf y).natAbs)
  case atStart => exact ⟨a, b, 0, ha, hb, rfl, rfl, rfl, rfl⟩
  case round =>
    obtain ⟨c, d, n, hc, hd, rfl, rfl, hg, rfl⟩ := hrel
    have HG : Hid (Int.gcd c d = Int.gcd a b) := hg
    clear hg
    by_cases h0 : d = 0
    · subst h0
      have he := gcdF_end a b c hc HG.out
      have HE : Hid (gcdF a b = if c = -9223372036854775808 then 0 else if c < 0 then -c else c) := he
      clear he
      unfold I64 at hc
      obtain ⟨hc1, hc2⟩ := hc
      by_cases h1 : c = -9223372036854775808
      · have H4 : Hid (gcdF a b = 0) := HE.out.trans (if_pos h1)
        clear HE
        subst h1
        have hw : wrap64 9223372036854775808 < 0 := by unfold wrap64; omega
        go_wp2
        go_ret
        exact ⟨ret1 H4.out.symm, n, rfl⟩
      · by_cases h2 : c < 0
        · have h3 : -9223372036854775808 < c := by omega
          have h4 := HE.out
          rw [if_neg h1, if_pos h2] at h4
          have H4 : Hid (gcdF a b = -c) := h4
          clear h4 h1
          go_wp2
          go_ret
          exact ⟨ret1 H4.out.symm, n, rfl⟩
        · have h4 := HE.out
          rw [if_neg h1, if_neg h2] at h4
          have H4 : Hid (gcdF a b = c) := h4
          clear h4 h1
          go_wp2
          go_ret
          exact ⟨ret1 H4.out.symm, n, rfl⟩
    · have hs := gcd_step c d
      have HS : Hid (Int.gcd d (c.tmod d) = Int.gcd a b) := hs.trans HG.out
      have ht := tmod_I64 c d hc
      have hl := tmod_lt c d h0
      clear hs
      go_wp2
      go_quiet (fail)
      go_wp2
      go_roundw
      case rel => exact ⟨d, c.tmod d, _, hd, ht, rfl, rfl, HS.out, World.drewN_drewN ..⟩
      case measure => simpa [intOf] using hl

theorem lcmInt_few (a0 : Option Addr) (len cap : Nat) (z : Nat → Int) (most : Int) (w : World) (h : most < 1) :
    Calls Tryd.prog 22 #[.slice a0 len cap, .int .i64 most] w fun e w' => e = .returned (.tuple #[.int .i64 (lcmV z len most), .bool (lcmB z len most)]) ∧ ∃ n, w' = w.drewN n := by
  rw [(lcm_less z len most h).1, (lcm_less z len most h).2]
  go_enter Tryd.func22, Tryd.ntmps22
  go_wp2
  go_step3
  go_wp2
  try rw [Exit.noGoto_ret]
  go_ret2
  exact ⟨rfl, 0, rfl⟩

theorem lcmInt_none (a0 : Option Addr) (cap : Nat) (z : Nat → Int) (most : Int) (w : World) (h : 1 ≤ most) :
    Calls Tryd.prog 22 #[.slice a0 0 cap, .int .i64 most] w fun e w' => e = .returned (.tuple #[.int .i64 (lcmV z 0 most), .bool (lcmB z 0 most)]) ∧ ∃ n, w' = w.drewN n := by
  have e1 : lcmV z 0 most = 1 := if_neg (by omega)
  have e2 : lcmB z 0 most = true := by unfold lcmB; rw [e1]; rfl
  rw [e1, e2]
  clear e1 e2
  go_enter Tryd.func22, Tryd.ntmps22
  go_wp2
  go_step3
  go_wp2
  go_step3
  go_wp2
  go_loopw [6, 15] (fun x y w' => x = .int .i64 1 ∧ y = .int .i64 0 ∧ w' = w) (fun _ y _ => 0)
  case atStart => exact ⟨rfl, rfl, rfl⟩
  case round =>
    obtain ⟨rfl, rfl, rfl⟩ := hrel
    go_wp2
    try rw [Exit.noGoto_ret]
    go_ret2
    exact ⟨rfl, 0, rfl⟩

set_option maxHeartbeats 800000 in
theorem lcmInt_some (bk off len cap : Nat) (z : Nat → Int) (most : Int) (w : World) (hl : len ≤ 9223372036854775807) (h : 1 ≤ most) (hm : most ≤ 9223372036854775807)
    (hc : ∀ i, i < len → w.cell? ⟨bk, off + i, none⟩ = some (.int .i64 (z i))) (hz : ∀ i, i < len → I64 (z i)) :
    Calls Tryd.prog 22 #[.slice (some ⟨bk, off, none⟩) len cap, .int .i64 most] w fun e w' => e = .returned (.tuple #[.int .i64 (lcmV z len most), .bool (lcmB z len most)]) ∧ ∃ n, w' = w.drewN n := by
  have HV : Hid (lcmV z len most = lcmGo most z len 0 1) := if_neg (by omega)
  go_enter Tryd.func22, Tryd.ntmps22
  go_wp2
  go_step3
  go_wp2
  go_step3
  go_wp2
  go_loopw [6, 15] (fun x y w' => ∃ (m : Int) (k n : Nat), 1 ≤ m ∧ m ≤ most ∧ k ≤ len ∧ x = .int .i64 m ∧ y = .int .i64 k ∧ lcmGo most z (len - k) k m = lcmV z len most ∧ w' = w.drewN n) (fun _ y _ => len - (intOf y).toNat)
  case atStart => exact ⟨1, 0, 0, by omega, by omega, by omega, rfl, rfl, HV.out.symm, rfl⟩
  case round =>
    obtain ⟨m, k, n, hm1, hm2, hk, rfl, rfl, hg, rfl⟩ := hrel
    by_cases hlt : k < len
    · have hck := hc k hlt
      have hzk := hz k hlt
      obtain ⟨g1, g2, g3⟩ := gcd_pos_le m (z k) hm1 (by omega)
      have hmI : I64 m := ⟨by omega, by omega⟩
      have hg' : lcmGo most z ((len - (k + 1)) + 1) k m = lcmV z len most := by rw [show (len - (k + 1)) + 1 = len - k by omega]; exact hg
      have gp : 1 ≤ gcdF m (z k) := by omega
      rw [← g1] at g2 g3
      obtain ⟨q1, q2⟩ := div_le most m hm1 (by omega)
      have hno : z k < 1 ∨ most / m < z k / gcdF m (z k) → lcmV z len most = 0 := fun hn => hg'.symm.trans (lcmGo_no (by rw [← g1]; exact hn))
      have hyes : ¬ (z k < 1 ∨ most / m < z k / gcdF m (z k)) → lcmGo most z (len - (k + 1)) (k + 1) (m * (z k / gcdF m (z k))) = lcmV z len most := by
        intro hn; rw [g1] at hn ⊢; exact (lcmGo_yes hn).symm.trans hg'
      have HNO : Hid (z k < 1 ∨ most / m < z k / gcdF m (z k) → lcmV z len most = 0) := hno
      have HYES : Hid (¬ (z k < 1 ∨ most / m < z k / gcdF m (z k)) → lcmGo most z (len - (k + 1)) (k + 1) (m * (z k / gcdF m (z k))) = lcmV z len most) := hyes
      have HST : Hid (1 ≤ z k → 1 ≤ m * (z k / gcdF m (z k))) := fun h1 => by rw [g1]; exact (lcm_step m (z k) hm1 h1).2.2.1
      clear hno hyes hg hg' g1 hc hz HV
      by_cases h1 : z k < 1
      · have hv : lcmV z len most = 0 := HNO.out (.inl h1)
        have HE : Hid (lcmV z len most = 0 ∧ lcmB z len most = false) := ⟨hv, by unfold lcmB; rw [hv]; rfl⟩
        clear hv HNO HYES HST
        go_wp2_with (go_at_call 40; refine (gcdInt_any _ _ _ ?_ ?_).mono ?_; all_goals first | assumption | (rintro e w' ⟨rfl, nn, hw⟩; subst hw))
        try rw [Exit.noGoto_ret]
        go_ret2
        exact ⟨ret2 HE.out.1.symm HE.out.2.symm, _, rfl⟩
      · have h1' : 1 ≤ z k := by omega
        obtain ⟨d1, d2⟩ := div_le (z k) (gcdF m (z k)) gp (by omega)
        have hzk2 := hzk.2
        by_cases h2 : most / m < z k / gcdF m (z k)
        · have hv : lcmV z len most = 0 := HNO.out (.inr h2)
          have HE : Hid (lcmV z len most = 0 ∧ lcmB z len most = false) := ⟨hv, by unfold lcmB; rw [hv]; rfl⟩
          clear hv HNO HYES HST
          go_wp2_with (go_at_call 40; refine (gcdInt_any _ _ _ ?_ ?_).mono ?_; all_goals first | assumption | (rintro e w' ⟨rfl, nn, hw⟩; subst hw))
          try rw [Exit.noGoto_ret]
          go_ret2
          exact ⟨ret2 HE.out.1.symm HE.out.2.symm, _, rfl⟩
        · have HG : Hid (lcmGo most z (len - (k + 1)) (k + 1) (m * (z k / gcdF m (z k))) = lcmV z len most) := HYES.out (by omega)
          have s1 := HST.out h1'
          have s2 : m * (z k / gcdF m (z k)) ≤ most := by
            have := lcm_fit most m (z k / gcdF m (z k)) hm1
            omega
          clear HNO HYES HST
          go_wp2_with (go_at_call 40; refine (gcdInt_any _ _ _ ?_ ?_).mono ?_; all_goals first | assumption | (rintro e w' ⟨rfl, nn, hw⟩; subst hw))
          go_roundw
          case rel => exact ⟨m * (z k / gcdF m (z k)), k + 1, _, s1, s2, by omega, rfl, by go_num, HG.out, rfl⟩
          case measure => simp [intOf]; omega
    · have hk' : k = len := by omega
      subst hk'
      have hv : m = lcmV z k most := by rw [← hg, Nat.sub_self]; rfl
      have HE : Hid (m = lcmV z k most ∧ true = lcmB z k most) := ⟨hv, by unfold lcmB; rw [← hv]; simp; omega⟩
      clear hv hg HV hc hz
      go_wp2
      try rw [Exit.noGoto_ret]
      go_ret2
      exact ⟨ret2 HE.out.1 (by rw [← HE.out.2]; simp; omega), _, rfl⟩

theorem lcmInt_any (a0 : Option Addr) (len cap : Nat) (z : Nat → Int) (most : Int) (w : World) (hl : len ≤ 9223372036854775807) (hm : I64 most) (hr : Row w a0 len z) :
    Calls Tryd.prog 22 #[.slice a0 len cap, .int .i64 most] w fun e w' => e = .returned (.tuple #[.int .i64 (lcmV z len most), .bool (lcmB z len most)]) ∧ ∃ n, w' = w.drewN n := by
  by_cases h : most < 1
  · exact lcmInt_few a0 len cap z most w h
  by_cases h0 : len = 0
  · subst h0; exact lcmInt_none a0 cap z most w (by omega)
  obtain ⟨bk, off, rfl, _, _⟩ := hr 0 (by omega)
  refine lcmInt_some bk off len cap z most w hl (by omega) hm.2 (fun i hi => ?_) (fun i hi => ?_)
  · obtain ⟨b2, o2, e, hc, _⟩ := hr i hi
    simp only [Option.some.injEq, Addr.mk.injEq, and_true] at e
    obtain ⟨rfl, rfl⟩ := e
    exact hc
  · obtain ⟨_, _, _, _, hz⟩ := hr i hi
    exact hz

theorem ret1u {a b : Int} (h : a = b) : Ending.returned (.int .u64 a) = .returned (.int .u64 b) := by rw [h]
theorem ret2' {a b : Int} {x y : Bool} (h : a = b) (h2 : x = y) : Ending.returned (.tuple #[.int .i64 a, .bool x]) = .returned (.tuple #[.int .i64 b, .bool y]) := by rw [h, h2]

theorem away_any (a : Int) (w : World) (ha : I64 a) :
    Calls Tryd.prog 49 #[.int .i64 a] w fun e w' => e = .returned (.int .u64 (a.natAbs : Int)) ∧ w' = w := by
  unfold I64 at ha
  obtain ⟨h1, h2⟩ := ha
  by_cases h : a < 0
  · go_enter Tryd.func49, Tryd.ntmps49
    go_wp2
    go_ret
    exact ⟨ret1u (by omega), rfl⟩
  · go_enter Tryd.func49, Tryd.ntmps49
    go_wp2
    go_ret
    exact ⟨ret1u (by omega), rfl⟩

theorem signed_any (s : Bool) (d : Int) (w : World) (h0 : 0 ≤ d) (h1 : d ≤ 18446744073709551615) :
    Calls Tryd.prog 50 #[.bool s, .int .u64 d] w fun e w' => e = .returned (.tuple #[.int .i64 (sgnV s d), .bool (sgnB s d)]) ∧ w' = w := by
  cases s
  · by_cases h : 9223372036854775807 < d
    · rw [show sgnV false d = 0 from if_pos h, show sgnB false d = false from if_pos h]
      go_enter Tryd.func50, Tryd.ntmps50
      go_wp2
      go_ret2
      exact ⟨rfl, rfl⟩
    · rw [show sgnV false d = d from if_neg h, show sgnB false d = true from if_neg h]
      go_enter Tryd.func50, Tryd.ntmps50
      go_wp2
      go_ret2
      exact ⟨rfl, rfl⟩
  · by_cases h : 9223372036854775808 < d
    · rw [show sgnV true d = 0 from if_pos h, show sgnB true d = false from if_pos h]
      go_enter Tryd.func50, Tryd.ntmps50
      go_wp2
      go_ret2
      exact ⟨rfl, rfl⟩
    · rw [show sgnV true d = -d from if_neg h, show sgnB true d = true from if_neg h]
      by_cases h2 : d = 9223372036854775808
      · have h3 : 9223372036854775808 ≤ d := by omega
        have H2 : Hid (d = 9223372036854775808) := h2
        clear h2
        go_enter Tryd.func50, Tryd.ntmps50
        go_wp2
        all_goals (go_ret2; exact ⟨ret2' (by omega) rfl, rfl⟩)
      · have h3 : d < 9223372036854775808 := by omega
        go_enter Tryd.func50, Tryd.ntmps50
        go_wp2
        go_ret2
        exact ⟨rfl, rfl⟩


set_option maxHeartbeats 1000000 in
theorem rmul_any (a b : Int) (w : World) (ha : I64 a) (hb : I64 b) :
    Calls Tryd.prog 41 #[.int .i64 a, .int .i64 b] w fun e w' => e = .returned (.tuple #[.int .i64 (mulV a b), .bool (mulB a b)]) ∧ w' = w := by
  have n1 : (a.natAbs : Int) ≤ 9223372036854775808 := by unfold I64 at ha; omega
  have n2 : (b.natAbs : Int) ≤ 9223372036854775808 := by unfold I64 at hb; omega
  have p0 : 0 ≤ (a.natAbs : Int) * (b.natAbs : Int) := Int.mul_nonneg (by omega) (by omega)
  by_cases hp : 9223372036854775808 < (a.natAbs : Int) * (b.natAbs : Int)
  · obtain ⟨e1, e2⟩ := mul_ref_no a b hp
    rw [e1, e2]
    have hx : 0 < (a.natAbs : Int) := by
      by_cases h0 : (a.natAbs : Int) = 0
      · rw [h0, Int.zero_mul] at hp; omega
      · omega
    have hd := (fit_div _ _ hx).2 hp
    clear e1 e2
    go_enter Tryd.func41, Tryd.ntmps41
    go_wp2_with (go_at_call 49; refine (away_any _ _ ?_).mono ?_; all_goals first | assumption | rintro e w' ⟨rfl, rfl⟩)
    go_ret2
    exact ⟨rfl, rfl⟩
  · have HM := mul_ref a b hp
    have p1 : (a.natAbs : Int) * (b.natAbs : Int) ≤ 9223372036854775808 := by omega
    have key : ∀ s : Bool, Hid (s = ((decide (a < 0) != decide (b < 0)) && ((a.natAbs : Int) * (b.natAbs : Int) != 0)) → sgnV s ((a.natAbs : Int) * (b.natAbs : Int)) = mulV a b ∧ sgnB s ((a.natAbs : Int) * (b.natAbs : Int)) = mulB a b) := HM
    clear HM
    have hd : 0 < (a.natAbs : Int) → ¬ 9223372036854775808 / (a.natAbs : Int) < (b.natAbs : Int) := fun h => fun h2 => hp ((fit_div _ _ h).1 h2)
    clear hp
    have hz : ((a.natAbs : Int) * (b.natAbs : Int) != 0) = true ∨ ((a.natAbs : Int) * (b.natAbs : Int) != 0) = false := by cases ((a.natAbs : Int) * (b.natAbs : Int) != 0) <;> simp
    have hs : decide (a < 0) = true ∨ decide (a < 0) = false := by cases decide (a < 0) <;> simp
    have ht : decide (b < 0) = true ∨ decide (b < 0) = false := by cases decide (b < 0) <;> simp
    by_cases hx : 0 < (a.natAbs : Int)
    · have hd2 := hd hx
      clear hd
      rcases hz with hz | hz <;> rcases hs with hs | hs <;> rcases ht with ht | ht
      all_goals
        go_enter Tryd.func41, Tryd.ntmps41
        go_wp2_with (first | (go_at_call 49; refine (away_any _ _ ?_).mono ?_; all_goals first | assumption | rintro e w' ⟨rfl, rfl⟩) | (go_at_call 50; refine (signed_any _ _ _ ?_ ?_).mono ?_; all_goals first | omega | rintro e w' ⟨rfl, rfl⟩))
        go_ret2
        exact ⟨ret2' ((key _).out (by simp [hz, hs, ht])).1 ((key _).out (by simp [hz, hs, ht])).2, rfl⟩
    · have hx2 : a = 0 := by omega
      subst hx2
      have e1 : mulV 0 b = 0 := by rw [mulV_yes (by rw [Int.zero_mul]; unfold I64; omega), Int.zero_mul]
      have e2 : mulB 0 b = true := mulB_yes (by rw [Int.zero_mul]; unfold I64; omega)
      rw [e1, e2]
      have e3 : sgnV false 0 = 0 := rfl
      have e4 : sgnB false 0 = true := rfl
      clear hd hx p0 p1 hz hs key n1 e1 e2
      rcases ht with ht | ht
      all_goals
        go_enter Tryd.func41, Tryd.ntmps41
        go_wp2_with (first | (go_at_call 49; refine (away_any _ _ ?_).mono ?_; all_goals first | assumption | rintro e w' ⟨rfl, rfl⟩) | (go_at_call 50; refine (signed_any _ _ _ ?_ ?_).mono ?_; all_goals first | omega | rintro e w' ⟨rfl, rfl⟩))
        go_ret2
        exact ⟨ret2' (by first | rfl | simp [sgnV]) (by first | rfl | simp [sgnB]), rfl⟩


theorem sgn_gcd (a b : Int) (ha : I64 a) (hb : I64 b) : sgnV false (Int.gcd a b : Int) = gcdF a b := by
  unfold gcdF
  by_cases h : (Int.gcd a b : Int) ≤ 9223372036854775807
  · rw [if_pos h]; exact (sgn_up h).1
  · have h2 : 9223372036854775807 < (Int.gcd a b : Int) := by omega
    rw [if_neg h]; exact if_pos h2

theorem u64_mod (X Y : Nat) : Value.int .u64 ((X : Int) % (Y : Int)) = .int .u64 ((X % Y : Nat) : Int) := by rw [Int.natCast_emod]

set_option maxHeartbeats 400000 in
theorem rgcd_any (a b : Int) (w : World) (ha : I64 a) (hb : I64 b) :
    Calls Tryd.prog 42 #[.int .i64 a, .int .i64 b] w fun e w' => e = .returned (.int .i64 (gcdF a b)) ∧ w' = w := by
  have n1 : (a.natAbs : Int) ≤ 9223372036854775808 := by unfold I64 at ha; omega
  have n2 : (b.natAbs : Int) ≤ 9223372036854775808 := by unfold I64 at hb; omega
  have HS : Hid (sgnV false (Int.gcd a b : Int) = gcdF a b) := sgn_gcd a b ha hb
  go_enter Tryd.func42, Tryd.ntmps42
  go_wp2_with (go_at_call 49; refine (away_any _ _ ?_).mono ?_; all_goals first | assumption | (rintro e w' ⟨rfl, hw⟩; obtain rfl := hw.symm))
  go_loop [5, 6] (fun x y => ∃ X Y : Nat, (X : Int) ≤ 9223372036854775808 ∧ (Y : Int) ≤ 9223372036854775808 ∧ x = .int .u64 X ∧ y = .int .u64 Y ∧ Nat.gcd X Y = Int.gcd a b) (fun _ y => (intOf y).toNat)
  case atStart => exact ⟨a.natAbs, b.natAbs, n1, n2, rfl, rfl, rfl⟩
  case round =>
    obtain ⟨X, Y, hX, hY, rfl, rfl, hg⟩ := hrel
    have HG : Hid (Nat.gcd X Y = Int.gcd a b) := hg
    clear hg
    by_cases h0 : Y = 0
    · subst h0
      have H2 : Hid (sgnV false (X : Int) = gcdF a b) := by
        have := HG.out
        rw [Nat.gcd_zero_right] at this
        have e := HS.out
        rw [← this] at e
        exact e
      clear HS HG
      go_wp2_with (go_at_call 50; refine (signed_any _ _ _ ?_ ?_).mono ?_; all_goals first | omega | (rintro e w' ⟨rfl, hw⟩; obtain rfl := hw.symm))
      go_ret
      exact ⟨ret1 H2.out, rfl⟩
    · have h1 : 0 < (Y : Int) := by omega
      have h2 : X % Y < Y := Nat.mod_lt _ (by omega)
      have H3 : Hid (Nat.gcd Y (X % Y) = Int.gcd a b) := by
        have e : Nat.gcd Y (X % Y) = Nat.gcd X Y := by rw [Nat.gcd_comm, ← Nat.gcd_rec, Nat.gcd_comm]
        exact e.trans HG.out
      have h4 : ((X : Int) % (Y : Int)) = ((X % Y : Nat) : Int) := (Int.natCast_emod X Y).symm
      have H4 : Hid (((X : Int) % (Y : Int)) = ((X % Y : Nat) : Int)) := h4
      clear HG h4
      go_wp2
      go_round
      case rel => exact ⟨Y, X % Y, hY, by omega, rfl, by rw [H4.out], H3.out⟩
      case measure => simp [intOf]; omega



theorem lcm_small (z : Nat → Int) (len : Nat) (most : Int) (i : Nat) (hi : i < len) (h : z i < 1) : lcmV z len most = 0 ∧ lcmB z len most = false := by
  obtain ⟨V1, V2, _⟩ := lcmV_facts z len most
  have hv : lcmV z len most = 0 := by
    by_cases hp : 0 < lcmV z len most
    · have := ((V2 hp).2 i hi).1; omega
    · omega
  unfold lcmB; rw [hv]; exact ⟨rfl, rfl⟩

set_option maxHeartbeats 1000000 in
theorem rlcm_any (a0 : Option Addr) (len cap : Nat) (z : Nat → Int) (most : Int) (w : World) (hl : len ≤ 9223372036854775807) (hm : I64 most) (hr : Row w a0 len z) :
    Calls Tryd.prog 23 #[.slice a0 len cap, .int .i64 most] w fun e w' => e = .returned (.tuple #[.int .i64 (lcmV z len most), .bool (lcmB z len most)]) ∧ ∃ n, w' = w.drewN n := by
  have HR : Hid (Row w a0 len z) := hr
  clear hr
  have hm2 := hm.2
  go_enter Tryd.func23, Tryd.ntmps23
  go_wp2
  go_loop [7] (fun i => ∃ k : Nat, i = .int .i64 k ∧ k ≤ len ∧ ∀ i, i < k → 1 ≤ z i) (fun i => len - (intOf i).toNat)
  case atStart => exact ⟨0, rfl, by omega, fun i hi => absurd hi (by omega)⟩
  case round =>
    obtain ⟨k, rfl, hk, hz⟩ := hrel
    have HZ : Hid (∀ i, i < k → 1 ≤ z i) := hz
    clear hz
    by_cases hlt : k < len
    · obtain ⟨bk, off, rfl, hck, hzk⟩ := HR.out k hlt
      by_cases h1 : z k < 1
      · have HE : Hid (lcmV z len most = 0 ∧ lcmB z len most = false) := lcm_small z len most k hlt h1
        go_wp2
        go_ret2
        exact ⟨ret2 HE.out.1.symm HE.out.2.symm, 0, rfl⟩
      · go_wp2
        go_round
        case rel => exact ⟨k + 1, by go_num, by omega, fun i hi => (by
          by_cases e : i = k
          · subst e; omega
          · exact HZ.out i (by omega))⟩
        case measure => simp [intOf]; omega
    · have HZ2 : Hid (∀ i, i < len → 1 ≤ z i) := fun i hi => HZ.out i (by omega)
      clear HZ hk
      by_cases hmost : most < 1
      · have HE : Hid (lcmV z len most = 0 ∧ lcmB z len most = false) := lcm_less z len most hmost
        go_wp2
        go_loopw [6, 8] (fun x i wx => x = .int .i64 1 ∧ i = .int .i64 0 ∧ wx = w) (fun _ i _ => 0)
        case atStart => exact ⟨rfl, rfl, rfl⟩
        case round =>
          obtain ⟨rfl, rfl, hw⟩ := hrel
          obtain rfl := hw.symm
          by_cases h0 : len = 0
          · subst h0
            go_wp2
            go_ret2
            exact ⟨ret2 HE.out.1.symm HE.out.2.symm, 0, rfl⟩
          · have h0' : 0 < len := by omega
            obtain ⟨bk, off, rfl, hck0, hzk⟩ := HR.out 0 h0'
            have hck : w.cell? ⟨bk, off, none⟩ = some (.int .i64 (z 0)) := by simpa using hck0
            clear hck0
            have h1 := HZ2.out 0 h0'
            have hzk2 := hzk.2
            obtain ⟨g1, g2, g3, g4⟩ := lcmGo_ref z 0 1 (by omega) (by omega) h1 hzk.2
            have hI1 : I64 1 := by unfold I64; omega
            have hI2 : I64 (z 0 / gcdF 1 (z 0)) := by unfold I64; omega
            have m1 : mulV 1 (z 0 / gcdF 1 (z 0)) = z 0 / gcdF 1 (z 0) := by rw [mulV_yes (by rw [Int.one_mul]; exact hI2), Int.one_mul]
            have m2 : mulB 1 (z 0 / gcdF 1 (z 0)) = true := mulB_yes (by rw [Int.one_mul]; exact hI2)
            clear g1
            go_wp2
            go_quiet ((first | (go_at_call 42; refine Calls.quiet_of_same (rgcd_any _ _ _ ?_ ?_) <;> assumption) | (go_at_call 41; refine Calls.quiet_of_same (rmul_any _ _ _ ?_ ?_) <;> assumption)))
            go_wp2
            go_ret2
            exact ⟨ret2 HE.out.1.symm HE.out.2.symm, _, rfl⟩
      · have HV : Hid (lcmV z len most = lcmGo most z len 0 1) := if_neg hmost
        go_wp2
        go_loopw [6, 8] (fun x y wx => ∃ (m : Int) (k n : Nat), 1 ≤ m ∧ m ≤ most ∧ k ≤ len ∧ x = .int .i64 m ∧ y = .int .i64 k ∧ lcmGo most z (len - k) k m = lcmV z len most ∧ wx = w.drewN n) (fun _ y _ => len - (intOf y).toNat)
        case atStart => exact ⟨1, 0, 0, by omega, by omega, by omega, rfl, rfl, HV.out.symm, rfl⟩
        case round =>
          obtain ⟨m, k2, n, hm1, hm3, hk2, rfl, rfl, hg, hw⟩ := hrel
          have HW : Hid (_ = w.drewN n) := hw
          clear hw
          by_cases hlt2 : k2 < len
          · obtain ⟨bk, off, rfl, hck0, hzk⟩ := HR.out k2 hlt2
            have hck := hck0
            rw [show w.cell? ⟨bk, off + k2, none⟩ = (w.drewN n).cell? ⟨bk, off + k2, none⟩ from rfl, ← HW.out] at hck
            clear hck0
            have h1 := HZ2.out k2 hlt2
            have hzk2 := hzk.2
            obtain ⟨g1, g2, g3, g4⟩ := lcmGo_ref z k2 m (by omega) (by omega) h1 hzk.2
            have hI1 : I64 m := by unfold I64; omega
            have hI2 : I64 (z k2 / gcdF m (z k2)) := by unfold I64; omega
            have hg' : lcmGo most z ((len - (k2 + 1)) + 1) k2 m = lcmV z len most := by rw [show (len - (k2 + 1)) + 1 = len - k2 by omega]; exact hg
            have hf := lcm_fit most m (z k2 / gcdF m (z k2)) hm1
            have hno : most < m * (z k2 / gcdF m (z k2)) → lcmV z len most = 0 ∧ lcmB z len most = false := fun hn => by
              have hv : lcmV z len most = 0 := hg'.symm.trans (lcmGo_no (by rw [← g1]; exact .inr (hf.2 hn)))
              unfold lcmB; rw [hv]; exact ⟨rfl, rfl⟩
            have hyes : ¬ most < m * (z k2 / gcdF m (z k2)) → lcmGo most z (len - (k2 + 1)) (k2 + 1) (m * (z k2 / gcdF m (z k2))) = lcmV z len most := by
              intro hn
              have h3 : ¬ (z k2 < 1 ∨ most / m < z k2 / (Int.gcd m (z k2) : Int)) := by rw [← g1]; omega
              have h4 := lcmGo_yes (n := len - (k2 + 1)) h3
              rw [← g1] at h4
              exact h4.symm.trans hg'
            have hs := (lcm_step m (z k2) hm1 h1).2.2.1
            rw [← g1] at hs
            have HNO : Hid (most < m * (z k2 / gcdF m (z k2)) → lcmV z len most = 0 ∧ lcmB z len most = false) := hno
            have HYES : Hid (¬ most < m * (z k2 / gcdF m (z k2)) → lcmGo most z (len - (k2 + 1)) (k2 + 1) (m * (z k2 / gcdF m (z k2))) = lcmV z len most) := hyes
            clear hno hyes hf hg hg' g1
            by_cases hI : I64 (m * (z k2 / gcdF m (z k2)))
            · have m1 := mulV_yes hI
              have m2 := mulB_yes hI
              by_cases hb : most < m * (z k2 / gcdF m (z k2))
              · have HE := HNO.out hb
                have HE : Hid (lcmV z len most = 0 ∧ lcmB z len most = false) := HE
                clear HNO HYES hI
                go_wp2
                go_quiet ((first | (go_at_call 42; refine Calls.quiet_of_same (rgcd_any _ _ _ ?_ ?_) <;> assumption) | (go_at_call 41; refine Calls.quiet_of_same (rmul_any _ _ _ ?_ ?_) <;> assumption)))
                go_wp2
                go_ret2
                exact ⟨ret2 HE.out.1.symm HE.out.2.symm, _, by rw [HW.out, World.drewN_drewN]⟩
              · have HG : Hid (lcmGo most z (len - (k2 + 1)) (k2 + 1) (m * (z k2 / gcdF m (z k2))) = lcmV z len most) := HYES.out hb
                clear HNO HYES hI
                go_wp2
                go_quiet ((first | (go_at_call 42; refine Calls.quiet_of_same (rgcd_any _ _ _ ?_ ?_) <;> assumption) | (go_at_call 41; refine Calls.quiet_of_same (rmul_any _ _ _ ?_ ?_) <;> assumption)))
                go_wp2
                go_roundw
                case rel => exact ⟨m * (z k2 / gcdF m (z k2)), k2 + 1, _, hs, by omega, by omega, rfl, by go_num, HG.out, by rw [HW.out, World.drewN_drewN]⟩
                case measure => simp [intOf]; omega
            · have m2 := mulB_no hI
              have HE : Hid (lcmV z len most = 0 ∧ lcmB z len most = false) := HNO.out (by unfold I64 at hI; omega)
              clear HNO HYES hI
              go_wp2
              go_quiet ((first | (go_at_call 42; refine Calls.quiet_of_same (rgcd_any _ _ _ ?_ ?_) <;> assumption) | (go_at_call 41; refine Calls.quiet_of_same (rmul_any _ _ _ ?_ ?_) <;> assumption)))
              go_wp2
              go_ret2
              exact ⟨ret2 HE.out.1.symm HE.out.2.symm, _, by rw [HW.out, World.drewN_drewN]⟩
          · have hk' : k2 = len := by omega
            have hv : m = lcmV z len most := by rw [← hg, hk', Nat.sub_self]; rfl
            have HE : Hid (m = lcmV z len most ∧ true = lcmB z len most) := ⟨hv, by unfold lcmB; rw [← hv]; simp; omega⟩
            clear hv hg HV
            go_wp2
            go_ret2
            exact ⟨ret2 HE.out.1 HE.out.2, _, HW.out⟩

end Go.Proofs.YtgjgaljdjkliaaaDoor
