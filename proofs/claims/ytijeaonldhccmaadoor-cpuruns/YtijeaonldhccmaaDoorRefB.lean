/-
  The document's numbers: shifted, reckoned.
-/
import Derived.Test.YtijeaonldhccmaaDoorRefA
namespace Go.Proofs.YtijeaonldhccmaaDoor
open Go.RowKit
set_option linter.unusedVariables false

def sh15 (b : Int) (i : Nat) : Int := wrap64 (b * 2 ^ i)
def sh16 (b : Int) (i : Nat) : Int := wrap64 ((un b : Int) / 2 ^ i)
def sh17 (b : Int) (i : Nat) : Int := b / 2 ^ i
theorem sh15_0 {b : Int} (hb : I6 b) : sh15 b 0 = b := by unfold sh15; rw [Int.pow_zero, Int.mul_one, w6_id hb]
theorem sh16_0 {b : Int} (hb : I6 b) : sh16 b 0 = b := by
  unfold sh16 un; rw [Int.pow_zero, Int.ediv_one]; unfold wrap64; unfold I6 at hb; omega
theorem sh17_0 {b : Int} (hb : I6 b) : sh17 b 0 = b := by unfold sh17; rw [Int.pow_zero, Int.ediv_one]
theorem sh15_I (b : Int) (hb : I6 b) (i : Nat) : I6 (sh15 b i) := w6 _
theorem sh16_I (b : Int) (hb : I6 b) (i : Nat) : I6 (sh16 b i) := w6 _
theorem sh17_I (b : Int) (hb : I6 b) (i : Nat) : I6 (sh17 b i) := sar_I6 hb i
theorem sh15_s (b : Int) (i : Nat) : sh15 b (i + 1) = wrap64 (sh15 b i + sh15 b i) := by
  unfold sh15; rw [w6_addl, w6_addr, Int.pow_succ, ← Int.mul_assoc]; congr 1; omega
theorem sh17_s (b : Int) (i : Nat) : sh17 b (i + 1) = rg (sh17 b i) 1 := by
  unfold sh17 rg; rw [if_neg (by decide), Int.pow_succ, Int.ediv_ediv_of_nonneg (Int.le_of_lt (pow_pos' i))]
theorem sh16_s (b : Int) (i : Nat) : sh16 b (i + 1) = rg (sh16 b i) 0 := by
  unfold sh16 rg
  rw [if_pos rfl]
  have e : ((un b : Int) / 2 ^ i) = ((un b / 2 ^ i : Nat) : Int) := by rw [Int.natCast_ediv, Int.natCast_pow]; rfl
  have hlt : un b / 2 ^ i < 18446744073709551616 := Nat.lt_of_le_of_lt (Nat.div_le_self _ _) (un_lt b)
  rw [Int.pow_succ, ← Int.ediv_ediv_of_nonneg (Int.le_of_lt (pow_pos' i)), e, un_wrap hlt]

set_option maxHeartbeats 400000 in
theorem refShifted15 (b c : Int) (hb : I6 b) (hc : I6 c) (w : World) :
    Calls Tryd.prog 86 #[.int .u8 15, .int .i64 b, .int .i64 c] w fun ex w' => ex = .returned (.int .i64 (shl b c)) ∧ w' = w := by
  have cq := refQuo_any c 64 hc (by unfold I6; omega) (by decide) w
  obtain ⟨K, hK⟩ : ∃ K : Nat, c % 64 = K := ⟨(c % 64).toNat, by omega⟩
  have hK2 : K < 64 := by omega
  have eK : rm c 64 = K := hK
  rw [eK] at cq
  have HE : Hid (shl b c = sh15 b K) := (show shl b c = sh15 b K by unfold shl sh15; rw [hK]; rfl)
  have HI : Hid (∀ i, I6 (sh15 b i)) := sh15_I b hb
  have H0 : Hid (b = sh15 b 0) := (sh15_0 hb).symm
  generalize qt c 64 = Q at *
  clear hK eK hb hc
  go_enter Tryd.func86, Tryd.ntmps86
  go_wp2_with (go_at_call 77; refine cq.mono ?_; rintro ex w1 ⟨rfl, hw⟩; obtain rfl := hw.symm)
  go_loop [1, 9] (fun x i => ∃ k : Nat, k ≤ K ∧ i = .int .i64 k ∧ x = .int .i64 (sh15 b k)) (fun _ i => K - (intOf i).toNat)
  case atStart => exact ⟨0, by omega, rfl, val_int H0.out⟩
  case round =>
    obtain ⟨k, hk, rfl, rfl⟩ := hrel
    by_cases hlt : k < K
    · have HS : Hid (sh15 b (k + 1) = wrap64 (sh15 b k + sh15 b k)) := sh15_s b k
      go_wp2_with (go_at_call 89; refine (refLeft_any _ _).mono ?_; rintro ex w2 ⟨rfl, hw2⟩; obtain rfl := hw2.symm)
      go_round
      case rel => exact ⟨k + 1, by omega, by go_num, val_int HS.out.symm⟩
      case measure => simp [intOf]; omega
    · obtain rfl : k = K := by omega
      go_wp2
      go_ret
      exact ⟨ret_int HE.out.symm, rfl⟩

set_option maxHeartbeats 400000 in
theorem refShifted16 (b c : Int) (hb : I6 b) (hc : I6 c) (w : World) :
    Calls Tryd.prog 86 #[.int .u8 16, .int .i64 b, .int .i64 c] w fun ex w' => ex = .returned (.int .i64 (shr b c)) ∧ w' = w := by
  have cq := refQuo_any c 64 hc (by unfold I6; omega) (by decide) w
  obtain ⟨K, hK⟩ : ∃ K : Nat, c % 64 = K := ⟨(c % 64).toNat, by omega⟩
  have hK2 : K < 64 := by omega
  have eK : rm c 64 = K := hK
  rw [eK] at cq
  have HE : Hid (shr b c = sh16 b K) := (show shr b c = sh16 b K by unfold shr sh16; rw [hK]; rfl)
  have HI : Hid (∀ i, I6 (sh16 b i)) := sh16_I b hb
  have H0 : Hid (b = sh16 b 0) := (sh16_0 hb).symm
  generalize qt c 64 = Q at *
  clear hK eK hb hc
  go_enter Tryd.func86, Tryd.ntmps86
  go_wp2_with (go_at_call 77; refine cq.mono ?_; rintro ex w1 ⟨rfl, hw⟩; obtain rfl := hw.symm)
  go_loop [1, 9] (fun x i => ∃ k : Nat, k ≤ K ∧ i = .int .i64 k ∧ x = .int .i64 (sh16 b k)) (fun _ i => K - (intOf i).toNat)
  case atStart => exact ⟨0, by omega, rfl, val_int H0.out⟩
  case round =>
    obtain ⟨k, hk, rfl, rfl⟩ := hrel
    by_cases hlt : k < K
    · have HS : Hid (sh16 b (k + 1) = rg (sh16 b k) 0) := sh16_s b k
      go_wp2_with (go_at_call 90; refine (refRight_any _ 0 (.inl rfl) (HI.out k) _).mono ?_; rintro ex w2 ⟨rfl, hw2⟩; obtain rfl := hw2.symm)
      go_round
      case rel => exact ⟨k + 1, by omega, by go_num, val_int HS.out.symm⟩
      case measure => simp [intOf]; omega
    · obtain rfl : k = K := by omega
      go_wp2
      go_ret
      exact ⟨ret_int HE.out.symm, rfl⟩

set_option maxHeartbeats 400000 in
theorem refShifted17 (b c : Int) (hb : I6 b) (hc : I6 c) (w : World) :
    Calls Tryd.prog 86 #[.int .u8 17, .int .i64 b, .int .i64 c] w fun ex w' => ex = .returned (.int .i64 (sar b c)) ∧ w' = w := by
  have cq := refQuo_any c 64 hc (by unfold I6; omega) (by decide) w
  obtain ⟨K, hK⟩ : ∃ K : Nat, c % 64 = K := ⟨(c % 64).toNat, by omega⟩
  have hK2 : K < 64 := by omega
  have eK : rm c 64 = K := hK
  rw [eK] at cq
  have HE : Hid (sar b c = sh17 b K) := (show sar b c = sh17 b K by unfold sar sh17; rw [hK]; rfl)
  have HI : Hid (∀ i, I6 (sh17 b i)) := sh17_I b hb
  have H0 : Hid (b = sh17 b 0) := (sh17_0 hb).symm
  generalize qt c 64 = Q at *
  clear hK eK hb hc
  go_enter Tryd.func86, Tryd.ntmps86
  go_wp2_with (go_at_call 77; refine cq.mono ?_; rintro ex w1 ⟨rfl, hw⟩; obtain rfl := hw.symm)
  go_loop [1, 9] (fun x i => ∃ k : Nat, k ≤ K ∧ i = .int .i64 k ∧ x = .int .i64 (sh17 b k)) (fun _ i => K - (intOf i).toNat)
  case atStart => exact ⟨0, by omega, rfl, val_int H0.out⟩
  case round =>
    obtain ⟨k, hk, rfl, rfl⟩ := hrel
    by_cases hlt : k < K
    · have HS : Hid (sh17 b (k + 1) = rg (sh17 b k) 1) := sh17_s b k
      go_wp2_with (go_at_call 90; refine (refRight_any _ 1 (.inr rfl) (HI.out k) _).mono ?_; rintro ex w2 ⟨rfl, hw2⟩; obtain rfl := hw2.symm)
      go_round
      case rel => exact ⟨k + 1, by omega, by go_num, val_int HS.out.symm⟩
      case measure => simp [intOf]; omega
    · obtain rfl : k = K := by omega
      go_wp2
      go_ret
      exact ⟨ret_int HE.out.symm, rfl⟩

/-- what the operations reckon -/
def rk (o : Nat) (B C : Int) : Int :=
  if o = 7 then wrap64 (B + C) else
  if o = 18 then wrap64 (B + C) else
  if o = 8 then wrap64 (B - C) else
  if o = 9 then wrap64 (B * C) else
  if o = 12 then bits .and .i64 B C else
  if o = 13 then bits .or .i64 B C else
  if o = 14 then bits .xor .i64 B C else
  if o = 15 then shl B C else
  if o = 16 then shr B C else
  if o = 17 then sar B C else
  if o = 19 then fl (decide (B < C)) else
  if o = 20 then fl (decide (un B < un C)) else
  fl (B == C)
theorem rkE7 (B C : Int) : rk 7 B C = wrap64 (B + C) := by unfold rk; rw [if_pos (show (7 : Nat) = 7 from rfl)]
theorem rkE18 (B C : Int) : rk 18 B C = wrap64 (B + C) := by unfold rk; rw [if_neg (show ¬ (18 : Nat) = 7 by decide), if_pos (show (18 : Nat) = 18 from rfl)]
theorem rkE8 (B C : Int) : rk 8 B C = wrap64 (B - C) := by unfold rk; rw [if_neg (show ¬ (8 : Nat) = 7 by decide), if_neg (show ¬ (8 : Nat) = 18 by decide), if_pos (show (8 : Nat) = 8 from rfl)]
theorem rkE9 (B C : Int) : rk 9 B C = wrap64 (B * C) := by unfold rk; rw [if_neg (show ¬ (9 : Nat) = 7 by decide), if_neg (show ¬ (9 : Nat) = 18 by decide), if_neg (show ¬ (9 : Nat) = 8 by decide), if_pos (show (9 : Nat) = 9 from rfl)]
theorem rkE12 (B C : Int) : rk 12 B C = bits .and .i64 B C := by unfold rk; rw [if_neg (show ¬ (12 : Nat) = 7 by decide), if_neg (show ¬ (12 : Nat) = 18 by decide), if_neg (show ¬ (12 : Nat) = 8 by decide), if_neg (show ¬ (12 : Nat) = 9 by decide), if_pos (show (12 : Nat) = 12 from rfl)]
theorem rkE13 (B C : Int) : rk 13 B C = bits .or .i64 B C := by unfold rk; rw [if_neg (show ¬ (13 : Nat) = 7 by decide), if_neg (show ¬ (13 : Nat) = 18 by decide), if_neg (show ¬ (13 : Nat) = 8 by decide), if_neg (show ¬ (13 : Nat) = 9 by decide), if_neg (show ¬ (13 : Nat) = 12 by decide), if_pos (show (13 : Nat) = 13 from rfl)]
theorem rkE14 (B C : Int) : rk 14 B C = bits .xor .i64 B C := by unfold rk; rw [if_neg (show ¬ (14 : Nat) = 7 by decide), if_neg (show ¬ (14 : Nat) = 18 by decide), if_neg (show ¬ (14 : Nat) = 8 by decide), if_neg (show ¬ (14 : Nat) = 9 by decide), if_neg (show ¬ (14 : Nat) = 12 by decide), if_neg (show ¬ (14 : Nat) = 13 by decide), if_pos (show (14 : Nat) = 14 from rfl)]
theorem rkE15 (B C : Int) : rk 15 B C = shl B C := by unfold rk; rw [if_neg (show ¬ (15 : Nat) = 7 by decide), if_neg (show ¬ (15 : Nat) = 18 by decide), if_neg (show ¬ (15 : Nat) = 8 by decide), if_neg (show ¬ (15 : Nat) = 9 by decide), if_neg (show ¬ (15 : Nat) = 12 by decide), if_neg (show ¬ (15 : Nat) = 13 by decide), if_neg (show ¬ (15 : Nat) = 14 by decide), if_pos (show (15 : Nat) = 15 from rfl)]
theorem rkE16 (B C : Int) : rk 16 B C = shr B C := by unfold rk; rw [if_neg (show ¬ (16 : Nat) = 7 by decide), if_neg (show ¬ (16 : Nat) = 18 by decide), if_neg (show ¬ (16 : Nat) = 8 by decide), if_neg (show ¬ (16 : Nat) = 9 by decide), if_neg (show ¬ (16 : Nat) = 12 by decide), if_neg (show ¬ (16 : Nat) = 13 by decide), if_neg (show ¬ (16 : Nat) = 14 by decide), if_neg (show ¬ (16 : Nat) = 15 by decide), if_pos (show (16 : Nat) = 16 from rfl)]
theorem rkE17 (B C : Int) : rk 17 B C = sar B C := by unfold rk; rw [if_neg (show ¬ (17 : Nat) = 7 by decide), if_neg (show ¬ (17 : Nat) = 18 by decide), if_neg (show ¬ (17 : Nat) = 8 by decide), if_neg (show ¬ (17 : Nat) = 9 by decide), if_neg (show ¬ (17 : Nat) = 12 by decide), if_neg (show ¬ (17 : Nat) = 13 by decide), if_neg (show ¬ (17 : Nat) = 14 by decide), if_neg (show ¬ (17 : Nat) = 15 by decide), if_neg (show ¬ (17 : Nat) = 16 by decide), if_pos (show (17 : Nat) = 17 from rfl)]
theorem rkE19 (B C : Int) : rk 19 B C = fl (decide (B < C)) := by unfold rk; rw [if_neg (show ¬ (19 : Nat) = 7 by decide), if_neg (show ¬ (19 : Nat) = 18 by decide), if_neg (show ¬ (19 : Nat) = 8 by decide), if_neg (show ¬ (19 : Nat) = 9 by decide), if_neg (show ¬ (19 : Nat) = 12 by decide), if_neg (show ¬ (19 : Nat) = 13 by decide), if_neg (show ¬ (19 : Nat) = 14 by decide), if_neg (show ¬ (19 : Nat) = 15 by decide), if_neg (show ¬ (19 : Nat) = 16 by decide), if_neg (show ¬ (19 : Nat) = 17 by decide), if_pos (show (19 : Nat) = 19 from rfl)]
theorem rkE20 (B C : Int) : rk 20 B C = fl (decide (un B < un C)) := by unfold rk; rw [if_neg (show ¬ (20 : Nat) = 7 by decide), if_neg (show ¬ (20 : Nat) = 18 by decide), if_neg (show ¬ (20 : Nat) = 8 by decide), if_neg (show ¬ (20 : Nat) = 9 by decide), if_neg (show ¬ (20 : Nat) = 12 by decide), if_neg (show ¬ (20 : Nat) = 13 by decide), if_neg (show ¬ (20 : Nat) = 14 by decide), if_neg (show ¬ (20 : Nat) = 15 by decide), if_neg (show ¬ (20 : Nat) = 16 by decide), if_neg (show ¬ (20 : Nat) = 17 by decide), if_neg (show ¬ (20 : Nat) = 19 by decide), if_pos (show (20 : Nat) = 20 from rfl)]
theorem rkE21 (B C : Int) : rk 21 B C = fl (B == C) := by unfold rk; rw [if_neg (show ¬ (21 : Nat) = 7 by decide), if_neg (show ¬ (21 : Nat) = 18 by decide), if_neg (show ¬ (21 : Nat) = 8 by decide), if_neg (show ¬ (21 : Nat) = 9 by decide), if_neg (show ¬ (21 : Nat) = 12 by decide), if_neg (show ¬ (21 : Nat) = 13 by decide), if_neg (show ¬ (21 : Nat) = 14 by decide), if_neg (show ¬ (21 : Nat) = 15 by decide), if_neg (show ¬ (21 : Nat) = 16 by decide), if_neg (show ¬ (21 : Nat) = 17 by decide), if_neg (show ¬ (21 : Nat) = 19 by decide), if_neg (show ¬ (21 : Nat) = 20 by decide)]
def rkOp (o : Nat) : Bool := [7, 8, 9, 12, 13, 14, 15, 16, 17, 18, 19, 20, 21].contains o
theorem rk7 (b c : Int) (w : World) : Calls Tryd.prog 80 #[.int .u8 7, .int .i64 b, .int .i64 c] w fun ex w' => ex = .returned (.int .i64 (rk 7 b c)) ∧ w' = w := by
  go_enter Tryd.func80, Tryd.ntmps80
  go_wp2
  go_ret
  exact ⟨ret_int (rkE7 b c).symm, rfl⟩
theorem rk8 (b c : Int) (w : World) : Calls Tryd.prog 80 #[.int .u8 8, .int .i64 b, .int .i64 c] w fun ex w' => ex = .returned (.int .i64 (rk 8 b c)) ∧ w' = w := by
  go_enter Tryd.func80, Tryd.ntmps80
  go_wp2
  go_ret
  exact ⟨ret_int (rkE8 b c).symm, rfl⟩
theorem rk9 (b c : Int) (w : World) : Calls Tryd.prog 80 #[.int .u8 9, .int .i64 b, .int .i64 c] w fun ex w' => ex = .returned (.int .i64 (rk 9 b c)) ∧ w' = w := by
  go_enter Tryd.func80, Tryd.ntmps80
  go_wp2
  go_ret
  exact ⟨ret_int (rkE9 b c).symm, rfl⟩
theorem rk12 (b c : Int) (w : World) : Calls Tryd.prog 80 #[.int .u8 12, .int .i64 b, .int .i64 c] w fun ex w' => ex = .returned (.int .i64 (rk 12 b c)) ∧ w' = w := by
  go_enter Tryd.func80, Tryd.ntmps80
  go_wp2
  go_ret
  exact ⟨ret_int (rkE12 b c).symm, rfl⟩
theorem rk13 (b c : Int) (w : World) : Calls Tryd.prog 80 #[.int .u8 13, .int .i64 b, .int .i64 c] w fun ex w' => ex = .returned (.int .i64 (rk 13 b c)) ∧ w' = w := by
  go_enter Tryd.func80, Tryd.ntmps80
  go_wp2
  go_ret
  exact ⟨ret_int (rkE13 b c).symm, rfl⟩
theorem rk14 (b c : Int) (w : World) : Calls Tryd.prog 80 #[.int .u8 14, .int .i64 b, .int .i64 c] w fun ex w' => ex = .returned (.int .i64 (rk 14 b c)) ∧ w' = w := by
  go_enter Tryd.func80, Tryd.ntmps80
  go_wp2
  go_ret
  exact ⟨ret_int (rkE14 b c).symm, rfl⟩
theorem rk18 (b c : Int) (w : World) : Calls Tryd.prog 80 #[.int .u8 18, .int .i64 b, .int .i64 c] w fun ex w' => ex = .returned (.int .i64 (rk 18 b c)) ∧ w' = w := by
  go_enter Tryd.func80, Tryd.ntmps80
  go_wp2
  go_ret
  exact ⟨ret_int (rkE18 b c).symm, rfl⟩
theorem rk15 (b c : Int) (hb : I6 b) (hc : I6 c) (w : World) : Calls Tryd.prog 80 #[.int .u8 15, .int .i64 b, .int .i64 c] w fun ex w' => ex = .returned (.int .i64 (rk 15 b c)) ∧ w' = w := by
  have cs := refShifted15 b c hb hc w
  have HE : Hid (rk 15 b c = shl b c) := (rkE15 b c)
  clear hb hc
  go_enter Tryd.func80, Tryd.ntmps80
  go_wp2_with (go_at_call 86; refine cs.mono ?_; rintro ex w2 ⟨rfl, hw2⟩; obtain rfl := hw2.symm)
  go_ret
  exact ⟨ret_int HE.out.symm, rfl⟩
theorem rk16 (b c : Int) (hb : I6 b) (hc : I6 c) (w : World) : Calls Tryd.prog 80 #[.int .u8 16, .int .i64 b, .int .i64 c] w fun ex w' => ex = .returned (.int .i64 (rk 16 b c)) ∧ w' = w := by
  have cs := refShifted16 b c hb hc w
  have HE : Hid (rk 16 b c = shr b c) := (rkE16 b c)
  clear hb hc
  go_enter Tryd.func80, Tryd.ntmps80
  go_wp2_with (go_at_call 86; refine cs.mono ?_; rintro ex w2 ⟨rfl, hw2⟩; obtain rfl := hw2.symm)
  go_ret
  exact ⟨ret_int HE.out.symm, rfl⟩
theorem rk17 (b c : Int) (hb : I6 b) (hc : I6 c) (w : World) : Calls Tryd.prog 80 #[.int .u8 17, .int .i64 b, .int .i64 c] w fun ex w' => ex = .returned (.int .i64 (rk 17 b c)) ∧ w' = w := by
  have cs := refShifted17 b c hb hc w
  have HE : Hid (rk 17 b c = sar b c) := (rkE17 b c)
  clear hb hc
  go_enter Tryd.func80, Tryd.ntmps80
  go_wp2_with (go_at_call 86; refine cs.mono ?_; rintro ex w2 ⟨rfl, hw2⟩; obtain rfl := hw2.symm)
  go_ret
  exact ⟨ret_int HE.out.symm, rfl⟩
theorem rk19 (b c : Int) (w : World) : Calls Tryd.prog 80 #[.int .u8 19, .int .i64 b, .int .i64 c] w fun ex w' => ex = .returned (.int .i64 (rk 19 b c)) ∧ w' = w := by
  have cf := refFlag_any (decide (b < c)) w
  go_enter Tryd.func80, Tryd.ntmps80
  go_wp2_with (go_at_call 87; refine cf.mono ?_; rintro ex w2 ⟨rfl, hw2⟩; obtain rfl := hw2.symm)
  go_ret
  exact ⟨ret_int (rkE19 b c).symm, rfl⟩
theorem rk20 (b c : Int) (hb : I6 b) (hc : I6 c) (w : World) : Calls Tryd.prog 80 #[.int .u8 20, .int .i64 b, .int .i64 c] w fun ex w' => ex = .returned (.int .i64 (rk 20 b c)) ∧ w' = w := by
  have cb := refBelow_any b c hb hc w
  have cf := refFlag_any (decide (un b < un c)) w
  have HE : Hid (rk 20 b c = fl (decide (un b < un c))) := (rkE20 b c)
  generalize decide (un b < un c) = D at *
  clear hb hc
  go_enter Tryd.func80, Tryd.ntmps80
  go_wp2_with (first
    | (go_at_call 88; refine cb.mono ?_; rintro ex w2 ⟨rfl, hw2⟩; obtain rfl := hw2.symm)
    | (go_at_call 87; refine cf.mono ?_; rintro ex w2 ⟨rfl, hw2⟩; obtain rfl := hw2.symm))
  go_ret
  exact ⟨ret_int HE.out.symm, rfl⟩
theorem rk21 (b c : Int) (w : World) : Calls Tryd.prog 80 #[.int .u8 21, .int .i64 b, .int .i64 c] w fun ex w' => ex = .returned (.int .i64 (rk 21 b c)) ∧ w' = w := by
  have cf := refFlag_any (b == c) w
  go_enter Tryd.func80, Tryd.ntmps80
  go_wp2_with (go_at_call 87; refine cf.mono ?_; rintro ex w2 ⟨rfl, hw2⟩; obtain rfl := hw2.symm)
  go_ret
  exact ⟨ret_int (rkE21 b c).symm, rfl⟩
theorem refReckoned_any (o : Nat) (ho : rkOp o = true) (b c : Int) (hb : I6 b) (hc : I6 c) (w : World) : Calls Tryd.prog 80 #[.int .u8 o, .int .i64 b, .int .i64 c] w fun ex w' => ex = .returned (.int .i64 (rk o b c)) ∧ w' = w := by
  have h : o = 7 ∨ o = 8 ∨ o = 9 ∨ o = 12 ∨ o = 13 ∨ o = 14 ∨ o = 15 ∨ o = 16 ∨ o = 17 ∨ o = 18 ∨ o = 19 ∨ o = 20 ∨ o = 21 := by simpa [rkOp] using ho
  rcases h with rfl | rfl | rfl | rfl | rfl | rfl | rfl | rfl | rfl | rfl | rfl | rfl | rfl
  · exact rk7 b c w
  · exact rk8 b c w
  · exact rk9 b c w
  · exact rk12 b c w
  · exact rk13 b c w
  · exact rk14 b c w
  · exact rk15 b c hb hc w
  · exact rk16 b c hb hc w
  · exact rk17 b c hb hc w
  · exact rk18 b c w
  · exact rk19 b c w
  · exact rk20 b c hb hc w
  · exact rk21 b c w

end Go.Proofs.YtijeaonldhccmaaDoor
