/-
  How many ticks lie between.
-/
import Derived.Test.YtggejpccjmolhaaGreatDoorWLv
import Derived.Deep.RegionWith
namespace Go.Proofs.YtggejpccjmolhaaGreatDoor
open Go.RowKit Plain
set_option linter.unusedVariables false
set_option linter.unusedSimpArgs false
set_option maxRecDepth 100000

theorem div_two (a b p : Int) (hp : 1 ≤ p) (ha : 0 ≤ a) (hb : 0 ≤ b) : (a + b + 1) / p ≤ a / p + b / p + 1 := by
  have h1 := Int.mul_ediv_add_emod a p
  have h2 := Int.mul_ediv_add_emod b p
  have h3 := Int.emod_lt_of_pos a (b := p) (by omega)
  have h4 := Int.emod_lt_of_pos b (b := p) (by omega)
  refine Int.le_of_lt_add_one ((Int.ediv_lt_iff_lt_mul (by omega)).2 ?_)
  have e : (a / p + b / p + 1 + 1) * p = p * (a / p) + p * (b / p) + p + p := by
    rw [Int.add_mul, Int.add_mul, Int.add_mul, Int.one_mul, Int.mul_comm (a / p), Int.mul_comm (b / p)]
  rw [e]
  omega
theorem cnt_zero_at (p t : Int) (hp : 1 ≤ p) (ht : 0 ≤ t) : countV 0 p 0 t = cbF 0 p t := by
  by_cases h : t = 0
  · subst h
    rw [count_zero _ _ _ _ (Int.le_refl _)]; unfold cbF; rw [if_pos (Int.le_refl _)]
  · rw [count_of 0 p 0 t (Int.le_refl _) hp (by omega)]
    have : cbF 0 p 0 = 0 := if_pos (Int.le_refl _)
    omega
theorem cnt_at_phase (o p t : Int) (ho : 0 ≤ o) (hp : 1 ≤ p) (ht : 0 ≤ t) : countV o p o (o + t) = countV 0 p 0 t := by
  rw [cnt_zero_at p t hp ht]
  by_cases h : t = 0
  · subst h
    rw [count_zero _ _ _ _ (by omega)]; unfold cbF; rw [if_pos (Int.le_refl _)]
  · rw [count_of o p o (o + t) ho hp (by omega)]
    unfold cbF
    rw [if_neg (by omega), if_pos (Int.le_refl _), if_neg (by omega), show o + t - 1 - o = t - 1 - 0 by omega]
    omega
theorem cnt_most (o p f t : Int) (ho : 0 ≤ o) (hp : 1 ≤ p) (ht : 0 ≤ t) : countV o p f (f + t) ≤ countV 0 p 0 t := by
  rw [cnt_zero_at p t hp ht]
  by_cases h : t = 0
  · subst h
    rw [count_zero _ _ _ _ (by omega)]; unfold cbF; rw [if_pos (Int.le_refl _)]; omega
  · rw [count_of o p f (f + t) ho hp (by omega)]
    unfold cbF
    rw [if_neg (show ¬ t ≤ 0 by omega)]
    have hd : 0 ≤ (t - 1 - 0) / p := Int.ediv_nonneg (by omega) (by omega)
    by_cases h1 : f + t ≤ o
    · rw [if_pos h1, if_pos (by omega)]; omega
    · rw [if_neg h1]
      by_cases h2 : f ≤ o
      · rw [if_pos h2]
        have := Int.ediv_le_ediv (a := f + t - 1 - o) (b := t - 1 - 0) (c := p) (by omega) (by omega)
        omega
      · rw [if_neg h2]
        have := div_two (f - 1 - o) (t - 1 - 0) p hp (by omega) (by omega)
        rw [show f - 1 - o + (t - 1 - 0) + 1 = f + t - 1 - o by omega] at this
        omega
theorem cnt_mono (p t u : Int) (hp : 1 ≤ p) (ht : 0 ≤ t) (hu : t ≤ u) : countV 0 p 0 t ≤ countV 0 p 0 u := by
  rw [cnt_zero_at p t hp ht, cnt_zero_at p u hp (by omega)]
  exact cb_mono 0 p t u hp hu

set_option maxHeartbeats 8000000 in
theorem betw_any (v0 v1 : Int) (ta : Option Addr) (tn tc : Nat) (o p f b : Int) (w : World) (ho : 0 ≤ o) (ho2 : o ≤ 5000) (hp : 1 ≤ p) (hp2 : p ≤ 1048576) (hf : 0 ≤ f) (hfb : f ≤ b) (hb : b ≤ 10000) :
    Calls Tryz.prog 10 #[.agg #[.int .i64 v0, .int .i64 v1, .slice ta tn tc, .int .i64 o, .int .i64 p], .int .i64 f, .int .i64 b] w fun e w' => e = .returned (.int .i64 (countV o p f b)) ∧ Kept No w w' := by
  have B0 := hid (bk_push w [.int .i64 v0, .int .i64 v1, .slice ta tn tc, .int .i64 o, .int .i64 p] 34)
  have K0 : Hid (Kept No w (w.alloc (.cells #[.int .i64 v0, .int .i64 v1, .slice ta tn tc, .int .i64 o, .int .i64 p] 34))) := (Kept.refl No w).alloc _
  have HB : Hid (0 ≤ o ∧ o ≤ 5000 ∧ 1 ≤ p ∧ p ≤ 1048576 ∧ 0 ≤ f ∧ f ≤ b ∧ b ≤ 10000) := ⟨ho, ho2, hp, hp2, hf, hfb, hb⟩
  clear hb hfb
  go_enter Tryz.func10, Tryz.ntmps10
  go_upto_region 1 with fail
  generalize w.alloc (.cells #[.int .i64 v0, .int .i64 v1, .slice ta tn tc, .int .i64 o, .int .i64 p] 34) = w1 at *
  have c3 := B0.out.cell (j := 3) rfl
  have c4 := B0.out.cell (j := 4) rfl
  generalize w.heap.size = g at *
  go_wp2
  go_loopw [7, 8] (fun n t wr => ∃ (u V : Int), t = .int .i64 u ∧ n = .int .i64 V ∧ V = countV o p f u ∧ 0 ≤ V ∧ V ≤ u ∧ f ≤ u ∧ u ≤ b ∧ wr = w1) (fun _ t _ => (b - intOf t).toNat)
  case atStart => exact ⟨f, 0, rfl, rfl, (count_zero _ _ _ _ (Int.le_refl _)).symm, Int.le_refl _, hf, Int.le_refl _, HB.out.2.2.2.2.2.1, rfl⟩
  case round =>
    obtain ⟨u, V, rfl, rfl, hV, hV0, hVu, hu1, hu2, hw⟩ := hrel
    obtain rfl := hw.symm
    clear hw
    have HV := hid hV
    have HU := hid (And.intro hu1 hu2)
    clear hV
    by_cases hlt : u < b
    · have hstep := count_sum o p f u (u + 1) ho hp hu1 (by omega)
      rw [count_one o p u ho hp] at hstep
      have HST := hid hstep
      have HLT := hid hlt
      have hub : u ≤ 10000 := by have := HB.out; omega
      have hu0 : 0 ≤ u := by omega
      clear hstep
      have hV1 : V ≤ 10000 := by omega
      by_cases h1 : o ≤ u
      · have hwV : wrap64 (V + 1) = V + 1 := by unfold wrap64; omega
        by_cases hq : (u - o) % p = 0
        · have hq2 : ((u - o) % p == 0) = true := by simpa using hq
          have HQ := hid hq
          clear hq
          go_wp2
          go_roundw
          case rel => exact ⟨u + 1, V + 1, rfl, rfl, by
            have := HST.out
            rw [← HV.out, if_pos ⟨h1, HQ.out⟩] at this
            exact this, by omega, by omega, by omega, by have := HLT.out; omega, trivial⟩
          case measure => have := HLT.out; simp [intOf]; omega
        · have hq2 : ((u - o) % p == 0) = false := by simpa using hq
          have HQ := hid hq
          clear hq hwV
          go_wp2
          go_roundw
          case rel => exact ⟨u + 1, V, rfl, rfl, by
            have := HST.out
            rw [← HV.out, if_neg (fun h => HQ.out h.2), Int.add_zero] at this
            exact this, by omega, by omega, by omega, by have := HLT.out; omega, trivial⟩
          case measure => have := HLT.out; simp [intOf]; omega
      · go_wp2
        go_roundw
        case rel => exact ⟨u + 1, V, rfl, rfl, by
          have := HST.out
          rw [← HV.out, if_neg (fun h => h1 h.1), Int.add_zero] at this
          exact this, by omega, by omega, by omega, by have := HLT.out; omega, trivial⟩
        case measure => have := HLT.out; simp [intOf]; omega
    · have hue : u = b := by omega
      subst hue
      have HV2 := HV
      go_wp2
      go_ret
      exact ⟨by rw [← HV2.out]; rfl, K0.out⟩
end Go.Proofs.YtggejpccjmolhaaGreatDoor
