/-
  The document's numbers: Quotient, left, right, shifted, flag, below, reckoned.
-/
import Derived.Test.YtijeaonldhccmaaDoorSmall3
import Derived.Deep.DeepCutAuto
namespace Go.Proofs.YtijeaonldhccmaaDoor
open Go.RowKit
set_option linter.unusedVariables false

theorem tmod_I6 {b c : Int} (hb : I6 b) : I6 (b.tmod c) := by
  have h := Int.natAbs_tmod b c
  have h2 : b.natAbs % c.natAbs ≤ b.natAbs := Nat.mod_le _ _
  unfold I6 at *
  by_cases hn : 0 ≤ b
  · have := Int.tmod_nonneg c hn
    omega
  · have h3 : b.tmod c ≤ 0 := by
      have := Int.tmod_nonneg c (show 0 ≤ -b by omega)
      rw [Int.neg_tmod] at this
      omega
    omega
theorem quo_r {b c : Int} (hb : I6 b) : wrap64 (b - wrap64 (wrap64 (b.tdiv c) * c)) = b.tmod c := by
  rw [w6_mull, w6_subr]
  have h := Int.mul_tdiv_add_tmod b c
  rw [Int.mul_comm] at h
  rw [show b - b.tdiv c * c = b.tmod c by omega, w6_id (tmod_I6 hb)]
theorem rm_yes {b c : Int} (h0 : c ≠ 0) (h : 0 ≤ b.tmod c) : rm b c = b.tmod c := by
  have h1 := Int.mul_tdiv_add_tmod b c
  have h2 := Int.mul_ediv_add_emod b c
  rw [tdiv_yes h0 h] at h1
  unfold rm
  omega
theorem rm_pos {b c : Int} (hc6 : I6 c) (h0 : 0 < c) (h : b.tmod c < 0) : rm b c = wrap64 (b.tmod c + c) := by
  have h1 := Int.mul_tdiv_add_tmod b c
  have h2 := Int.mul_ediv_add_emod b c
  have h3 := tdiv_no (by omega) h
  rw [if_pos h0] at h3
  rw [h3, Int.mul_sub] at h2
  have h4 : rm b c = b.tmod c + c := by unfold rm; omega
  rw [← h4, w6_id (rm_I6 hc6 (by omega))]
theorem rm_neg {b c : Int} (hc6 : I6 c) (h0 : c < 0) (h : b.tmod c < 0) : rm b c = wrap64 (b.tmod c - c) := by
  have h1 := Int.mul_tdiv_add_tmod b c
  have h2 := Int.mul_ediv_add_emod b c
  have h3 := tdiv_no (by omega) h
  rw [if_neg (by omega)] at h3
  rw [h3, Int.mul_add] at h2
  have h4 : rm b c = b.tmod c - c := by unfold rm; omega
  rw [← h4, w6_id (rm_I6 hc6 (by omega))]

theorem ret_two {a b c d : Int} (h : a = b) (k : c = d) : Ending.returned (.tuple #[.int .i64 a, .int .i64 c]) = .returned (.tuple #[.int .i64 b, .int .i64 d]) := by rw [h, k]
theorem ret_int {k : IntKind} {a b : Int} (h : a = b) : Ending.returned (.int k a) = .returned (.int k b) := by rw [h]
theorem val_int {k : IntKind} {a b : Int} (h : a = b) : Value.int k a = .int k b := by rw [h]

set_option maxHeartbeats 400000 in
theorem refQuo_any (b c : Int) (hb : I6 b) (hc : I6 c) (h0 : c ≠ 0) (w : World) :
    Calls Tryd.prog 77 #[.int .i64 b, .int .i64 c] w fun ex w' => ex = .returned (.tuple #[.int .i64 (qt b c), .int .i64 (rm b c)]) ∧ w' = w := by
  have e0 := quo_r (c := c) hb
  obtain ⟨T, hT⟩ : ∃ T, T = b.tmod c := ⟨_, rfl⟩
  rw [← hT] at e0
  have HT : Hid (T = b.tmod c) := hT
  have HB : Hid (I6 b ∧ I6 c) := ⟨hb, hc⟩
  have hb0 : (c == 0) = false := by simpa using h0
  clear hT hb hc
  go_enter Tryd.func77, Tryd.ntmps77
  go_wp2
  go_loop [6, 7] (fun q r => (q = .int .i64 (wrap64 (b.tdiv c)) ∧ r = .int .i64 T) ∨ (T < 0 ∧ q = .int .i64 (qt b c) ∧ r = .int .i64 (rm b c))) (fun _ r => if intOf r < 0 then 1 else 0)
  case atStart => exact .inl ⟨rfl, val_int e0⟩
  case round =>
    rcases hrel with ⟨rfl, rfl⟩ | ⟨ht, rfl, rfl⟩
    · by_cases h1 : T < 0
      · by_cases h2 : 0 < c
        · have HQ : Hid (qt b c = wrap64 (wrap64 (b.tdiv c) - 1)) := (show qt b c = wrap64 (wrap64 (b.tdiv c) - 1) by unfold qt; rw [tdiv_no h0 (by rw [← HT.out]; exact h1), if_pos h2, w6_subl])
          have HR : Hid (rm b c = wrap64 (T + c)) := (show rm b c = wrap64 (T + c) by rw [HT.out]; exact rm_pos HB.out.2 h2 (by rw [← HT.out]; exact h1))
          have hp := (rm_bd (b := b) h0).1
          have HP : Hid (0 ≤ rm b c) := hp
          clear hp
          go_wp2
          go_round
          case rel => exact .inr ⟨h1, val_int HQ.out.symm, val_int HR.out.symm⟩
          case measure => rw [show (Value.int .i64 (wrap64 (T + c))) = .int .i64 (rm b c) from val_int HR.out.symm]; simp [intOf, h1, Int.not_lt.2 HP.out]
        · have HQ : Hid (qt b c = wrap64 (wrap64 (b.tdiv c) + 1)) := (show qt b c = wrap64 (wrap64 (b.tdiv c) + 1) by unfold qt; rw [tdiv_no h0 (by rw [← HT.out]; exact h1), if_neg h2, w6_addl])
          have HR : Hid (rm b c = wrap64 (T - c)) := (show rm b c = wrap64 (T - c) by rw [HT.out]; exact rm_neg HB.out.2 (by omega) (by rw [← HT.out]; exact h1))
          have HP : Hid (0 ≤ rm b c) := (rm_bd (b := b) h0).1
          go_wp2
          go_round
          case rel => exact .inr ⟨h1, val_int HQ.out.symm, val_int HR.out.symm⟩
          case measure => rw [show (Value.int .i64 (wrap64 (T - c))) = .int .i64 (rm b c) from val_int HR.out.symm]; simp [intOf, h1, Int.not_lt.2 HP.out]
      · have HQ : Hid (wrap64 (b.tdiv c) = qt b c) := (show wrap64 (b.tdiv c) = qt b c by unfold qt; rw [tdiv_yes h0 (by rw [← HT.out]; omega)])
        have HR : Hid (T = rm b c) := (show T = rm b c by rw [rm_yes h0 (by rw [← HT.out]; omega)]; exact HT.out)
        go_wp2
        go_ret2
        exact ⟨ret_two HQ.out HR.out, rfl⟩
    · have hp := (rm_bd (b := b) h0).1
      go_wp2
      go_ret2
      exact ⟨rfl, rfl⟩

theorem refLeft_any (b : Int) (w : World) : Calls Tryd.prog 89 #[.int .i64 b] w fun ex w' => ex = .returned (.int .i64 (wrap64 (b + b))) ∧ w' = w := by
  go_enter Tryd.func89, Tryd.ntmps89
  go_wp2
  go_ret
  exact ⟨rfl, rfl⟩

theorem refFlag_any (t : Bool) (w : World) : Calls Tryd.prog 87 #[.bool t] w fun ex w' => ex = .returned (.int .i64 (fl t)) ∧ w' = w := by
  cases t
  all_goals
    go_enter Tryd.func87, Tryd.ntmps87
    go_wp2
    go_ret
    exact ⟨rfl, rfl⟩

theorem refBelow_any (b c : Int) (hb : I6 b) (hc : I6 c) (w : World) : Calls Tryd.prog 88 #[.int .i64 b, .int .i64 c] w fun ex w' => ex = .returned (.bool (decide (un b < un c))) ∧ w' = w := by
  have h1 := un_I6 hb
  have h2 := un_I6 hc
  unfold I6 at hb hc
  by_cases k1 : b < 0 <;> by_cases k2 : c < 0
  · have e : decide (un b < un c) = decide (b < c) := by rw [decide_eq_decide]; split at h1 <;> split at h2 <;> omega
    rw [e]
    clear e h1 h2 hb hc
    go_enter Tryd.func88, Tryd.ntmps88
    go_wp2
    all_goals
      go_ret
      exact ⟨rfl, rfl⟩
  · have e : decide (un b < un c) = false := by rw [decide_eq_false_iff_not]; split at h1 <;> split at h2 <;> omega
    rw [e]
    clear e h1 h2 hb hc
    go_enter Tryd.func88, Tryd.ntmps88
    go_wp2
    all_goals
      go_ret
      exact ⟨rfl, rfl⟩
  · have e : decide (un b < un c) = true := by rw [decide_eq_true_iff]; split at h1 <;> split at h2 <;> omega
    rw [e]
    clear e h1 h2 hb hc
    go_enter Tryd.func88, Tryd.ntmps88
    go_wp2
    all_goals
      go_ret
      exact ⟨rfl, rfl⟩
  · have e : decide (un b < un c) = decide (b < c) := by rw [decide_eq_decide]; split at h1 <;> split at h2 <;> omega
    rw [e]
    clear e h1 h2 hb hc
    go_enter Tryd.func88, Tryd.ntmps88
    go_wp2
    all_goals
      go_ret
      exact ⟨rfl, rfl⟩

/-- one bit to the right -/
def rg (b : Int) (t : Int) : Int := if t = 0 then wrap64 ((un b : Int) / 2) else b / 2
theorem half_of {b : Int} (hb : I6 b) : wrap64 ((wrap64 (b - rm b 2)).tdiv 2) = b / 2 := by
  have h1 := Int.mul_ediv_add_emod b 2
  have h2 : b - rm b 2 = 2 * (b / 2) := by unfold rm; omega
  unfold I6 at hb
  rw [h2, show wrap64 (2 * (b / 2)) = 2 * (b / 2) from w6_id (by unfold I6; omega), Int.mul_tdiv_cancel_left _ (by decide), w6_id (by unfold I6; omega)]
theorem rg_neg {b : Int} (hb : I6 b) (h : b / 2 < 0) : wrap64 (b / 2 - -9223372036854775808) = rg b 0 := by
  have h1 := un_I6 hb
  unfold rg
  rw [if_pos rfl]
  rw [if_neg (by omega)] at h1
  rw [h1]
  congr 1
  omega
theorem rg_pos {b : Int} (hb : I6 b) (h : ¬ b / 2 < 0) : b / 2 = rg b 0 := by
  have h1 := un_I6 hb
  unfold rg
  rw [if_pos rfl]
  rw [if_pos (by omega)] at h1
  rw [h1]
  unfold I6 at hb
  rw [w6_id (by unfold I6; omega)]

set_option maxHeartbeats 400000 in
theorem refRight_any (b : Int) (t : Int) (ht : t = 0 ∨ t = 1) (hb : I6 b) (w : World) : Calls Tryd.prog 90 #[.int .i64 b, .int .i64 t] w fun ex w' => ex = .returned (.int .i64 (rg b t)) ∧ w' = w := by
  have cq := refQuo_any b 2 hb (by unfold I6; omega) (by decide) w
  have e := half_of hb
  have HN : Hid (b / 2 < 0 → wrap64 (b / 2 - -9223372036854775808) = rg b 0) := rg_neg hb
  have HP : Hid (¬ b / 2 < 0 → b / 2 = rg b 0) := rg_pos hb
  have H1 : Hid (rg b 1 = b / 2) := (show rg b 1 = b / 2 from if_neg (by decide))
  generalize rm b 2 = L at *
  generalize b / 2 = H at *
  generalize qt b 2 = Q at *
  rcases ht with rfl | rfl
  · by_cases h1 : H < 0
    · go_enter Tryd.func90, Tryd.ntmps90
      go_wp2_with (go_at_call 77; refine cq.mono ?_; rintro ex w1 ⟨rfl, hw⟩; obtain rfl := hw.symm)
      go_ret
      exact ⟨ret_int (HN.out h1), rfl⟩
    · go_enter Tryd.func90, Tryd.ntmps90
      go_wp2_with (go_at_call 77; refine cq.mono ?_; rintro ex w1 ⟨rfl, hw⟩; obtain rfl := hw.symm)
      go_ret
      first | exact ⟨ret_int (HP.out h1), rfl⟩ | exact ⟨ret_int (e.trans (HP.out h1)), rfl⟩
  · by_cases h1 : H < 0
    · go_enter Tryd.func90, Tryd.ntmps90
      go_wp2_with (go_at_call 77; refine cq.mono ?_; rintro ex w1 ⟨rfl, hw⟩; obtain rfl := hw.symm)
      go_ret
      first | exact ⟨ret_int H1.out.symm, rfl⟩ | exact ⟨ret_int (e.trans H1.out.symm), rfl⟩
    · go_enter Tryd.func90, Tryd.ntmps90
      go_wp2_with (go_at_call 77; refine cq.mono ?_; rintro ex w1 ⟨rfl, hw⟩; obtain rfl := hw.symm)
      go_ret
      first | exact ⟨ret_int H1.out.symm, rfl⟩ | exact ⟨ret_int (e.trans H1.out.symm), rfl⟩

end Go.Proofs.YtijeaonldhccmaaDoor
