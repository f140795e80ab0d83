/-
  hasActions.
-/
import Derived.Test.YtggejpccjmolhaaGreatDoorG16
import Derived.Deep.DeepCutAuto
namespace Go.Proofs.YtggejpccjmolhaaGreatDoor
open Go.RowKit
set_option linter.unusedVariables false
set_option linter.unusedSimpArgs false
set_option maxRecDepth 100000

theorem er_ix {w : World} {a : Act} {o : Oper} (x y : Operand) (ho : o.op = .index 54 x y) (u v r : Value) (hx : a.eval x = u) (hy : a.eval y = v) (hr : (Instr.index 54 u v).run Tryz.prog w = .ok r w) : (execOp a.eval o).run Tryz.prog w = .ok (.value r) w := by
  simp only [execOp, ho, hx, hy, Sem.run_bind, hr]; rfl
def hv8 (h0 h1 h2 h3 h4 h5 h6 h7 : Int) : Nat → Int
  | 0 => h0
  | 1 => h1
  | 2 => h2
  | 3 => h3
  | 4 => h4
  | 5 => h5
  | 6 => h6
  | _ => h7
def actF (f : Nat → Int) : Nat → Bool
  | 0 => true
  | k + 1 => actF f k && inB (f k) 0 5
theorem actF_no {f : Nat → Int} {k : Nat} (h : inB (f k) 0 5 = false) : ∀ n, k < n → actF f n = false
  | 0, hn => by omega
  | n + 1, hn => by
    rcases Nat.lt_or_eq_of_le (Nat.lt_succ_iff.1 hn) with h1 | h1
    · rw [actF, actF_no h n h1]; rfl
    · subst h1; rw [actF, h, Bool.and_false]

set_option maxHeartbeats 8000000 in
theorem hasActions_any (cs : List Value) (h0 h1 h2 h3 h4 h5 h6 h7 : Int) (w : World) (g0 : cs[10]? = some (.int .i64 h0)) (g1 : cs[11]? = some (.int .i64 h1)) (g2 : cs[12]? = some (.int .i64 h2)) (g3 : cs[13]? = some (.int .i64 h3)) (g4 : cs[14]? = some (.int .i64 h4)) (g5 : cs[15]? = some (.int .i64 h5)) (g6 : cs[16]? = some (.int .i64 h6)) (g7 : cs[17]? = some (.int .i64 h7)) :
    Calls Tryz.prog 97 #[.agg cs.toArray] w fun e w' => e = .returned (.bool (actF (hv8 h0 h1 h2 h3 h4 h5 h6 h7) 8)) ∧ Kept No w w' := by
  have HK : Hid (Kept No w (w.alloc (.cells cs.toArray 59))) := (Kept.refl No w).alloc _
  have d0 := pn_cell w cs 59 10 _ g0
  have d1 := pn_cell w cs 59 11 _ g1
  have d2 := pn_cell w cs 59 12 _ g2
  have d3 := pn_cell w cs 59 13 _ g3
  have d4 := pn_cell w cs 59 14 _ g4
  have d5 := pn_cell w cs 59 15 _ g5
  have d6 := pn_cell w cs 59 16 _ g6
  have d7 := pn_cell w cs 59 17 _ g7
  obtain ⟨R, hR⟩ : ∃ R, R = actF (hv8 h0 h1 h2 h3 h4 h5 h6 h7) 8 := ⟨_, rfl⟩
  rw [← hR]
  have HR : Hid (R = actF (hv8 h0 h1 h2 h3 h4 h5 h6 h7) 8) := hR
  clear hR g0 g1 g2 g3 g4 g5 g6 g7
  go_enter Tryz.func97, Tryz.ntmps97
  go_wp2
  clear d0 d1 d2 d3 d4 d5 d6 d7
  generalize w.alloc (.cells cs.toArray 59) = w0 at *
  go_loopw [7] (fun x wr => ∃ k : Nat, k ≤ 8 ∧ x = .int .i64 k ∧ wr = w0 ∧ actF (hv8 h0 h1 h2 h3 h4 h5 h6 h7) k = true) (fun x _ => 8 - (intOf x).toNat)
  case atStart => exact ⟨0, by omega, rfl, rfl, rfl⟩
  case round =>
    obtain ⟨k, hk, rfl, rfl, hno⟩ := hrel
    have HNO : Hid (actF (hv8 h0 h1 h2 h3 h4 h5 h6 h7) k = true) := hno
    clear hno
    match k, hk with
    | 0, _ =>
      have q := fun w => within_any h0 0 5 w
      cases hb : inB h0 0 5
      · have HF : Hid (R = false) := HR.out.trans (actF_no (k := 0) hb 8 (by omega))
        rw [hb] at q
        clear hb
        rw [show (((0 : Nat)) : Int) = (0 : Int) from rfl]
        go_upto_region 3 with fail
        refine wp_region_lit ?_
        refine l_take 9 rfl rfl (er_ix _ _ rfl (.agg #[.int .i64 h0, .int .i64 h1, .int .i64 h2, .int .i64 h3, .int .i64 h4, .int .i64 h5, .int .i64 h6, .int .i64 h7]) (.int .i64 0) (.int .i64 h0) rfl rfl (by kernel_rfl)) ?_
        simp only [Act.put, List.setIfInBounds_toArray, List.set_cons_zero, List.set_cons_succ]
        go_wp2_with (go_at_call 75; refine (q _).mono ?_; rintro e w' ⟨rfl, rfl⟩)
        go_ret
        exact ⟨by rw [HF.out]; rfl, HK.out⟩
      · have HF : Hid (actF (hv8 h0 h1 h2 h3 h4 h5 h6 h7) (0 + 1) = true) := by
          have e : actF (hv8 h0 h1 h2 h3 h4 h5 h6 h7) (0 + 1) = (actF (hv8 h0 h1 h2 h3 h4 h5 h6 h7) 0 && inB h0 0 5) := rfl
          rw [HNO.out, hb] at e
          exact e
        rw [hb] at q
        clear hb
        rw [show (((0 : Nat)) : Int) = (0 : Int) from rfl]
        go_upto_region 3 with fail
        refine wp_region_lit ?_
        refine l_take 9 rfl rfl (er_ix _ _ rfl (.agg #[.int .i64 h0, .int .i64 h1, .int .i64 h2, .int .i64 h3, .int .i64 h4, .int .i64 h5, .int .i64 h6, .int .i64 h7]) (.int .i64 0) (.int .i64 h0) rfl rfl (by kernel_rfl)) ?_
        simp only [Act.put, List.setIfInBounds_toArray, List.set_cons_zero, List.set_cons_succ]
        go_wp2_with (go_at_call 75; refine (q _).mono ?_; rintro e w' ⟨rfl, rfl⟩)
        go_roundw
        case rel => exact ⟨0 + 1, by omega, rfl, by first | trivial | rfl, HF.out⟩
        case measure => simp [intOf]
    | 1, _ =>
      have q := fun w => within_any h1 0 5 w
      cases hb : inB h1 0 5
      · have HF : Hid (R = false) := HR.out.trans (actF_no (k := 1) hb 8 (by omega))
        rw [hb] at q
        clear hb
        rw [show (((1 : Nat)) : Int) = (1 : Int) from rfl]
        go_upto_region 3 with fail
        refine wp_region_lit ?_
        refine l_take 9 rfl rfl (er_ix _ _ rfl (.agg #[.int .i64 h0, .int .i64 h1, .int .i64 h2, .int .i64 h3, .int .i64 h4, .int .i64 h5, .int .i64 h6, .int .i64 h7]) (.int .i64 1) (.int .i64 h1) rfl rfl (by kernel_rfl)) ?_
        simp only [Act.put, List.setIfInBounds_toArray, List.set_cons_zero, List.set_cons_succ]
        go_wp2_with (go_at_call 75; refine (q _).mono ?_; rintro e w' ⟨rfl, rfl⟩)
        go_ret
        exact ⟨by rw [HF.out]; rfl, HK.out⟩
      · have HF : Hid (actF (hv8 h0 h1 h2 h3 h4 h5 h6 h7) (1 + 1) = true) := by
          have e : actF (hv8 h0 h1 h2 h3 h4 h5 h6 h7) (1 + 1) = (actF (hv8 h0 h1 h2 h3 h4 h5 h6 h7) 1 && inB h1 0 5) := rfl
          rw [HNO.out, hb] at e
          exact e
        rw [hb] at q
        clear hb
        rw [show (((1 : Nat)) : Int) = (1 : Int) from rfl]
        go_upto_region 3 with fail
        refine wp_region_lit ?_
        refine l_take 9 rfl rfl (er_ix _ _ rfl (.agg #[.int .i64 h0, .int .i64 h1, .int .i64 h2, .int .i64 h3, .int .i64 h4, .int .i64 h5, .int .i64 h6, .int .i64 h7]) (.int .i64 1) (.int .i64 h1) rfl rfl (by kernel_rfl)) ?_
        simp only [Act.put, List.setIfInBounds_toArray, List.set_cons_zero, List.set_cons_succ]
        go_wp2_with (go_at_call 75; refine (q _).mono ?_; rintro e w' ⟨rfl, rfl⟩)
        go_roundw
        case rel => exact ⟨1 + 1, by omega, rfl, by first | trivial | rfl, HF.out⟩
        case measure => simp [intOf]
    | 2, _ =>
      have q := fun w => within_any h2 0 5 w
      cases hb : inB h2 0 5
      · have HF : Hid (R = false) := HR.out.trans (actF_no (k := 2) hb 8 (by omega))
        rw [hb] at q
        clear hb
        rw [show (((2 : Nat)) : Int) = (2 : Int) from rfl]
        go_upto_region 3 with fail
        refine wp_region_lit ?_
        refine l_take 9 rfl rfl (er_ix _ _ rfl (.agg #[.int .i64 h0, .int .i64 h1, .int .i64 h2, .int .i64 h3, .int .i64 h4, .int .i64 h5, .int .i64 h6, .int .i64 h7]) (.int .i64 2) (.int .i64 h2) rfl rfl (by kernel_rfl)) ?_
        simp only [Act.put, List.setIfInBounds_toArray, List.set_cons_zero, List.set_cons_succ]
        go_wp2_with (go_at_call 75; refine (q _).mono ?_; rintro e w' ⟨rfl, rfl⟩)
        go_ret
        exact ⟨by rw [HF.out]; rfl, HK.out⟩
      · have HF : Hid (actF (hv8 h0 h1 h2 h3 h4 h5 h6 h7) (2 + 1) = true) := by
          have e : actF (hv8 h0 h1 h2 h3 h4 h5 h6 h7) (2 + 1) = (actF (hv8 h0 h1 h2 h3 h4 h5 h6 h7) 2 && inB h2 0 5) := rfl
          rw [HNO.out, hb] at e
          exact e
        rw [hb] at q
        clear hb
        rw [show (((2 : Nat)) : Int) = (2 : Int) from rfl]
        go_upto_region 3 with fail
        refine wp_region_lit ?_
        refine l_take 9 rfl rfl (er_ix _ _ rfl (.agg #[.int .i64 h0, .int .i64 h1, .int .i64 h2, .int .i64 h3, .int .i64 h4, .int .i64 h5, .int .i64 h6, .int .i64 h7]) (.int .i64 2) (.int .i64 h2) rfl rfl (by kernel_rfl)) ?_
        simp only [Act.put, List.setIfInBounds_toArray, List.set_cons_zero, List.set_cons_succ]
        go_wp2_with (go_at_call 75; refine (q _).mono ?_; rintro e w' ⟨rfl, rfl⟩)
        go_roundw
        case rel => exact ⟨2 + 1, by omega, rfl, by first | trivial | rfl, HF.out⟩
        case measure => simp [intOf]
    | 3, _ =>
      have q := fun w => within_any h3 0 5 w
      cases hb : inB h3 0 5
      · have HF : Hid (R = false) := HR.out.trans (actF_no (k := 3) hb 8 (by omega))
        rw [hb] at q
        clear hb
        rw [show (((3 : Nat)) : Int) = (3 : Int) from rfl]
        go_upto_region 3 with fail
        refine wp_region_lit ?_
        refine l_take 9 rfl rfl (er_ix _ _ rfl (.agg #[.int .i64 h0, .int .i64 h1, .int .i64 h2, .int .i64 h3, .int .i64 h4, .int .i64 h5, .int .i64 h6, .int .i64 h7]) (.int .i64 3) (.int .i64 h3) rfl rfl (by kernel_rfl)) ?_
        simp only [Act.put, List.setIfInBounds_toArray, List.set_cons_zero, List.set_cons_succ]
        go_wp2_with (go_at_call 75; refine (q _).mono ?_; rintro e w' ⟨rfl, rfl⟩)
        go_ret
        exact ⟨by rw [HF.out]; rfl, HK.out⟩
      · have HF : Hid (actF (hv8 h0 h1 h2 h3 h4 h5 h6 h7) (3 + 1) = true) := by
          have e : actF (hv8 h0 h1 h2 h3 h4 h5 h6 h7) (3 + 1) = (actF (hv8 h0 h1 h2 h3 h4 h5 h6 h7) 3 && inB h3 0 5) := rfl
          rw [HNO.out, hb] at e
          exact e
        rw [hb] at q
        clear hb
        rw [show (((3 : Nat)) : Int) = (3 : Int) from rfl]
        go_upto_region 3 with fail
        refine wp_region_lit ?_
        refine l_take 9 rfl rfl (er_ix _ _ rfl (.agg #[.int .i64 h0, .int .i64 h1, .int .i64 h2, .int .i64 h3, .int .i64 h4, .int .i64 h5, .int .i64 h6, .int .i64 h7]) (.int .i64 3) (.int .i64 h3) rfl rfl (by kernel_rfl)) ?_
        simp only [Act.put, List.setIfInBounds_toArray, List.set_cons_zero, List.set_cons_succ]
        go_wp2_with (go_at_call 75; refine (q _).mono ?_; rintro e w' ⟨rfl, rfl⟩)
        go_roundw
        case rel => exact ⟨3 + 1, by omega, rfl, by first | trivial | rfl, HF.out⟩
        case measure => simp [intOf]
    | 4, _ =>
      have q := fun w => within_any h4 0 5 w
      cases hb : inB h4 0 5
      · have HF : Hid (R = false) := HR.out.trans (actF_no (k := 4) hb 8 (by omega))
        rw [hb] at q
        clear hb
        rw [show (((4 : Nat)) : Int) = (4 : Int) from rfl]
        go_upto_region 3 with fail
        refine wp_region_lit ?_
        refine l_take 9 rfl rfl (er_ix _ _ rfl (.agg #[.int .i64 h0, .int .i64 h1, .int .i64 h2, .int .i64 h3, .int .i64 h4, .int .i64 h5, .int .i64 h6, .int .i64 h7]) (.int .i64 4) (.int .i64 h4) rfl rfl (by kernel_rfl)) ?_
        simp only [Act.put, List.setIfInBounds_toArray, List.set_cons_zero, List.set_cons_succ]
        go_wp2_with (go_at_call 75; refine (q _).mono ?_; rintro e w' ⟨rfl, rfl⟩)
        go_ret
        exact ⟨by rw [HF.out]; rfl, HK.out⟩
      · have HF : Hid (actF (hv8 h0 h1 h2 h3 h4 h5 h6 h7) (4 + 1) = true) := by
          have e : actF (hv8 h0 h1 h2 h3 h4 h5 h6 h7) (4 + 1) = (actF (hv8 h0 h1 h2 h3 h4 h5 h6 h7) 4 && inB h4 0 5) := rfl
          rw [HNO.out, hb] at e
          exact e
        rw [hb] at q
        clear hb
        rw [show (((4 : Nat)) : Int) = (4 : Int) from rfl]
        go_upto_region 3 with fail
        refine wp_region_lit ?_
        refine l_take 9 rfl rfl (er_ix _ _ rfl (.agg #[.int .i64 h0, .int .i64 h1, .int .i64 h2, .int .i64 h3, .int .i64 h4, .int .i64 h5, .int .i64 h6, .int .i64 h7]) (.int .i64 4) (.int .i64 h4) rfl rfl (by kernel_rfl)) ?_
        simp only [Act.put, List.setIfInBounds_toArray, List.set_cons_zero, List.set_cons_succ]
        go_wp2_with (go_at_call 75; refine (q _).mono ?_; rintro e w' ⟨rfl, rfl⟩)
        go_roundw
        case rel => exact ⟨4 + 1, by omega, rfl, by first | trivial | rfl, HF.out⟩
        case measure => simp [intOf]
    | 5, _ =>
      have q := fun w => within_any h5 0 5 w
      cases hb : inB h5 0 5
      · have HF : Hid (R = false) := HR.out.trans (actF_no (k := 5) hb 8 (by omega))
        rw [hb] at q
        clear hb
        rw [show (((5 : Nat)) : Int) = (5 : Int) from rfl]
        go_upto_region 3 with fail
        refine wp_region_lit ?_
        refine l_take 9 rfl rfl (er_ix _ _ rfl (.agg #[.int .i64 h0, .int .i64 h1, .int .i64 h2, .int .i64 h3, .int .i64 h4, .int .i64 h5, .int .i64 h6, .int .i64 h7]) (.int .i64 5) (.int .i64 h5) rfl rfl (by kernel_rfl)) ?_
        simp only [Act.put, List.setIfInBounds_toArray, List.set_cons_zero, List.set_cons_succ]
        go_wp2_with (go_at_call 75; refine (q _).mono ?_; rintro e w' ⟨rfl, rfl⟩)
        go_ret
        exact ⟨by rw [HF.out]; rfl, HK.out⟩
      · have HF : Hid (actF (hv8 h0 h1 h2 h3 h4 h5 h6 h7) (5 + 1) = true) := by
          have e : actF (hv8 h0 h1 h2 h3 h4 h5 h6 h7) (5 + 1) = (actF (hv8 h0 h1 h2 h3 h4 h5 h6 h7) 5 && inB h5 0 5) := rfl
          rw [HNO.out, hb] at e
          exact e
        rw [hb] at q
        clear hb
        rw [show (((5 : Nat)) : Int) = (5 : Int) from rfl]
        go_upto_region 3 with fail
        refine wp_region_lit ?_
        refine l_take 9 rfl rfl (er_ix _ _ rfl (.agg #[.int .i64 h0, .int .i64 h1, .int .i64 h2, .int .i64 h3, .int .i64 h4, .int .i64 h5, .int .i64 h6, .int .i64 h7]) (.int .i64 5) (.int .i64 h5) rfl rfl (by kernel_rfl)) ?_
        simp only [Act.put, List.setIfInBounds_toArray, List.set_cons_zero, List.set_cons_succ]
        go_wp2_with (go_at_call 75; refine (q _).mono ?_; rintro e w' ⟨rfl, rfl⟩)
        go_roundw
        case rel => exact ⟨5 + 1, by omega, rfl, by first | trivial | rfl, HF.out⟩
        case measure => simp [intOf]
    | 6, _ =>
      have q := fun w => within_any h6 0 5 w
      cases hb : inB h6 0 5
      · have HF : Hid (R = false) := HR.out.trans (actF_no (k := 6) hb 8 (by omega))
        rw [hb] at q
        clear hb
        rw [show (((6 : Nat)) : Int) = (6 : Int) from rfl]
        go_upto_region 3 with fail
        refine wp_region_lit ?_
        refine l_take 9 rfl rfl (er_ix _ _ rfl (.agg #[.int .i64 h0, .int .i64 h1, .int .i64 h2, .int .i64 h3, .int .i64 h4, .int .i64 h5, .int .i64 h6, .int .i64 h7]) (.int .i64 6) (.int .i64 h6) rfl rfl (by kernel_rfl)) ?_
        simp only [Act.put, List.setIfInBounds_toArray, List.set_cons_zero, List.set_cons_succ]
        go_wp2_with (go_at_call 75; refine (q _).mono ?_; rintro e w' ⟨rfl, rfl⟩)
        go_ret
        exact ⟨by rw [HF.out]; rfl, HK.out⟩
      · have HF : Hid (actF (hv8 h0 h1 h2 h3 h4 h5 h6 h7) (6 + 1) = true) := by
          have e : actF (hv8 h0 h1 h2 h3 h4 h5 h6 h7) (6 + 1) = (actF (hv8 h0 h1 h2 h3 h4 h5 h6 h7) 6 && inB h6 0 5) := rfl
          rw [HNO.out, hb] at e
          exact e
        rw [hb] at q
        clear hb
        rw [show (((6 : Nat)) : Int) = (6 : Int) from rfl]
        go_upto_region 3 with fail
        refine wp_region_lit ?_
        refine l_take 9 rfl rfl (er_ix _ _ rfl (.agg #[.int .i64 h0, .int .i64 h1, .int .i64 h2, .int .i64 h3, .int .i64 h4, .int .i64 h5, .int .i64 h6, .int .i64 h7]) (.int .i64 6) (.int .i64 h6) rfl rfl (by kernel_rfl)) ?_
        simp only [Act.put, List.setIfInBounds_toArray, List.set_cons_zero, List.set_cons_succ]
        go_wp2_with (go_at_call 75; refine (q _).mono ?_; rintro e w' ⟨rfl, rfl⟩)
        go_roundw
        case rel => exact ⟨6 + 1, by omega, rfl, by first | trivial | rfl, HF.out⟩
        case measure => simp [intOf]
    | 7, _ =>
      have q := fun w => within_any h7 0 5 w
      cases hb : inB h7 0 5
      · have HF : Hid (R = false) := HR.out.trans (actF_no (k := 7) hb 8 (by omega))
        rw [hb] at q
        clear hb
        rw [show (((7 : Nat)) : Int) = (7 : Int) from rfl]
        go_upto_region 3 with fail
        refine wp_region_lit ?_
        refine l_take 9 rfl rfl (er_ix _ _ rfl (.agg #[.int .i64 h0, .int .i64 h1, .int .i64 h2, .int .i64 h3, .int .i64 h4, .int .i64 h5, .int .i64 h6, .int .i64 h7]) (.int .i64 7) (.int .i64 h7) rfl rfl (by kernel_rfl)) ?_
        simp only [Act.put, List.setIfInBounds_toArray, List.set_cons_zero, List.set_cons_succ]
        go_wp2_with (go_at_call 75; refine (q _).mono ?_; rintro e w' ⟨rfl, rfl⟩)
        go_ret
        exact ⟨by rw [HF.out]; rfl, HK.out⟩
      · have HF : Hid (actF (hv8 h0 h1 h2 h3 h4 h5 h6 h7) (7 + 1) = true) := by
          have e : actF (hv8 h0 h1 h2 h3 h4 h5 h6 h7) (7 + 1) = (actF (hv8 h0 h1 h2 h3 h4 h5 h6 h7) 7 && inB h7 0 5) := rfl
          rw [HNO.out, hb] at e
          exact e
        rw [hb] at q
        clear hb
        rw [show (((7 : Nat)) : Int) = (7 : Int) from rfl]
        go_upto_region 3 with fail
        refine wp_region_lit ?_
        refine l_take 9 rfl rfl (er_ix _ _ rfl (.agg #[.int .i64 h0, .int .i64 h1, .int .i64 h2, .int .i64 h3, .int .i64 h4, .int .i64 h5, .int .i64 h6, .int .i64 h7]) (.int .i64 7) (.int .i64 h7) rfl rfl (by kernel_rfl)) ?_
        simp only [Act.put, List.setIfInBounds_toArray, List.set_cons_zero, List.set_cons_succ]
        go_wp2_with (go_at_call 75; refine (q _).mono ?_; rintro e w' ⟨rfl, rfl⟩)
        go_roundw
        case rel => exact ⟨7 + 1, by omega, rfl, by first | trivial | rfl, HF.out⟩
        case measure => simp [intOf]
    | 8, _ =>
      rw [show (((8 : Nat)) : Int) = (8 : Int) from rfl]
      go_wp2
      go_ret
      exact ⟨by rw [HR.out, HNO.out]; rfl, HK.out⟩
end Go.Proofs.YtggejpccjmolhaaGreatDoor
