/-
  health: the document's own calls.
-/
import Derived.Test.YtledndpcceejpaaDoorHJudge
import Derived.Test.YtledndpcceejpaaDoorHPrt
import Derived.Deep.DeepCutAuto
namespace Go.Proofs.YtledndpcceejpaaDoor
open Go.RowKit
set_option linter.unusedVariables false
set_option maxRecDepth 100000

theorem Tryd.infoR : (Tryd.prog.info? 39).map (·.size) = some 2 := by kernel_rfl
theorem rhandler_any (cs : List Value) (a : Option Addr) (n c : Nat) (h : Int) (h8 : cs[8]? = some (.slice a n c)) (h9 : cs[9]? = some (.int .i64 h)) (w : World) : Calls Tryd.prog 21 #[.agg cs.toArray] w fun e w' => e = .returned (.int .i64 (hOf n h)) ∧ Kept No w w' := by
  have HK : Hid (Kept No w (w.alloc (.cells cs.toArray 36))) := (Kept.refl No w).alloc _
  have d9 := pn_cell w cs 36 9 _ h9
  have d8 := pn_cell w cs 36 8 _ h8
  clear h8 h9
  by_cases h1 : h < 1
  · rw [show hOf n h = 0 by unfold hOf; rw [if_neg (by simp [inB]; omega)]]
    go_enter Tryd.func21, Tryd.ntmps21
    go_wp2
    go_ret
    exact ⟨rfl, HK.out⟩
  · by_cases h2 : (n : Int) < h
    · rw [show hOf n h = 0 by unfold hOf; rw [if_neg (by simp [inB]; omega)]]
      go_enter Tryd.func21, Tryd.ntmps21
      go_wp2
      go_ret
      exact ⟨rfl, HK.out⟩
    · rw [show hOf n h = h by unfold hOf; rw [if_pos (by simp [inB]; omega)]]
      go_enter Tryd.func21, Tryd.ntmps21
      go_wp2
      go_ret
      exact ⟨rfl, HK.out⟩
/-- a world in which the partition is boxed and the answer's cells stand behind it -/
structure Rw (w : World) (cs : List Value) (W : World) : Prop where
  hk : Kept No w W
  hb : W.heap[w.heap.size]? = some (.cells cs.toArray 36)
  hr : W.heap[w.heap.size + 1]? = some (.cells #[.int .i64 0, .int .i64 0] 39)
namespace Rw
variable {w W W' : World} {cs : List Value}
theorem mk0 (w : World) (cs : List Value) : Rw w cs ((w.alloc (.cells cs.toArray 36)).alloc (.cells #[.int .i64 0, .int .i64 0] 39)) :=
  ⟨((Kept.refl No w).alloc _).alloc _, (heap_alloc_old (w.alloc _) _ (by simp)).trans (heap_alloc_new w _), heap_alloc2_new w _ _⟩
theorem keep (h : Rw w cs W) (k : Kept No W W') : Rw w cs W' := ⟨h.hk.trans k (fun _ e => .inl e), k.at' h.hb (fun e => e), k.at' h.hr (fun e => e)⟩
theorem cell (h : Rw w cs W) {j : Nat} {v : Value} (hj : cs[j]? = some v) : W.cell? ⟨w.heap.size, j, none⟩ = some v := by simp [World.cell?, h.hb, hj]
theorem ld (h : Rw w cs W) (hl : cs.length = 21) : (Instr.loadAt 36 (.pointer (some ⟨w.heap.size, 0, none⟩))).run Tryd.prog W = .ok (.agg cs.toArray) W := ldPn h.hb hl
theorem ans (h : Rw w cs W) : W.cell? ⟨w.heap.size + 1, 0, none⟩ = some (.int .i64 0) ∧ W.cell? ⟨w.heap.size + 1, 1, none⟩ = some (.int .i64 0) ∧ W.frozen? ⟨w.heap.size + 1, 0, none⟩ = false ∧ W.frozen? ⟨w.heap.size + 1, 1, none⟩ = false := by
  simp [World.cell?, World.frozen?, h.hr]
theorem fin (h : Rw w cs W) (x y : Int) : ((W.setCell ⟨w.heap.size + 1, 0, none⟩ (.int .i64 x)).setCell ⟨w.heap.size + 1, 1, none⟩ (.int .i64 y)).heap[w.heap.size + 1]? = some (.cells #[.int .i64 x, .int .i64 y] 39) ∧ Kept No w ((W.setCell ⟨w.heap.size + 1, 0, none⟩ (.int .i64 x)).setCell ⟨w.heap.size + 1, 1, none⟩ (.int .i64 y)) :=
  ⟨by simp [World.setCell, Array.getElem?_modify, h.hr], (h.hk.setCell (.inr (by simp)) _).setCell (.inr (by simp)) _⟩
end Rw

set_option maxHeartbeats 8000000 in
theorem rjudge_any (cs : List Value) (a : Option Addr) (n c : Nat) (h : Int) (t : Nat → Int) (hl : cs.length = 21) (h8 : cs[8]? = some (.slice a n c)) (h9 : cs[9]? = some (.int .i64 h)) (ht : ∀ j, j < 8 → cs[10 + j]? = some (.int .i64 (t j))) (k p : Int) (busy : Bool) (w : World) :
    Calls Tryd.prog 6 #[.agg cs.toArray, .int .i64 k, .int .i64 p, .bool busy] w fun e w' => e = .returned (vd (jdA n h t k p busy) (jdP n h t k p busy)) ∧ Kept No w w' := by
  have q3 := fun W => rhandler_any cs a n c h h8 h9 W
  have HL := hid hl
  have HT := hid ht
  have H8 := hid h8
  obtain ⟨w2, e2⟩ : ∃ w2, w2 = (w.alloc (.cells cs.toArray 36)).alloc (.cells #[.int .i64 0, .int .i64 0] 39) := ⟨_, rfl⟩
  have J2 : Hid (Rw w cs w2) := by rw [e2]; exact Rw.mk0 w cs
  have LD2 := hid (J2.out.ld hl)
  have d8 := J2.out.cell h8
  clear h8 h9 hl ht
  by_cases hk1 : k < 1
  · rw [show jdA n h t k p busy = 0 by unfold jdA; rw [if_pos (by simp [inB]; omega)], show jdP n h t k p busy = 0 by unfold jdP; rw [if_pos (by simp [inB]; omega)]]
    go_enter Tryd.func6, Tryd.ntmps6
    go_upto_region 1 with fail
    rw [← e2]
    clear e2
    obtain ⟨c0, c1, f0, f1⟩ := J2.out.ans
    go_wp2
    refine bodyPost_ret (results_cell_row rfl _ _ (w.heap.size + 1) 39 _ _ _ rfl (J2.out.fin _ _).1 Tryd.underlying39 rfl Tryd.infoR) rfl ?_
    exact ⟨rfl, (J2.out.fin _ _).2⟩
  by_cases hk2 : 7 < k
  · rw [show jdA n h t k p busy = 0 by unfold jdA; rw [if_pos (by simp [inB]; omega)], show jdP n h t k p busy = 0 by unfold jdP; rw [if_pos (by simp [inB]; omega)]]
    go_enter Tryd.func6, Tryd.ntmps6
    go_upto_region 1 with fail
    rw [← e2]
    clear e2
    obtain ⟨c0, c1, f0, f1⟩ := J2.out.ans
    go_wp2
    refine bodyPost_ret (results_cell_row rfl _ _ (w.heap.size + 1) 39 _ _ _ rfl (J2.out.fin _ _).1 Tryd.underlying39 rfl Tryd.infoR) rfl ?_
    exact ⟨rfl, (J2.out.fin _ _).2⟩
  have i1 : ¬ inB k 1 7 = false := by simp [inB]; omega
  by_cases hp1 : p < 1
  · rw [show jdA n h t k p busy = 0 by unfold jdA; rw [if_neg i1, if_pos (by simp [inB]; omega)], show jdP n h t k p busy = 0 by unfold jdP; rw [if_neg i1, if_pos (by simp [inB]; omega)]]
    go_enter Tryd.func6, Tryd.ntmps6
    go_upto_region 1 with fail
    rw [← e2]
    clear e2
    obtain ⟨c0, c1, f0, f1⟩ := J2.out.ans
    go_wp2
    refine bodyPost_ret (results_cell_row rfl _ _ (w.heap.size + 1) 39 _ _ _ rfl (J2.out.fin _ _).1 Tryd.underlying39 rfl Tryd.infoR) rfl ?_
    exact ⟨rfl, (J2.out.fin _ _).2⟩
  by_cases hp2 : (n : Int) < p
  · rw [show jdA n h t k p busy = 0 by unfold jdA; rw [if_neg i1, if_pos (by simp [inB]; omega)], show jdP n h t k p busy = 0 by unfold jdP; rw [if_neg i1, if_pos (by simp [inB]; omega)]]
    go_enter Tryd.func6, Tryd.ntmps6
    go_upto_region 1 with fail
    rw [← e2]
    clear e2
    obtain ⟨c0, c1, f0, f1⟩ := J2.out.ans
    go_wp2
    refine bodyPost_ret (results_cell_row rfl _ _ (w.heap.size + 1) 39 _ _ _ rfl (J2.out.fin _ _).1 Tryd.underlying39 rfl Tryd.infoR) rfl ?_
    exact ⟨rfl, (J2.out.fin _ _).2⟩
  have i2 : ¬ inB p 1 n = false := by simp [inB]; omega
  by_cases hp : p = hOf n h
  · rw [show jdA n h t k p busy = 4 by unfold jdA; rw [if_neg i1, if_neg i2, if_pos hp], show jdP n h t k p busy = 0 by unfold jdP; rw [if_neg i1, if_neg i2, if_pos hp]]
    rw [← hp] at q3
    clear hp i1 i2
    go_enter Tryd.func6, Tryd.ntmps6
    go_upto_region 1 with fail
    rw [← e2]
    clear e2
    go_wp2_with (first
      | (refine l_take 29 rfl rfl (er_ld _ _ rfl _ _ rfl LD2.out) ?_)
      | (go_at_call 21; refine (q3 _).mono ?_; rintro e w4 ⟨rfl, k4⟩; have J4 : Hid (Rw w cs w4) := J2.out.keep k4; obtain ⟨c0, c1, f0, f1⟩ := J4.out.ans; clear k4))
    refine bodyPost_ret (results_cell_row rfl _ _ (w.heap.size + 1) 39 _ _ _ rfl (J4.out.fin _ _).1 Tryd.underlying39 rfl Tryd.infoR) rfl ?_
    exact ⟨rfl, (J4.out.fin _ _).2⟩
  obtain ⟨j, ej⟩ : ∃ j : Nat, k = j := ⟨k.toNat, by omega⟩
  subst ej
  have hj8 : j < 8 := by omega
  have TJ := hid (HT.out j hj8)
  have eA : jdA n h t j p busy = if hdl (t j) (hOf n h) busy = 0 ∧ (j : Int) = 4 then 1 else hdl (t j) (hOf n h) busy := by
    unfold jdA; rw [if_neg i1, if_neg i2, if_neg hp, Int.toNat_natCast]
  have eP : jdP n h t j p busy = aimP (jdA n h t j p busy) p (hOf n h) := by
    unfold jdP; rw [if_neg i1, if_neg i2, if_neg hp]
  rw [eP, eA]
  have hp' : (p == hOf n h) = false := by simp [hp]
  clear i1 i2 hp HT eA eP H8
  generalize hOf n h = H at *
  generalize t j = x at *
  by_cases a1 : x < 0
  · have n1 : ¬ 0 ≤ x := by omega
    have n2 : (if hdl x H busy = 0 ∧ (j : Int) = 4 then 1 else hdl x H busy) = 1 := by simp [hdl, inB, n1]
    rw [n2, show aimP 1 p H = p by simp [aimP]]
    clear n1 n2
    go_enter Tryd.func6, Tryd.ntmps6
    go_upto_region 1 with fail
    rw [← e2]
    clear e2
    go_wp2_with (first
      | (refine l_take 29 rfl rfl (er_ld _ _ rfl _ _ rfl LD2.out) ?_)
      | (go_at_call 21; refine (q3 _).mono ?_; rintro e w4 ⟨rfl, k4⟩; have J4 : Hid (Rw w cs w4) := J2.out.keep k4; obtain ⟨c0, c1, f0, f1⟩ := J4.out.ans; have c4 := J4.out.cell TJ.out; clear k4))
    refine bodyPost_ret (results_cell_row rfl _ _ (w.heap.size + 1) 39 _ _ _ rfl (J4.out.fin _ _).1 Tryd.underlying39 rfl Tryd.infoR) rfl ?_
    exact ⟨rfl, (J4.out.fin _ _).2⟩
  by_cases a2 : 5 < x
  · have n1 : ¬ x ≤ 5 := by omega
    have n2 : (if hdl x H busy = 0 ∧ (j : Int) = 4 then 1 else hdl x H busy) = 1 := by simp [hdl, inB, n1]
    rw [n2, show aimP 1 p H = p by simp [aimP]]
    clear n1 n2
    go_enter Tryd.func6, Tryd.ntmps6
    go_upto_region 1 with fail
    rw [← e2]
    clear e2
    go_wp2_with (first
      | (refine l_take 29 rfl rfl (er_ld _ _ rfl _ _ rfl LD2.out) ?_)
      | (go_at_call 21; refine (q3 _).mono ?_; rintro e w4 ⟨rfl, k4⟩; have J4 : Hid (Rw w cs w4) := J2.out.keep k4; obtain ⟨c0, c1, f0, f1⟩ := J4.out.ans; have c4 := J4.out.cell TJ.out; clear k4))
    refine bodyPost_ret (results_cell_row rfl _ _ (w.heap.size + 1) 39 _ _ _ rfl (J4.out.fin _ _).1 Tryd.underlying39 rfl Tryd.infoR) rfl ?_
    exact ⟨rfl, (J4.out.fin _ _).2⟩
  have hx : x = 0 ∨ x = 1 ∨ x = 2 ∨ x = 3 ∨ x = 4 ∨ x = 5 := by omega
  clear a1 a2
  rcases hx with e | e | e | e | e | e
  · subst e
    by_cases h4 : j = 4
    · subst h4
      rw [show (if hdl 0 H busy = 0 ∧ ((4 : Nat) : Int) = 4 then 1 else hdl 0 H busy) = 1 by simp [hdl, inB, *], show aimP 1 p H = p by simp [aimP]]
      go_enter Tryd.func6, Tryd.ntmps6
      go_upto_region 1 with fail
      rw [← e2]
      clear e2
      go_wp2_with (first
        | (refine l_take 29 rfl rfl (er_ld _ _ rfl _ _ rfl LD2.out) ?_)
        | (go_at_call 21; refine (q3 _).mono ?_; rintro e w4 ⟨rfl, k4⟩; have J4 : Hid (Rw w cs w4) := J2.out.keep k4; obtain ⟨c0, c1, f0, f1⟩ := J4.out.ans; have c4 := J4.out.cell TJ.out; clear k4))
      refine bodyPost_ret (results_cell_row rfl _ _ (w.heap.size + 1) 39 _ _ _ rfl (J4.out.fin _ _).1 Tryd.underlying39 rfl Tryd.infoR) rfl ?_
      exact ⟨rfl, (J4.out.fin _ _).2⟩
    · have h4' : ((j : Int) == 4) = false := by simp; omega
      have h4'' : ¬ (j : Int) = 4 := by omega
      rw [show (if hdl 0 H busy = 0 ∧ (j : Int) = 4 then 1 else hdl 0 H busy) = 0 by simp [hdl, inB, *], show aimP 0 p H = p by simp [aimP]]
      go_enter Tryd.func6, Tryd.ntmps6
      go_upto_region 1 with fail
      rw [← e2]
      clear e2
      go_wp2_with (first
        | (refine l_take 29 rfl rfl (er_ld _ _ rfl _ _ rfl LD2.out) ?_)
        | (go_at_call 21; refine (q3 _).mono ?_; rintro e w4 ⟨rfl, k4⟩; have J4 : Hid (Rw w cs w4) := J2.out.keep k4; obtain ⟨c0, c1, f0, f1⟩ := J4.out.ans; have c4 := J4.out.cell TJ.out; clear k4))
      refine bodyPost_ret (results_cell_row rfl _ _ (w.heap.size + 1) 39 _ _ _ rfl (J4.out.fin _ _).1 Tryd.underlying39 rfl Tryd.infoR) rfl ?_
      exact ⟨rfl, (J4.out.fin _ _).2⟩
  · subst e
    rw [show (if hdl 1 H busy = 0 ∧ (j : Int) = 4 then 1 else hdl 1 H busy) = 1 by simp [hdl, inB, *], show aimP 1 p H = p by simp [aimP]]
    go_enter Tryd.func6, Tryd.ntmps6
    go_upto_region 1 with fail
    rw [← e2]
    clear e2
    go_wp2_with (first
      | (refine l_take 29 rfl rfl (er_ld _ _ rfl _ _ rfl LD2.out) ?_)
      | (go_at_call 21; refine (q3 _).mono ?_; rintro e w4 ⟨rfl, k4⟩; have J4 : Hid (Rw w cs w4) := J2.out.keep k4; obtain ⟨c0, c1, f0, f1⟩ := J4.out.ans; have c4 := J4.out.cell TJ.out; clear k4))
    refine bodyPost_ret (results_cell_row rfl _ _ (w.heap.size + 1) 39 _ _ _ rfl (J4.out.fin _ _).1 Tryd.underlying39 rfl Tryd.infoR) rfl ?_
    exact ⟨rfl, (J4.out.fin _ _).2⟩
  · subst e
    rw [show (if hdl 2 H busy = 0 ∧ (j : Int) = 4 then 1 else hdl 2 H busy) = 2 by simp [hdl, inB, *], show aimP 2 p H = p by simp [aimP]]
    go_enter Tryd.func6, Tryd.ntmps6
    go_upto_region 1 with fail
    rw [← e2]
    clear e2
    go_wp2_with (first
      | (refine l_take 29 rfl rfl (er_ld _ _ rfl _ _ rfl LD2.out) ?_)
      | (go_at_call 21; refine (q3 _).mono ?_; rintro e w4 ⟨rfl, k4⟩; have J4 : Hid (Rw w cs w4) := J2.out.keep k4; obtain ⟨c0, c1, f0, f1⟩ := J4.out.ans; have c4 := J4.out.cell TJ.out; clear k4))
    refine bodyPost_ret (results_cell_row rfl _ _ (w.heap.size + 1) 39 _ _ _ rfl (J4.out.fin _ _).1 Tryd.underlying39 rfl Tryd.infoR) rfl ?_
    exact ⟨rfl, (J4.out.fin _ _).2⟩
  · subst e
    by_cases hH : H = 0
    · subst hH
      rw [show (if hdl 3 0 busy = 0 ∧ (j : Int) = 4 then 1 else hdl 3 0 busy) = 1 by simp [hdl, inB, *], show aimP 1 p 0 = p by simp [aimP]]
      go_enter Tryd.func6, Tryd.ntmps6
      go_upto_region 1 with fail
      rw [← e2]
      clear e2
      go_wp2_with (first
        | (refine l_take 29 rfl rfl (er_ld _ _ rfl _ _ rfl LD2.out) ?_)
        | (go_at_call 21; refine (q3 _).mono ?_; rintro e w4 ⟨rfl, k4⟩; have J4 : Hid (Rw w cs w4) := J2.out.keep k4; obtain ⟨c0, c1, f0, f1⟩ := J4.out.ans; have c4 := J4.out.cell TJ.out; clear k4))
      refine bodyPost_ret (results_cell_row rfl _ _ (w.heap.size + 1) 39 _ _ _ rfl (J4.out.fin _ _).1 Tryd.underlying39 rfl Tryd.infoR) rfl ?_
      exact ⟨rfl, (J4.out.fin _ _).2⟩
    · have hH' : (H == 0) = false := by simp [hH]
      cases busy
      · rw [show (if hdl 3 H false = 0 ∧ (j : Int) = 4 then 1 else hdl 3 H false) = 3 by simp [hdl, inB, *], show aimP 3 p H = H by simp [aimP]]
        go_enter Tryd.func6, Tryd.ntmps6
        go_upto_region 1 with fail
        rw [← e2]
        clear e2
        go_wp2_with (first
          | (refine l_take 29 rfl rfl (er_ld _ _ rfl _ _ rfl LD2.out) ?_)
          | (go_at_call 21; refine (q3 _).mono ?_; rintro e w4 ⟨rfl, k4⟩; have J4 : Hid (Rw w cs w4) := J2.out.keep k4; obtain ⟨c0, c1, f0, f1⟩ := J4.out.ans; have c4 := J4.out.cell TJ.out; clear k4))
        refine bodyPost_ret (results_cell_row rfl _ _ (w.heap.size + 1) 39 _ _ _ rfl (J4.out.fin _ _).1 Tryd.underlying39 rfl Tryd.infoR) rfl ?_
        exact ⟨rfl, (J4.out.fin _ _).2⟩
      · by_cases h4 : j = 4
        · subst h4
          rw [show (if hdl 3 H true = 0 ∧ ((4 : Nat) : Int) = 4 then 1 else hdl 3 H true) = 1 by simp [hdl, inB, *], show aimP 1 p H = p by simp [aimP]]
          go_enter Tryd.func6, Tryd.ntmps6
          go_upto_region 1 with fail
          rw [← e2]
          clear e2
          go_wp2_with (first
            | (refine l_take 29 rfl rfl (er_ld _ _ rfl _ _ rfl LD2.out) ?_)
            | (go_at_call 21; refine (q3 _).mono ?_; rintro e w4 ⟨rfl, k4⟩; have J4 : Hid (Rw w cs w4) := J2.out.keep k4; obtain ⟨c0, c1, f0, f1⟩ := J4.out.ans; have c4 := J4.out.cell TJ.out; clear k4))
          refine bodyPost_ret (results_cell_row rfl _ _ (w.heap.size + 1) 39 _ _ _ rfl (J4.out.fin _ _).1 Tryd.underlying39 rfl Tryd.infoR) rfl ?_
          exact ⟨rfl, (J4.out.fin _ _).2⟩
        · have h4' : ((j : Int) == 4) = false := by simp; omega
          have h4'' : ¬ (j : Int) = 4 := by omega
          rw [show (if hdl 3 H true = 0 ∧ (j : Int) = 4 then 1 else hdl 3 H true) = 0 by simp [hdl, inB, *], show aimP 0 p H = p by simp [aimP]]
          go_enter Tryd.func6, Tryd.ntmps6
          go_upto_region 1 with fail
          rw [← e2]
          clear e2
          go_wp2_with (first
            | (refine l_take 29 rfl rfl (er_ld _ _ rfl _ _ rfl LD2.out) ?_)
            | (go_at_call 21; refine (q3 _).mono ?_; rintro e w4 ⟨rfl, k4⟩; have J4 : Hid (Rw w cs w4) := J2.out.keep k4; obtain ⟨c0, c1, f0, f1⟩ := J4.out.ans; have c4 := J4.out.cell TJ.out; clear k4))
          refine bodyPost_ret (results_cell_row rfl _ _ (w.heap.size + 1) 39 _ _ _ rfl (J4.out.fin _ _).1 Tryd.underlying39 rfl Tryd.infoR) rfl ?_
          exact ⟨rfl, (J4.out.fin _ _).2⟩
  · subst e
    rw [show (if hdl 4 H busy = 0 ∧ (j : Int) = 4 then 1 else hdl 4 H busy) = 4 by simp [hdl, inB, *], show aimP 4 p H = 0 by simp [aimP]]
    go_enter Tryd.func6, Tryd.ntmps6
    go_upto_region 1 with fail
    rw [← e2]
    clear e2
    go_wp2_with (first
      | (refine l_take 29 rfl rfl (er_ld _ _ rfl _ _ rfl LD2.out) ?_)
      | (go_at_call 21; refine (q3 _).mono ?_; rintro e w4 ⟨rfl, k4⟩; have J4 : Hid (Rw w cs w4) := J2.out.keep k4; obtain ⟨c0, c1, f0, f1⟩ := J4.out.ans; have c4 := J4.out.cell TJ.out; clear k4))
    refine bodyPost_ret (results_cell_row rfl _ _ (w.heap.size + 1) 39 _ _ _ rfl (J4.out.fin _ _).1 Tryd.underlying39 rfl Tryd.infoR) rfl ?_
    exact ⟨rfl, (J4.out.fin _ _).2⟩
  · subst e
    rw [show (if hdl 5 H busy = 0 ∧ (j : Int) = 4 then 1 else hdl 5 H busy) = 5 by simp [hdl, inB, *], show aimP 5 p H = 0 by simp [aimP]]
    go_enter Tryd.func6, Tryd.ntmps6
    go_upto_region 1 with fail
    rw [← e2]
    clear e2
    go_wp2_with (first
      | (refine l_take 29 rfl rfl (er_ld _ _ rfl _ _ rfl LD2.out) ?_)
      | (go_at_call 21; refine (q3 _).mono ?_; rintro e w4 ⟨rfl, k4⟩; have J4 : Hid (Rw w cs w4) := J2.out.keep k4; obtain ⟨c0, c1, f0, f1⟩ := J4.out.ans; have c4 := J4.out.cell TJ.out; clear k4))
    refine bodyPost_ret (results_cell_row rfl _ _ (w.heap.size + 1) 39 _ _ _ rfl (J4.out.fin _ _).1 Tryd.underlying39 rfl Tryd.infoR) rfl ?_
    exact ⟨rfl, (J4.out.fin _ _).2⟩
end Go.Proofs.YtledndpcceejpaaDoor
