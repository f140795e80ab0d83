/-
  HealthKeeps: one way of its walk.
-/
import Derived.Test.YtledndpcceejpaaHKeepC
namespace Go.Proofs.Ytledndpcceejpaa
open Go.RowKit
set_option linter.unusedVariables false
set_option maxRecDepth 100000

set_option maxHeartbeats 8000000 in
theorem keeps_4t (n h : Int) (t : Nat → Int) (k p : Int) (busy : Bool) (w : World) (hk : 1 ≤ k ∧ k ≤ 7) (hp : 1 ≤ p ∧ p ≤ (nOf n : Int)) (hs : ¬ (1 ≤ h ∧ h ≤ (nOf n : Int) ∧ p = h)) (hA : jdA (nOf n) h t k p busy = 4) (hH : (decide (1 ≤ h) && decide (h ≤ (nOf n : Int))) = true) : Calls Try.prog 3 #[.agg (csA n h t k p busy)] w fun e w' => e = .returned (.bool true) ∧ Kept No w w' := by
  have hN := nOf_le n
  have HAA := hid hA
  have HKK := hid hk
  have HPP := hid hp
  have HSS := hid hs
  clear hA hk hp hs
  have HHH := hid hH
  clear hH
  have q1 := part_any n h t k p busy (w.alloc (.cells (csA n h t k p busy) 24))
  have B0 := hid (heap_alloc_new w (.cells (csA n h t k p busy) 24))
  have K0 := hid ((Kept.refl No w).alloc (.cells (csA n h t k p busy) 24))
  have S0 : Hid ((w.alloc (.cells (csA n h t k p busy) 24)).heap.size = w.heap.size + 1) := by show _ = _; rw [World.size_alloc]
  have LD0 := hid (cs_ld B0.out)
  generalize nOf n = N at *
  go_enter Try.func3, Try.ntmps3
  go_upto_region 1 with fail
  generalize w.alloc (.cells (csA n h t k p busy) 24) = w0 at *
  go_cut [3] (fun v wc => ∃ gi gc g cap pb, v = .pointer (some ⟨pb, 0, none⟩) ∧ Kw w wc n h t k p busy pb (pnL gi gc g N cap h t))
  case first =>
    go_wp2_with (first
      | (refine l_take 10 rfl rfl (er_ld 24 (.tmp 1) rfl (.pointer (some ⟨w.heap.size, 0, none⟩)) (.agg (csA n h t k p busy)) rfl LD0.out) ?_)
      | (go_at_call 4; refine q1.mono ?_; rintro e w1 ⟨gi, gc, g, cap, rfl, pm, k1⟩; have F := hid (kw_new K0.out B0.out S0.out k1 (pnL gi gc g N cap h t)); have b5 := hid (heap_alloc_new w1 (.cells Z21 34)); have O1 := hid (pnL_one gi gc g N cap h t); have L1 := hid (pnA_size gi gc g N cap h t); clear k1 pm q1; generalize (pnL gi gc g N cap h t).toArray = cA at *)
      | (refine list_make rfl 3 rfl (er_allocP rfl) ?_)
      | (refine wpList_store_row rfl 34 (.tmp 3) (.tmp 11) rfl w1.heap.size _ rfl rfl _ Z21 b5.out (by rw [L1.out]; exact Try.info21) L1.out.symm O1.out ?_))
    go_meet
    exact ⟨gi, gc, g, cap, w1.heap.size, rfl, F.out⟩
  case rest =>
  obtain ⟨gi, gc, g, cap, pb, rfl, K1⟩ := hcut
  clear B0 K0 S0 LD0 q1
  have q2 := judge_any (pnL gi gc g N cap h t) _ N cap h t (pnL_len _ _ _ _ _ _ _) (pnL_8 _ _ _ _ _ _ _) (pnL_9 _ _ _ _ _ _ _) (pnL_t _ _ _ _ _ _ _) k p busy wc
  have LD1 := hid (ldPn K1.pn (pnL_len _ _ _ _ _ _ _))
  have c3 : wc.cell? ⟨w.heap.size, 10, none⟩ = some (.int .i64 k) := cell_row K1.c rfl
  have c4 : wc.cell? ⟨w.heap.size, 11, none⟩ = some (.int .i64 p) := cell_row K1.c rfl
  have c5 : wc.cell? ⟨w.heap.size, 12, none⟩ = some (.bool busy) := cell_row K1.c rfl
  have KH := hid K1
  clear K1
  obtain ⟨A, eA⟩ : ∃ A, A = jdA N h t k p busy := ⟨_, rfl⟩
  obtain ⟨P, eP⟩ : ∃ P, P = jdP N h t k p busy := ⟨_, rfl⟩
  rw [← eA, ← eP] at q2
  unfold vd at q2
  have EA := hid eA
  have EP := hid eP
  clear eA eP
  have PC8 := hid (pnL_8 gi gc g N cap h t)
  have O8 := hid (pnL_one gi gc g N cap h t)
  have L8 := hid (pnL_len gi gc g N cap h t)
  generalize pnL gi gc g N cap h t = cs at *
  go_upto_region 2 with fail
  go_cut [4] (fun v wd => ∃ vb, v = .pointer (some ⟨vb, 0, none⟩) ∧ Kw w wd n h t k p busy pb cs ∧ wd.heap[vb]? = some (.cells #[.int .i64 A, .int .i64 P] 37))
  case first =>
    go_wp2_with (first
      | (refine l_take 12 rfl rfl (er_ld 34 (.tmp 3) rfl (.pointer (some ⟨pb, 0, none⟩)) (.agg cs.toArray) rfl LD1.out) ?_)
      | (go_at_call 5; refine q2.mono ?_; rintro e w2 ⟨rfl, k2⟩; have K2 := hid (KH.out.keep k2); clear k2))
    go_meet
    exact ⟨_, rfl, K2.out.keep ((Kept.refl No _).alloc _), heap_alloc_new _ _⟩
  case rest =>
  obtain ⟨vb, rfl, K3, hv⟩ := hcut
  clear c3 c4 c5 LD1 KH q2 O8 L8
  have c1 : wc.cell? ⟨w.heap.size, 1, none⟩ = some (.int .i64 h) := cell_row K3.c rfl
  have c10 : wc.cell? ⟨w.heap.size, 10, none⟩ = some (.int .i64 k) := cell_row K3.c rfl
  have c11 : wc.cell? ⟨w.heap.size, 11, none⟩ = some (.int .i64 p) := cell_row K3.c rfl
  have c12 : wc.cell? ⟨w.heap.size, 12, none⟩ = some (.bool busy) := cell_row K3.c rfl
  have p8 : wc.cell? ⟨pb, 8, none⟩ = some (.slice (some ⟨g, 0, none⟩) N cap) := cell_row K3.pn (by simpa using PC8.out)
  have v0 : wc.cell? ⟨vb, 0, none⟩ = some (.int .i64 A) := cell_row hv rfl
  have v1 : wc.cell? ⟨vb, 1, none⟩ = some (.int .i64 P) := cell_row hv rfl
  have TB := hid (fun j hj => cs_t K3.c j hj)
  have KF := hid K3.hk
  have qg := fun W => goes_any A P p W
  have qa := fun W => args_any 1 2 3 W
  have eq3 : ∀ W : World, (Op.equalIn 10000 39 (.agg #[.int .i64 1, .int .i64 2, .int .i64 3]) (.agg #[.int .i64 1, .int .i64 2, .int .i64 3])).run Try.prog W = .ok true W := fun W => by kernel_rfl
  clear K3 hv PC8
  obtain ⟨hk1, hk2⟩ := HKK.out
  obtain ⟨hp1, hp2⟩ := HPP.out
  have hs := HSS.out
  have g1 : ¬ k < 1 := by omega
  have g2 : ¬ 7 < k := by omega
  have g3 : ¬ p < 1 := by omega
  have g4 : ¬ (N : Int) < p := by omega
  have jc := hid (jd_cases N h t k p busy ⟨hk1, hk2⟩ ⟨hp1, hp2⟩ hs)
  obtain ⟨j, ej⟩ : ∃ j : Nat, k = j := ⟨k.toNat, by omega⟩
  subst ej
  have hj8 : j < 8 := by omega
  have cT := TB.out j hj8
  obtain ⟨a, ea⟩ : ∃ a, t j = a := ⟨_, rfl⟩
  have jc2 := jc.out
  rw [← EA.out, ← EP.out, Int.toNat_natCast, ea] at jc2
  rw [ea] at cT
  have JC := hid jc2
  obtain ⟨HAS, eH⟩ : ∃ B : Bool, B = (decide (1 ≤ h) && decide (h ≤ N)) := ⟨_, rfl⟩
  have hAA := EA.out.trans HAA.out
  have HH := hid eH
  have HS := hid hs
  have HA2 := hid hAA
  clear jc jc2 TB ea eH hs hAA
  go_upto_region 5 with fail
  go_cut [5] (fun x wd => x = .bool HAS ∧ wd = wc)
  case first =>
    clear hk1 hk2 hp1 hp2
    have hh := HH.out
    by_cases h1 : 1 ≤ h
    · by_cases h2 : h ≤ N
      · rw [decide_eq_true h1, decide_eq_true h2] at hh
        subst hh
        go_wp2
        go_meet
        exact ⟨rfl, rfl⟩
      · rw [decide_eq_true h1, decide_eq_false h2] at hh
        subst hh
        go_wp2
        go_meet
        exact ⟨rfl, rfl⟩
    · rw [decide_eq_false h1, Bool.false_and] at hh
      subst hh
      go_wp2
      go_meet
      exact ⟨rfl, rfl⟩
  case rest =>
  obtain ⟨rfl, hw⟩ := hcut
  obtain rfl := hw.symm
  clear hw
  have hph : HAS = true → (p == h) = false := fun e => by
    have h1 := HH.out
    have h2 := HS.out
    rw [e] at h1
    simp at h1
    simp
    omega
  have hp0 : (p == 0) = false := by simp; omega
  rcases JC.out with ⟨e1, e2, e3, e4⟩ | ⟨e1, e2, e4⟩ | ⟨e1, e2, e4⟩ | ⟨e1, e2, e5, e6, e7, e8, e4⟩ | ⟨e1, e2, e4⟩ | ⟨e1, e2, e4⟩
  · exact absurd (e1.symm.trans HA2.out) (by decide)
  · exact absurd (e1.symm.trans HA2.out) (by decide)
  · exact absurd (e1.symm.trans HA2.out) (by decide)
  · exact absurd (e1.symm.trans HA2.out) (by decide)
  · subst e1
    have e2' := e2.symm
    subst e2'
    have qg2 := fun W => goes_any 4 0 p W
    rw [show goB 4 0 p = false by rfl, show enB 4 = true from rfl] at qg2
    unfold vd at qg2
    have E4 := hid e4
    have HH0 := hid HH.out
    clear qg EA EP JC HH HS e4 qa eq3
    have hHH : HAS = true := by rw [HH0.out]; exact HHH.out
    subst hHH
    have hph2 := hph rfl
    clear hph
    by_cases hj4 : j = 4
    · subst hj4
      rw [show ((4 : Nat) : Int) = 4 from rfl] at *
      rw [show 2 + 4 = 6 from rfl] at cT
      as_aux_lemma =>
      go_wp2_with (go_at_call 7; refine (qg2 _).mono ?_; rintro e w5 ⟨rfl, k5⟩; have K5 := hid k5; have d1 := k5.cell c1 (fun h => h); have d10 := k5.cell c10 (fun h => h); have d11 := k5.cell c11 (fun h => h); have d12 := k5.cell c12 (fun h => h); have dT := k5.cell cT (fun h => h); have y0 := k5.cell v0 (fun h => h); have y1 := k5.cell v1 (fun h => h); clear k5)
      all_goals (
        go_ret
        refine ⟨?_, KF.out.trans K5.out (fun _ e => .inl e)⟩
        first | rfl | (have e4 := E4.out; unfold plB at e4; simp; omega))
    · have k4 : ((j : Int) == 4) = false := by simp; omega
      clear hj4
      as_aux_lemma =>
      go_wp2_with (go_at_call 7; refine (qg2 _).mono ?_; rintro e w5 ⟨rfl, k5⟩; have K5 := hid k5; have d1 := k5.cell c1 (fun h => h); have d10 := k5.cell c10 (fun h => h); have d11 := k5.cell c11 (fun h => h); have d12 := k5.cell c12 (fun h => h); have dT := k5.cell cT (fun h => h); have y0 := k5.cell v0 (fun h => h); have y1 := k5.cell v1 (fun h => h); clear k5)
      all_goals (
        go_ret
        refine ⟨?_, KF.out.trans K5.out (fun _ e => .inl e)⟩
        first | rfl | (have e4 := E4.out; unfold plB at e4; simp; omega))
  · exact absurd (e1.symm.trans HA2.out) (by decide)
end Go.Proofs.Ytledndpcceejpaa
