/-
  HealthExact: the walk.
-/
import Derived.Test.YtledndpcceejpaaDoorHExP
import Derived.Deep.DeepCutAuto
namespace Go.Proofs.YtledndpcceejpaaDoor
open Go.RowKit
set_option linter.unusedVariables false
set_option maxRecDepth 100000

set_option maxHeartbeats 16000000 in
theorem exact_law (d : Dd) (pc : Int) (w : World) (hO : Nm w) : Calls Tryd.prog 3 #[.agg d.cs, .agg #[.int .i64 d.va, .int .i64 d.vp], .int .i64 pc] w fun e w' => e = .returned (.bool true) ∧ Kept No w w' := by
  have hN := nOf_le d.n
  obtain ⟨w0, e0⟩ : ∃ w0, w0 = (w.alloc (.cells d.cs 24)).alloc (.cells #[.int .i64 d.va, .int .i64 d.vp] 26) := ⟨_, rfl⟩
  have K0 : Hid (Kept No w w0) := by rw [e0]; exact ((Kept.refl No w).alloc _).alloc _
  have S0 : Hid (w0.heap.size = w.heap.size + 2) := by show _ = _; rw [e0]; simp
  have B0 : Hid (w0.heap[w.heap.size]? = some (.cells d.cs 24)) := by rw [e0]; exact (heap_alloc_old (w.alloc _) _ (by simp)).trans (heap_alloc_new w _)
  have B1 : Hid (w0.heap[w.heap.size + 1]? = some (.cells #[.int .i64 d.va, .int .i64 d.vp] 26)) := by rw [e0]; exact heap_alloc2_new w _ _
  have N0 := hid (hO.keep K0.out)
  have q1 : Calls Tryd.prog 4 #[.agg d.cs] w0 fun e w' => ∃ gi gc g cap, e = .returned (.agg (pnL gi gc g (nOf d.n) cap d.h d.t).toArray) ∧ Pm w' w0.heap.size gi gc g (nOf d.n) cap ∧ Kept No w0 w' := part_any d.n d.h d.t d.k d.p d.busy w0
  have LD0 : Hid ((Instr.loadAt 24 (.pointer (some ⟨w.heap.size, 0, none⟩))).run Tryd.prog w0 = .ok (.agg d.cs) w0) := cs_ld B0.out
  generalize nOf d.n = N at *
  clear hO
  go_enter Tryd.func3, Tryd.ntmps3
  go_upto_region 1 with fail
  rw [← e0]
  clear e0
  go_cut [7] (fun v wc => ∃ M gi gc g cap pb, v = .pointer (some ⟨pb, 0, none⟩) ∧ Ew w wc d M pb gi gc g N cap)
  case first =>
    go_wp2_with (first
      | (refine l_take 19 rfl rfl (er_ld 24 (.tmp 3) rfl (.pointer (some ⟨w.heap.size, 0, none⟩)) (.agg d.cs) rfl LD0.out) ?_)
      | (go_at_call 4; refine q1.mono ?_; rintro e w1 ⟨gi, gc, g, cap, rfl, pm, k1⟩; have F := hid (ew_new K0.out B0.out B1.out S0.out N0.out k1 pm); have b5 := hid (heap_alloc_new w1 (.cells Z21 36)); have O1 := hid (pnL_one gi gc g N cap d.h d.t); have L1 := hid (pnA_size gi gc g N cap d.h d.t); clear k1 pm q1; generalize hcA : (pnL gi gc g N cap d.h d.t).toArray = cA at O1 L1 ⊢; have HcA := hid hcA; clear hcA)
      | (refine list_make rfl 7 rfl (er_allocP rfl) ?_)
      | (refine wpList_store_row rfl 36 (.tmp 7) (.tmp 20) rfl w1.heap.size _ rfl rfl _ Z21 b5.out (by rw [L1.out]; exact Tryd.info21) L1.out.symm O1.out ?_))
    go_meet
    exact ⟨w1.heap.size + 1, gi, gc, g, cap, w1.heap.size, rfl, by rw [← HcA.out]; exact F.out⟩
  case rest =>
  obtain ⟨M, gi, gc, g, cap, pb, rfl, E1⟩ := hcut
  clear B0 B1 K0 S0 LD0 q1 N0
  obtain ⟨A, eA⟩ : ∃ A, A = jdA N d.h d.t d.k d.p d.busy := ⟨_, rfl⟩
  obtain ⟨P, eP⟩ : ∃ P, P = jdP N d.h d.t d.k d.p d.busy := ⟨_, rfl⟩
  have q2 := hid (fun W => judge_any (pnL gi gc g N cap d.h d.t) _ N cap d.h d.t (pnL_len ..) (pnL_8 ..) (pnL_9 ..) (pnL_t _ _ _ _ _ _ _) d.k d.p d.busy W)
  have q3 := hid (fun W => rjudge_any (pnL gi gc g N cap d.h d.t) _ N cap d.h d.t (pnL_len ..) (pnL_8 ..) (pnL_9 ..) (pnL_t _ _ _ _ _ _ _) d.k d.p d.busy W)
  rw [← eA, ← eP] at q2 q3
  unfold vd at q2 q3
  clear eA eP
  have EH := hid E1
  have ck := E1.ck
  have cp := E1.cp
  have cb := E1.cb
  have LD1 := hid E1.ld
  clear E1
  go_upto_region 2 with fail
  go_cut [8] (fun v wd => ∃ ab, v = .pointer (some ⟨ab, 0, none⟩) ∧ Ew w wd d M pb gi gc g N cap ∧ wd.heap[ab]? = some (.cells #[.int .i64 A, .int .i64 P] 26) ∧ M ≤ ab)
  case first =>
    have q2o := q2.out wc
    go_wp2_with (first
      | (refine l_take 21 rfl rfl (er_ld 36 (.tmp 7) rfl (.pointer (some ⟨pb, 0, none⟩)) (.agg (pnL gi gc g N cap d.h d.t).toArray) rfl LD1.out) ?_)
      | (go_at_call 5; refine q2o.mono ?_; rintro e w2 ⟨rfl, k2⟩; have K2 := hid (EH.out.keep k2); clear k2))
    go_meet
    exact ⟨_, rfl, K2.out.keep ((Kept.refl No _).alloc _), heap_alloc_new _ _, K2.out.lo.2.2.2.2.2.2⟩
  case rest =>
  clear ck cp cb LD1 EH
  obtain ⟨ab, rfl, E1, hab, hM⟩ := hcut
  have EH := hid (And.intro E1 hab)
  have ck := E1.ck
  have cp := E1.cp
  have cb := E1.cb
  have LD1 := hid E1.ld
  clear E1 hab
  go_upto_region 3 with fail
  go_cut [9] (fun v wd => ∃ bb, v = .pointer (some ⟨bb, 0, none⟩) ∧ Ew w wd d M pb gi gc g N cap ∧ wd.heap[ab]? = some (.cells #[.int .i64 A, .int .i64 P] 26) ∧ wd.heap[bb]? = some (.cells #[.int .i64 A, .int .i64 P] 39) ∧ ab < bb)
  case first =>
    have q3o := q3.out wc
    go_wp2_with (first
      | (refine l_take 29 rfl rfl (er_ld 36 (.tmp 7) rfl (.pointer (some ⟨pb, 0, none⟩)) (.agg (pnL gi gc g N cap d.h d.t).toArray) rfl LD1.out) ?_)
      | (go_at_call 6; refine q3o.mono ?_; rintro e w2 ⟨rfl, k2⟩; have K2 := hid (EH.out.1.keep k2); have K3 := hid (k2.at' EH.out.2 (fun e => e)); clear k2))
    go_meet
    exact ⟨_, rfl, K2.out.keep ((Kept.refl No _).alloc _), ((Kept.refl No _).alloc _).at' K3.out (fun e => e), heap_alloc_new _ _, heap_lt K3.out⟩
  case rest =>
  clear ck cp cb LD1 EH q2 q3
  obtain ⟨bb, rfl, E1, hab, hbb, hlt⟩ := hcut
  have EH := hid (And.intro E1 (And.intro hab hbb))
  obtain ⟨a0, a1, _, _⟩ := vd_cells hab
  obtain ⟨b0, b1, _, _⟩ := vd_cells hbb
  have LD1 := hid E1.ld
  have qi := E1.intact hN
  clear E1 hab hbb
  go_upto_region 6 with (first
    | (refine l_take 50 rfl rfl (er_ld 36 (.tmp 7) rfl (.pointer (some ⟨pb, 0, none⟩)) (.agg (pnL gi gc g N cap d.h d.t).toArray) rfl LD1.out) ?_)
    | (go_at_call 7; refine qi.mono ?_; rintro e w4 ⟨rfl, k4⟩; have E4 := hid (And.intro (EH.out.1.keep k4) (And.intro (k4.at' EH.out.2.1 (fun e => e)) (k4.at' EH.out.2.2 (fun e => e)))); clear k4 qi LD1 a0 a1 b0 b1 EH))
  have E6 := E4.out
  have LD1 := hid E6.1.ld
  have O1 := hid (pnL_one gi gc g N cap d.h d.t)
  have L1 := hid (pnA_size gi gc g N cap d.h d.t)
  have EH := hid E6
  clear E6 E4
  go_cut [10] (fun v wd => ∃ qb, v = .pointer (some ⟨qb, 0, none⟩) ∧ (Ew w wd d M pb gi gc g N cap ∧ wd.heap[ab]? = some (.cells #[.int .i64 A, .int .i64 P] 26) ∧ wd.heap[bb]? = some (.cells #[.int .i64 A, .int .i64 P] 39)) ∧ wd.heap[qb]? = some (.cells (pnL gi gc g N cap d.h d.t).toArray 36) ∧ bb < qb)
  case first =>
    have b5 := hid (heap_alloc_new w4 (.cells Z21 36))
    have kr : Hid (Kept (fun j => j = w4.heap.size) w4 ((w4.alloc (.cells Z21 36)).setRow w4.heap.size (pnL gi gc g N cap d.h d.t).toArray)) := ((Kept.refl (fun j => j = w4.heap.size) w4).alloc _).setRow (.inl rfl) _
    go_wp2_with (first
      | (refine l_take 54 rfl rfl (er_ld 36 (.tmp 7) rfl (.pointer (some ⟨pb, 0, none⟩)) (.agg (pnL gi gc g N cap d.h d.t).toArray) rfl LD1.out) ?_)
      | (refine list_make rfl 10 rfl (er_allocP rfl) ?_)
      | (refine wpList_store_row rfl 36 (.tmp 10) (.tmp 54) rfl w4.heap.size (pnL gi gc g N cap d.h d.t).toArray rfl rfl _ Z21 b5.out (by rw [L1.out]; exact Tryd.info21) L1.out.symm O1.out ?_))
    go_meet
    have hl := heap_lt EH.out.2.2
    exact ⟨_, rfl, ⟨EH.out.1.keepF kr.out (fun j e => by have := EH.out.1.lo; omega), kr.out.at' EH.out.2.1 (by omega), kr.out.at' EH.out.2.2 (by omega)⟩, setRow_heap _ _ Z21 _ _ (0, 0) b5.out, hl⟩
  case rest =>
  clear LD1 O1 L1 EH
  obtain ⟨qb, rfl, E7, hq, hbq⟩ := hcut
  have p8 := E7.1.p8
  have q8 : wc.cell? ⟨qb, 8, none⟩ = some (.slice (some ⟨g, 0, none⟩) N cap) := cell_row hq rfl
  have f8 := fzc hq 8
  obtain ⟨hc1, hc2⟩ := E7.1.pm.cap
  have eD : Int.tdiv (N : Int) 2 = ((N / 2 : Nat) : Int) := by rw [Int.tdiv_eq_ediv_of_nonneg (by omega)]; omega
  have kq : Kept (fun j => j = qb) wc (wc.setCell ⟨qb, 8, none⟩ (.slice (some ⟨g, 0, none⟩) (N / 2) cap)) := (Kept.refl (fun j => j = qb) wc).setCell (p := ⟨qb, 8, none⟩) (.inl rfl) _
  have E8 : Hid ((Ew w (wc.setCell ⟨qb, 8, none⟩ (.slice (some ⟨g, 0, none⟩) (N / 2) cap)) d M pb gi gc g N cap ∧ (wc.setCell ⟨qb, 8, none⟩ (.slice (some ⟨g, 0, none⟩) (N / 2) cap)).heap[ab]? = some (.cells #[.int .i64 A, .int .i64 P] 26) ∧ (wc.setCell ⟨qb, 8, none⟩ (.slice (some ⟨g, 0, none⟩) (N / 2) cap)).heap[bb]? = some (.cells #[.int .i64 A, .int .i64 P] 39)) ∧ (wc.setCell ⟨qb, 8, none⟩ (.slice (some ⟨g, 0, none⟩) (N / 2) cap)).heap[qb]? = some (.cells (pnL gi gc g (N / 2) cap d.h d.t).toArray 36)) :=
    ⟨⟨E7.1.keepF kq (fun j e => by omega), kq.at' E7.2.1 (by omega), kq.at' E7.2.2 (by omega)⟩, setC 8 _ hq⟩
  clear E7 hq kq
  have hN2 : N / 2 ≤ N := by omega
  obtain ⟨H, hH⟩ : ∃ H, H = N / 2 := ⟨_, rfl⟩
  rw [← hH] at eD E8 hN2
  have hHz : (H : Int) ≤ (cap : Int) := by omega
  clear hH
  go_upto_region 8 with fail
  generalize wc.setCell ⟨qb, 8, none⟩ (.slice (some ⟨g, 0, none⟩) H cap) = w8 at *
  clear p8 q8 f8
  obtain ⟨A2, eA⟩ : ∃ A, A = jdA H d.h d.t d.k d.p d.busy := ⟨_, rfl⟩
  obtain ⟨P2, eP⟩ : ∃ P, P = jdP H d.h d.t d.k d.p d.busy := ⟨_, rfl⟩
  have q2 := hid (fun W => judge_any (pnL gi gc g H cap d.h d.t) _ H cap d.h d.t (pnL_len ..) (pnL_8 ..) (pnL_9 ..) (pnL_t _ _ _ _ _ _ _) d.k d.p d.busy W)
  have q3 := hid (fun W => rjudge_any (pnL gi gc g H cap d.h d.t) _ H cap d.h d.t (pnL_len ..) (pnL_8 ..) (pnL_9 ..) (pnL_t _ _ _ _ _ _ _) d.k d.p d.busy W)
  rw [← eA, ← eP] at q2 q3
  unfold vd at q2 q3
  clear eA eP
  have ck := E8.out.1.1.ck
  have cp := E8.out.1.1.cp
  have cb := E8.out.1.1.cb
  have LD1 := hid (ldPn E8.out.2 (pnL_len gi gc g H cap d.h d.t))
  go_cut [] (fun wd => Ew w wd d M pb gi gc g N cap ∧ wd.heap[ab]? = some (.cells #[.int .i64 A2, .int .i64 P2] 26) ∧ wd.heap[bb]? = some (.cells #[.int .i64 A, .int .i64 P] 39) ∧ wd.heap[qb]? = some (.cells (pnL gi gc g H cap d.h d.t).toArray 36))
  case first =>
    have q2o := q2.out w8
    go_wp2_with (first
      | (refine l_take 63 rfl rfl (er_ld 36 (.tmp 10) rfl (.pointer (some ⟨qb, 0, none⟩)) (.agg (pnL gi gc g H cap d.h d.t).toArray) rfl LD1.out) ?_)
      | (go_at_call 5; refine q2o.mono ?_; rintro e w9 ⟨rfl, k9⟩; have hab9 := k9.at' E8.out.1.2.1 (fun e => e); obtain ⟨x0, x1, y0, y1⟩ := vd_cells hab9; have HS := hid (vd_set hab9 (.int .i64 A2) (.int .i64 P2)); have E9 := hid (And.intro (E8.out.1.1.keep k9) (And.intro (k9.at' E8.out.1.2.2 (fun e => e)) (k9.at' E8.out.2 (fun e => e)))); clear k9 hab9))
    go_meet
    exact ⟨E9.out.1.keepF HS.out.2 (fun j e => by omega), HS.out.1, HS.out.2.at' E9.out.2.1 (by omega), HS.out.2.at' E9.out.2.2 (by omega)⟩
  case rest =>
  clear ck cp cb LD1 E8 q2
  have EH := hid hcut
  have ck := hcut.1.ck
  have cp := hcut.1.cp
  have cb := hcut.1.cb
  have LD1 := hid (ldPn hcut.2.2.2 (pnL_len gi gc g H cap d.h d.t))
  clear hcut
  go_upto_region 9 with fail
  go_cut [] (fun wd => Ew w wd d M pb gi gc g N cap ∧ wd.heap[ab]? = some (.cells #[.int .i64 A2, .int .i64 P2] 26) ∧ wd.heap[bb]? = some (.cells #[.int .i64 A2, .int .i64 P2] 39))
  case first =>
    have q3o := q3.out wc
    go_wp2_with (first
      | (refine l_take 71 rfl rfl (er_ld 36 (.tmp 10) rfl (.pointer (some ⟨qb, 0, none⟩)) (.agg (pnL gi gc g H cap d.h d.t).toArray) rfl LD1.out) ?_)
      | (go_at_call 6; refine q3o.mono ?_; rintro e w9 ⟨rfl, k9⟩; have hab9 := k9.at' EH.out.2.2.1 (fun e => e); obtain ⟨x0, x1, y0, y1⟩ := vd_cells hab9; have HS := hid (vd_set hab9 (.int .i64 A2) (.int .i64 P2)); have E9 := hid (And.intro (EH.out.1.keep k9) (k9.at' EH.out.2.1 (fun e => e))); clear k9 hab9))
    go_meet
    exact ⟨E9.out.1.keepF HS.out.2 (fun j e => by omega), HS.out.2.at' E9.out.2 (by omega), HS.out.1⟩
  case rest =>
  clear ck cp cb LD1 EH q3
  obtain ⟨E1, hab, hbb⟩ := hcut
  have EH := hid E1
  obtain ⟨a0, a1, _, _⟩ := vd_cells hab
  obtain ⟨b0, b1, _, _⟩ := vd_cells hbb
  have LD1 := hid E1.ld
  have qi := E1.intact hN
  clear E1 hab hbb
  go_upto_region 12 with (first
    | (refine l_take 92 rfl rfl (er_ld 36 (.tmp 7) rfl (.pointer (some ⟨pb, 0, none⟩)) (.agg (pnL gi gc g N cap d.h d.t).toArray) rfl LD1.out) ?_)
    | (go_at_call 7; refine qi.mono ?_; rintro e w10 ⟨rfl, k4⟩; have E4 := hid (EH.out.keep k4); clear k4 qi LD1 a0 a1 b0 b1 EH))
  have v0 := E4.out.v0
  have v1 := E4.out.v1
  have cp := E4.out.cp
  have qg := fun W => goes_any d.va d.vp d.p W
  have qr := fun W => rgoes_any d.va d.vp d.p W
  have qn := fun W h => name_any d.k W h
  have qm := fun W => rname_any d.k W
  unfold vd at qg qr
  generalize goB d.va d.vp d.p = G at *
  generalize enB d.va = En at *
  generalize nmS d.k = Ns at *
  generalize inB d.k 1 7 = Nk at *
  go_upto_region 16 with (first
    | (go_at_call 8; refine (qg _).mono ?_; rintro e w11 ⟨rfl, k4⟩; have E5 := hid (E4.out.keep k4); have v0' := E5.out.v0; have v1' := E5.out.v1; have cp' := E5.out.cp; clear k4 qg)
    | (go_at_call 9; refine (qr _).mono ?_; rintro e w12 ⟨rfl, k4⟩; have E6 := hid (E5.out.keep k4); have ck' := E6.out.ck; have qn' := qn w12 E6.out.nm; clear k4 qr)
    | (go_at_call 10; refine qn'.mono ?_; rintro e w13 ⟨rfl, e1⟩; obtain rfl := e1.symm; clear e1 qn' qn)
    | (go_at_call 11; refine (qm _).mono ?_; rintro e w14 ⟨rfl, e1⟩; obtain rfl := e1.symm; clear e1 qm))
  go_upto_region 18 with fail
  have vq := hid (fun W => valid_any d.t W)
  have rq := hid (fun W => rvalid_any d.t W)
  have aq := hid (fun W => args_any d.k d.p pc W)
  have bq := hid (fun W => rargs_any d.k d.p pc W)
  generalize (if d.k = 7 then (-1 : Int) else pc) = X at aq bq
  generalize vlB d.t = V at vq rq
  have LT : Hid (∀ w5, Kept No w12 w5 → (Instr.loadAt 22 (.pointer (some ⟨w.heap.size, 2, none⟩))).run Tryd.prog w5 = .ok (.agg (t8 d.t)) w5) := fun w5 h5 => ld8 d.t (fun j hj => h5.cell (cs_t E6.out.c j hj) (fun e => e))
  have LK : Hid (∀ w5, Kept No w12 w5 → (Instr.loadAt 3 (.pointer (some ⟨w.heap.size, 10, none⟩))).run Tryd.prog w5 = .ok (.int .i64 d.k) w5) := fun w5 h5 => by
    have := h5.cell ck' (fun e => e)
    simp [go_sem, this]
  have cpp := E6.out.cp
  have LP : Hid (∀ w5, Kept No w12 w5 → (Instr.loadAt 3 (.pointer (some ⟨w.heap.size, 11, none⟩))).run Tryd.prog w5 = .ok (.int .i64 d.p) w5) := fun w5 h5 => by
    have := h5.cell cpp (fun e => e)
    simp [go_sem, this]
  have FIN := hid E6.out.hk
  clear ck' cpp v0 v1 cp v0' v1' cp' E4 E5 E6
  generalize d.t = tt at *
  generalize d.k = dk at *
  generalize d.p = dp at *
  refine wp_region_kept w12 (by kernel_rfl) (by kernel_rfl) (Kept.refl No w12) ?_
  refine BigFrame.wpQuiet_want rfl (fun K hK => ?_)
  refine quiet_val' (fun w5 hw5 => er_f2 _ rfl w.heap.size rfl) ?_
  refine hK _ ?_
  clear hK K
  simp only [Act.put, List.setIfInBounds_toArray, List.set_cons_zero, List.set_cons_succ]
  refine BigFrame.wpQuiet_want rfl (fun K hK => ?_)
  refine quiet_val' (fun w5 hw5 => er_ld _ _ rfl _ (.agg (t8 tt)) rfl (LT.out w5 hw5)) ?_
  refine hK _ ?_
  clear hK K
  simp only [Act.put, List.setIfInBounds_toArray, List.set_cons_zero, List.set_cons_succ]
  refine BigFrame.wpQuiet_want rfl (fun K hK => ?_)
  refine quiet_call' (fun w5 => er_cv _ _ rfl (.agg (t8 tt)) rfl) (fun w5 hw5 => (vq.out w5).mono (fun e w6 he => ⟨he.1, hw5.trans he.2 (fun _ x => .inl x)⟩)) ?_
  refine hK _ ?_
  clear hK K
  simp only [Act.put, List.setIfInBounds_toArray, List.set_cons_zero, List.set_cons_succ]
  refine BigFrame.wpQuiet_want rfl (fun K hK => ?_)
  refine quiet_val' (fun w5 hw5 => er_f2 _ rfl w.heap.size rfl) ?_
  refine hK _ ?_
  clear hK K
  simp only [Act.put, List.setIfInBounds_toArray, List.set_cons_zero, List.set_cons_succ]
  refine BigFrame.wpQuiet_want rfl (fun K hK => ?_)
  refine quiet_val' (fun w5 hw5 => er_ld _ _ rfl _ (.agg (t8 tt)) rfl (LT.out w5 hw5)) ?_
  refine hK _ ?_
  clear hK K
  simp only [Act.put, List.setIfInBounds_toArray, List.set_cons_zero, List.set_cons_succ]
  refine BigFrame.wpQuiet_want rfl (fun K hK => ?_)
  refine quiet_call' (fun w5 => er_cw _ _ rfl (.agg (t8 tt)) rfl) (fun w5 hw5 => (rq.out w5).mono (fun e w6 he => ⟨he.1, hw5.trans he.2 (fun _ x => .inl x)⟩)) ?_
  refine hK _ ?_
  clear hK K
  simp only [Act.put, List.setIfInBounds_toArray, List.set_cons_zero, List.set_cons_succ]
  refine BigFrame.wpQuiet_want rfl (fun K hK => ?_)
  refine quiet_val' (fun w5 hw5 => er_eqB _ _ rfl V V true rfl rfl (by cases V <;> rfl)) ?_
  refine hK _ ?_
  clear hK K
  simp only [Act.put, List.setIfInBounds_toArray, List.set_cons_zero, List.set_cons_succ]
  refine BigFrame.wpQuiet_want rfl (fun K hK => ?_)
  refine quiet_val' (fun w5 hw5 => er_mv _ rfl (.bool true) rfl) ?_
  refine hK _ ?_
  clear hK K
  simp only [Act.put, List.setIfInBounds_toArray, List.set_cons_zero, List.set_cons_succ]
  refine BigFrame.wpQuiet_want rfl (fun K hK => ?_)
  refine quiet_val' (fun w5 hw5 => er_f3 _ rfl w.heap.size rfl) ?_
  refine hK _ ?_
  clear hK K
  simp only [Act.put, List.setIfInBounds_toArray, List.set_cons_zero, List.set_cons_succ]
  refine BigFrame.wpQuiet_want rfl (fun K hK => ?_)
  refine quiet_val' (fun w5 hw5 => er_ld _ _ rfl _ (.int .i64 dk) rfl (LK.out w5 hw5)) ?_
  refine hK _ ?_
  clear hK K
  simp only [Act.put, List.setIfInBounds_toArray, List.set_cons_zero, List.set_cons_succ]
  refine BigFrame.wpQuiet_want rfl (fun K hK => ?_)
  refine quiet_val' (fun w5 hw5 => er_f4 _ rfl w.heap.size rfl) ?_
  refine hK _ ?_
  clear hK K
  simp only [Act.put, List.setIfInBounds_toArray, List.set_cons_zero, List.set_cons_succ]
  refine BigFrame.wpQuiet_want rfl (fun K hK => ?_)
  refine quiet_val' (fun w5 hw5 => er_ld _ _ rfl _ (.int .i64 dp) rfl (LP.out w5 hw5)) ?_
  refine hK _ ?_
  clear hK K
  simp only [Act.put, List.setIfInBounds_toArray, List.set_cons_zero, List.set_cons_succ]
  refine BigFrame.wpQuiet_want rfl (fun K hK => ?_)
  refine quiet_val' (fun w5 hw5 => er_mv _ rfl (.int .i64 pc) rfl) ?_
  refine hK _ ?_
  clear hK K
  simp only [Act.put, List.setIfInBounds_toArray, List.set_cons_zero, List.set_cons_succ]
  refine BigFrame.wpQuiet_want rfl (fun K hK => ?_)
  refine quiet_call' (fun w5 => er_ca _ _ _ _ _ _ rfl (.int .i64 dk) (.int .i64 dp) (.int .i64 pc) rfl rfl rfl) (fun w5 hw5 => (aq.out w5).mono (fun e w6 he => ⟨he.1, hw5.trans he.2 (fun _ x => .inl x)⟩)) ?_
  refine hK _ ?_
  clear hK K
  simp only [Act.put, List.setIfInBounds_toArray, List.set_cons_zero, List.set_cons_succ]
  refine BigFrame.wpQuiet_want rfl (fun K hK => ?_)
  refine quiet_val' (fun w5 hw5 => er_f3 _ rfl w.heap.size rfl) ?_
  refine hK _ ?_
  clear hK K
  simp only [Act.put, List.setIfInBounds_toArray, List.set_cons_zero, List.set_cons_succ]
  refine BigFrame.wpQuiet_want rfl (fun K hK => ?_)
  refine quiet_val' (fun w5 hw5 => er_ld _ _ rfl _ (.int .i64 dk) rfl (LK.out w5 hw5)) ?_
  refine hK _ ?_
  clear hK K
  simp only [Act.put, List.setIfInBounds_toArray, List.set_cons_zero, List.set_cons_succ]
  refine BigFrame.wpQuiet_want rfl (fun K hK => ?_)
  refine quiet_val' (fun w5 hw5 => er_f4 _ rfl w.heap.size rfl) ?_
  refine hK _ ?_
  clear hK K
  simp only [Act.put, List.setIfInBounds_toArray, List.set_cons_zero, List.set_cons_succ]
  refine BigFrame.wpQuiet_want rfl (fun K hK => ?_)
  refine quiet_val' (fun w5 hw5 => er_ld _ _ rfl _ (.int .i64 dp) rfl (LP.out w5 hw5)) ?_
  refine hK _ ?_
  clear hK K
  simp only [Act.put, List.setIfInBounds_toArray, List.set_cons_zero, List.set_cons_succ]
  refine BigFrame.wpQuiet_want rfl (fun K hK => ?_)
  refine quiet_val' (fun w5 hw5 => er_mv _ rfl (.int .i64 pc) rfl) ?_
  refine hK _ ?_
  clear hK K
  simp only [Act.put, List.setIfInBounds_toArray, List.set_cons_zero, List.set_cons_succ]
  refine BigFrame.wpQuiet_want rfl (fun K hK => ?_)
  refine quiet_call' (fun w5 => er_cb _ _ _ _ _ _ rfl (.int .i64 dk) (.int .i64 dp) (.int .i64 pc) rfl rfl rfl) (fun w5 hw5 => (bq.out w5).mono (fun e w6 he => ⟨he.1, hw5.trans he.2 (fun _ x => .inl x)⟩)) ?_
  refine hK _ ?_
  clear hK K
  simp only [Act.put, List.setIfInBounds_toArray, List.set_cons_zero, List.set_cons_succ]
  refine BigFrame.wpQuiet_want rfl (fun K hK => ?_)
  refine quiet_val' (fun w5 hw5 => er_eq3 _ _ rfl dk dp X rfl rfl) ?_
  refine hK _ ?_
  clear hK K
  simp only [Act.put, List.setIfInBounds_toArray, List.set_cons_zero, List.set_cons_succ]
  refine BigFrame.wpQuiet_want rfl (fun K hK => ?_)
  refine quiet_val' (fun w5 hw5 => er_pk _ _ _ rfl true (.bool true) rfl rfl) ?_
  refine hK _ ?_
  clear hK K
  simp only [Act.put, List.setIfInBounds_toArray, List.set_cons_zero, List.set_cons_succ]
  refine BigFrame.wpQuiet_want rfl (fun K hK => ?_)
  refine quiet_val' (fun w5 hw5 => er_as _ rfl (.bool true) rfl) ?_
  refine hK _ ?_
  clear hK K
  simp only [Act.put, List.setIfInBounds_toArray, List.set_cons_zero, List.set_cons_succ]
  refine wpQuiet_nil ?_
  intro w15 hw15
  have HW := hid hw15
  clear hw15
  go_wp2
  go_ret
  exact ⟨rfl, FIN.out.trans HW.out (fun _ e => .inl e)⟩
end Go.Proofs.YtledndpcceejpaaDoor
