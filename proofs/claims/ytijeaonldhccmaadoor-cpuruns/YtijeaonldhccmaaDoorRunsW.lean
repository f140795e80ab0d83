/-
  'CpuRuns'.
-/
import Derived.Test.YtijeaonldhccmaaDoorRunsQ
import Derived.Deep.DeepCutAuto
import Derived.WalkSmall
namespace Go.Proofs.YtijeaonldhccmaaDoor
open Go.RowKit
set_option linter.unusedVariables false

theorem own_emp (w : World) : (w.alloc (.cells #[] 2)).ownsRow w.heap.size 2 1 (.slice (some ⟨w.heap.size, 0, none⟩) 0 0) 0 [] :=
  ⟨rfl, .inr ⟨w.heap.size, 0, #[], rfl, Nat.le_refl _, heap_alloc_last _ _, Nat.le_refl _, Nat.zero_le _, rfl, rfl⟩⟩

set_option maxHeartbeats 20000000 in
set_option maxRecDepth 100000 in
theorem runs_walk (F G : Nat → Prop) (p m : Option Addr) (n cc mn mc : Nat) (fx : Int) (R : Nat → Int) (hR : ∀ i, I6 (R i)) (pc most : Int) (xs : List Ins) (ms : List Int) (hms : ∀ z ∈ ms, I6 z) (W : World) (hc : Cs W F p n cc xs) (hz : Zs W G m mn mc ms) (hO : Ops W) (hn : n ≤ 17592186043904) (hmn : mn ≤ 17592186043904) :
    Calls Tryd.prog 9 #[macV (.slice p n cc) (.slice m mn mc) fx R pc, .int .i64 most] W fun ex w' => ex = .returned (.bool true) ∧ Below W.heap.size W w' := by
  have HOO : Hid (Ops W) := hO
  have HC : Hid (Cs W F p n cc xs) := hc
  have HZ : Hid (Zs W G m mn mc ms) := hz
  have HR6 : Hid (∀ i, I6 (R i)) := hR
  have HM6 : Hid (∀ z ∈ ms, I6 z) := hms
  have H1 := heap_alloc_last W (.cells (macC (.slice p n cc) (.slice m mn mc) fx R pc) 36)
  have B1 := (Below.refl _ W).alloc (Nat.le_refl _) (.cells (macC (.slice p n cc) (.slice m mn mc) fx R pc) 36)
  clear hO hc hz hR hms
  by_cases hmo : most > 3000
  · go_enter Tryd.func9, Tryd.ntmps9
    go_wp2_with (refine wl_box36 _ rfl rfl (.slice p n cc) (.slice m mn mc) fx R pc rfl ?_)
    go_ret
    exact ⟨rfl, B1⟩
  go_enter Tryd.func9, Tryd.ntmps9
  go_upto_region 3 with (refine wl_box36 _ rfl rfl (.slice p n cc) (.slice m mn mc) fx R pc rfl ?_)
  have hmost : most ≤ 6000 := by omega
  clear hmo
  generalize W.alloc (.cells (macC (.slice p n cc) (.slice m mn mc) fx R pc) 36) = w1 at H1 B1 ⊢
  have cI := instrs_any F p n cc xs w1 (HC.out.kept (Kept.of_below (F := No) B1) (fun _ _ h => h)) hn
  obtain ⟨m0, m1, m2, m19⟩ := mac_cells H1
  go_upto_region 4 with (go_at_call 19; refine cI.mono ?_; rintro ex w2 ⟨g, cap, rfl, own2, b2⟩)
  have B2 : Below W.heap.size W w2 := B1.trans (b2.mono B1.size)
  have H2 := (b2.block _ (heap_lt H1)).trans H1
  have hg0 : W.heap.size < g := by have := (own2.lt g rfl).1; have := heap_lt H1; omega
  clear cI m0 m1 m2 m19
  obtain ⟨m0, m1, m2, m19⟩ := mac_cells H2
  have cW := words_any G m mn mc ms w2 (HZ.out.kept (Kept.of_below (F := No) B2) (fun _ _ h => h)) hmn
  go_upto_region 5 with (go_at_call 20; refine cW.mono ?_; rintro ex w3 ⟨gm, capm, rfl, own3, b3⟩)
  have hgm : w2.heap.size ≤ gm := (own3.lt gm rfl).1
  have hg2 : g < w2.heap.size := (own2.lt g rfl).2
  have HS : Hid (Sp W w3 (.slice p n cc) (.slice m mn mc) fx R pc g cap n gm capm mn (xs ++ mkI 64) (ms ++ mk7 64)) := ⟨B2.trans (b3.mono B2.size), (b3.block _ (heap_lt H2)).trans H2, hg0, (by omega), (by omega), (by rw [List.length_append, HC.out.len]; rfl), (by rw [List.length_append, HZ.out.len]; rfl), (by
    intro x hx
    rcases List.mem_append.1 hx with h | h
    · exact HC.out.ok x h
    · unfold mkI at h; rw [List.eq_of_mem_replicate h]; exact (by unfold Ins.ok ins77; decide)), owns0 ((Kept.of_below (F := No) b3).owns own2 (fun _ _ h => h)), owns0 own3⟩
  clear cW m0 m1 m2 m19 own2 own3 b2 b3 H1 H2 B1 B2 hgm hg2
  have hcap := HS.out.cs64.cap
  have hcmx := HS.out.cs64.max
  have hcapm := HS.out.zs64.cap
  have hcmxm := HS.out.zs64.max
  have hTL : (xs ++ mkI 64).take n = xs := by rw [← HC.out.len]; exact List.take_left
  have hTK : (ms ++ mk7 64).take mn = ms := by rw [← HZ.out.len]; exact List.take_left
  obtain ⟨r, hr⟩ : ∃ r, r = runN xs fx most.toNat (⟨R, pc, false, 0, 0, 0, 0⟩, ms) := ⟨_, rfl⟩
  have CS : Hid (∀ w', Sp W w' (.slice p n cc) (.slice m mn mc) fx R pc g cap n gm capm mn (xs ++ mkI 64) (ms ++ mk7 64) → Calls Tryd.prog 17 #[.slice (some ⟨g, 0, none⟩) n cap, .slice (some ⟨gm, 0, none⟩) mn capm, .int .i64 fx, regV R, .int .i64 pc, .int .i64 most] w' fun ex w'' => ∃ v, ex = .returned (.tuple #[r.1.1.v, v, .int .i64 r.2]) ∧ w''.ownsRow w'.heap.size 2 1 v mn (r.1.2.map iv) ∧ Below w'.heap.size w' w'') := (fun w' h => by
    have h1 := h.cs
    have h2 := h.zs
    rw [hTL] at h1
    rw [hTK] at h2
    exact run_own _ _ R _ _ n cap mn capm fx pc most _ _ w' h1 h2 (HOO.out.below h.bel HOO.out.pos) hmn hmost r hr)
  have CR : Hid (∀ w', Sp W w' (.slice p n cc) (.slice m mn mc) fx R pc g cap n gm capm mn (xs ++ mkI 64) (ms ++ mk7 64) → Calls Tryd.prog 24 #[.slice p n cc, .slice m mn mc, .int .i64 fx, regV R, .int .i64 pc, .int .i64 most] w' fun ex w'' => ∃ v, ex = .returned (.tuple #[r.1.1.v, v, .int .i64 r.2]) ∧ w''.ownsRow w'.heap.size 2 1 v mn (r.1.2.map iv) ∧ Below w'.heap.size w' w'') := (fun w' h => refRun_any F G R HR6.out p m n cc mn mc fx pc most xs ms w' (HC.out.kept (Kept.of_below (F := No) h.bel) (fun _ _ h => h)) (HZ.out.kept (Kept.of_below (F := No) h.bel) (fun _ _ h => h)) HM6.out hmn hmost r hr)
  clear hTL hTK hr
  obtain ⟨⟨E, z⟩, k⟩ := r
  dsimp only at CS CR
  go_cut [7, 8, 9] (fun v7 v8 v9 wx => ∃ q ua uc, v7 = .pointer (some ⟨q, 0, none⟩) ∧ v8 = .slice ua mn uc ∧ v9 = .int .i64 k ∧ Sq W w3 wx (.slice p n cc) (.slice m mn mc) fx R pc g cap n gm capm mn (xs ++ mkI 64) (ms ++ mk7 64) ∧ wx.heap[q]? = some (.cells (effC E.R E.pc E.st E.ad E.va E.fa E.ca) 27) ∧ wx.ownsRow w3.heap.size 2 1 (.slice ua mn uc) mn (z.map iv) ∧ w3.heap.size ≤ q)
  case first =>
    as_aux_lemma =>
      try simp only [Act.put, List.setIfInBounds_toArray, List.set_cons_zero, List.set_cons_succ]
      refine wp_region_held_drew (S := fun w' => Sq W w3 w' (.slice p n cc) (.slice m mn mc) fx R pc g cap n gm capm mn (xs ++ mkI 64) (ms ++ mk7 64)) (by kernel_rfl) (Sq.start HS.out) (fun hS => ?_)
      refine d_take 0 34 rfl rfl (by kernel_rfl) (by kernel_rfl) (by kernel_rfl) (fun _ _ _ h => h) rfl (fun w' hw' => er_mv _ rfl (.slice (some ⟨g, 0, none⟩) (n + 64) cap) rfl) hS ?_
      simp only [Act.put, List.setIfInBounds_toArray, List.set_cons_zero, List.set_cons_succ]
      refine d_take 1 35 rfl rfl (by kernel_rfl) (by kernel_rfl) (by kernel_rfl) (fun _ _ _ h => h) rfl (fun w' hw' => er_f36_0 _ rfl W.heap.size rfl) hS ?_
      simp only [Act.put, List.setIfInBounds_toArray, List.set_cons_zero, List.set_cons_succ]
      refine d_take 2 36 rfl rfl (by kernel_rfl) (by kernel_rfl) (by kernel_rfl) (fun _ _ _ h => h) rfl (fun w' hw' => er_load31 _ rfl W.heap.size 0 _ rfl (mac_cells hw'.sp.mac).1) hS ?_
      simp only [Act.put, List.setIfInBounds_toArray, List.set_cons_zero, List.set_cons_succ]
      refine d_take 3 37 rfl rfl (by kernel_rfl) (by kernel_rfl) (by kernel_rfl) (fun _ _ _ h => h) rfl (fun w' hw' => er_len31 _ rfl rfl p n cc rfl) hS ?_
      simp only [Act.put, List.setIfInBounds_toArray, List.set_cons_zero, List.set_cons_succ]
      refine d_take 4 38 rfl rfl (by kernel_rfl) (by kernel_rfl) (by kernel_rfl) (fun _ _ _ h => h) rfl (fun w' hw' => er_slice31 _ _ rfl g (n + 64) cap n (by omega) hcap hcmx rfl rfl) hS ?_
      simp only [Act.put, List.setIfInBounds_toArray, List.set_cons_zero, List.set_cons_succ]
      refine d_take 5 39 rfl rfl (by kernel_rfl) (by kernel_rfl) (by kernel_rfl) (fun _ _ _ h => h) rfl (fun w' hw' => er_mv _ rfl (.slice (some ⟨gm, 0, none⟩) (mn + 64) capm) rfl) hS ?_
      simp only [Act.put, List.setIfInBounds_toArray, List.set_cons_zero, List.set_cons_succ]
      refine d_take 6 40 rfl rfl (by kernel_rfl) (by kernel_rfl) (by kernel_rfl) (fun _ _ _ h => h) rfl (fun w' hw' => er_f36_1 _ rfl W.heap.size rfl) hS ?_
      simp only [Act.put, List.setIfInBounds_toArray, List.set_cons_zero, List.set_cons_succ]
      refine d_take 7 41 rfl rfl (by kernel_rfl) (by kernel_rfl) (by kernel_rfl) (fun _ _ _ h => h) rfl (fun w' hw' => er_load34 _ rfl W.heap.size 1 _ rfl (mac_cells hw'.sp.mac).2.1) hS ?_
      simp only [Act.put, List.setIfInBounds_toArray, List.set_cons_zero, List.set_cons_succ]
      refine d_take 8 42 rfl rfl (by kernel_rfl) (by kernel_rfl) (by kernel_rfl) (fun _ _ _ h => h) rfl (fun w' hw' => er_len34 _ rfl rfl m mn mc rfl) hS ?_
      simp only [Act.put, List.setIfInBounds_toArray, List.set_cons_zero, List.set_cons_succ]
      refine d_take 9 43 rfl rfl (by kernel_rfl) (by kernel_rfl) (by kernel_rfl) (fun _ _ _ h => h) rfl (fun w' hw' => er_slice34 _ _ rfl gm (mn + 64) capm mn (by omega) hcapm hcmxm rfl rfl) hS ?_
      simp only [Act.put, List.setIfInBounds_toArray, List.set_cons_zero, List.set_cons_succ]
      refine d_take 10 44 rfl rfl (by kernel_rfl) (by kernel_rfl) (by kernel_rfl) (fun _ _ _ h => h) rfl (fun w' hw' => er_f36_2 _ rfl W.heap.size rfl) hS ?_
      simp only [Act.put, List.setIfInBounds_toArray, List.set_cons_zero, List.set_cons_succ]
      refine d_take 11 45 rfl rfl (by kernel_rfl) (by kernel_rfl) (by kernel_rfl) (fun _ _ _ h => h) rfl (fun w' hw' => er_load3 _ rfl W.heap.size 2 _ rfl (mac_cells hw'.sp.mac).2.2.1) hS ?_
      simp only [Act.put, List.setIfInBounds_toArray, List.set_cons_zero, List.set_cons_succ]
      refine d_take 12 46 rfl rfl (by kernel_rfl) (by kernel_rfl) (by kernel_rfl) (fun _ _ _ h => h) rfl (fun w' hw' => er_f36_3 _ rfl W.heap.size rfl) hS ?_
      simp only [Act.put, List.setIfInBounds_toArray, List.set_cons_zero, List.set_cons_succ]
      refine d_take 13 47 rfl rfl (by kernel_rfl) (by kernel_rfl) (by kernel_rfl) (fun _ _ _ h => h) rfl (fun w' hw' => er_load25 _ rfl W.heap.size 3 R rfl (range_mac hw'.sp.mac)) hS ?_
      simp only [Act.put, List.setIfInBounds_toArray, List.set_cons_zero, List.set_cons_succ]
      refine d_take 14 48 rfl rfl (by kernel_rfl) (by kernel_rfl) (by kernel_rfl) (fun _ _ _ h => h) rfl (fun w' hw' => er_f36_4 _ rfl W.heap.size rfl) hS ?_
      simp only [Act.put, List.setIfInBounds_toArray, List.set_cons_zero, List.set_cons_succ]
      refine d_take 15 49 rfl rfl (by kernel_rfl) (by kernel_rfl) (by kernel_rfl) (fun _ _ _ h => h) rfl (fun w' hw' => er_load3 _ rfl W.heap.size 19 _ rfl (mac_cells hw'.sp.mac).2.2.2) hS ?_
      simp only [Act.put, List.setIfInBounds_toArray, List.set_cons_zero, List.set_cons_succ]
      refine d_take 16 50 rfl rfl (by kernel_rfl) (by kernel_rfl) (by kernel_rfl) (fun _ _ _ h => h) rfl (fun w' hw' => er_mv _ rfl (.int .i64 most) rfl) hS ?_
      simp only [Act.put, List.setIfInBounds_toArray, List.set_cons_zero, List.set_cons_succ]
      refine d_twoN (fun v wz => ∃ ua uc, v = .tuple #[E.v, .slice ua mn uc, .int .i64 k] ∧ wz.ownsRow w3.heap.size 2 1 (.slice ua mn uc) mn (z.map iv)) 17 51 22 7 (by kernel_rfl) rfl rfl rfl rfl rfl rfl (er_call_cpu_Run _ _ _ _ _ _ _ rfl) (er_alloc27 rfl) ((CS.out _ hS.sp).mono (by rintro ex w4 ⟨u, rfl, ow, b4⟩; obtain ⟨ua, uc, rfl⟩ := owns_shp ow; exact ⟨_, rfl, hS.grow b4, ua, uc, rfl, owns_mono ow hS.bel.size⟩)) (hS.alloc _) (fun vN wN hSN hTN => ?_) ?_
      · obtain ⟨ua, uc, rfl, owN⟩ := hTN
        simp only [Act.put, List.setIfInBounds_toArray, List.set_cons_zero, List.set_cons_succ]
        refine d_take 18 33 rfl rfl (by kernel_rfl) (by kernel_rfl) (by kernel_rfl) (fun _ _ _ h => h) rfl (fun w' hw' => er_mv _ rfl (.tuple #[E.v, .slice ua mn uc, .int .i64 k]) rfl) hSN ?_
        simp only [Act.put, List.setIfInBounds_toArray, List.set_cons_zero, List.set_cons_succ]
        refine d_take 19 52 rfl rfl (by kernel_rfl) (by kernel_rfl) (by kernel_rfl) (fun _ _ _ h => h) rfl (fun w' hw' => er_ext0 _ rfl _ _ _ rfl) hSN ?_
        simp only [Act.put, List.setIfInBounds_toArray, List.set_cons_zero, List.set_cons_succ]
        refine d_take 20 53 rfl rfl (by kernel_rfl) (by kernel_rfl) (by kernel_rfl) (fun _ _ _ h => h) rfl (fun w' hw' => er_ext1 _ rfl _ _ _ rfl) hSN ?_
        simp only [Act.put, List.setIfInBounds_toArray, List.set_cons_zero, List.set_cons_succ]
        refine d_take 21 54 rfl rfl (by kernel_rfl) (by kernel_rfl) (by kernel_rfl) (fun _ _ _ h => h) rfl (fun w' hw' => er_ext2 _ rfl _ _ _ rfl) hSN ?_
        simp only [Act.put, List.setIfInBounds_toArray, List.set_cons_zero, List.set_cons_succ]
        refine d_make 22 7 (by kernel_rfl) rfl rfl rfl (er_alloc27 rfl) (hSN.alloc _) ?_
        simp only [Act.put, List.setIfInBounds_toArray, List.set_cons_zero, List.set_cons_succ]
        have hA := (hSN.alloc (.cells (effC zeroR 0 false 0 0 0 0) 27)).store (q := wN.heap.size) hSN.bel.size (effC E.R E.pc E.st E.ad E.va E.fa E.ca)
        refine d_turn 23 (by kernel_rfl) rfl rfl rfl (er_store27 _ _ rfl E wN.heap.size _ rfl rfl (heap_alloc_last _ _) rfl) hA ?_
        refine d_take 24 8 rfl rfl (by kernel_rfl) (by kernel_rfl) (by kernel_rfl) (fun _ _ _ h => h) rfl (fun w' hw' => er_as _ rfl (.slice ua mn uc) rfl) hA ?_
        simp only [Act.put, List.setIfInBounds_toArray, List.set_cons_zero, List.set_cons_succ]
        refine d_take 25 9 rfl rfl (by kernel_rfl) (by kernel_rfl) (by kernel_rfl) (fun _ _ _ h => h) rfl (fun w' hw' => er_as _ rfl (.int .i64 k) rfl) hA ?_
        simp only [Act.put, List.setIfInBounds_toArray, List.set_cons_zero, List.set_cons_succ]
        refine wpAnyH_done (by kernel_rfl) ?_ _
        try go_wp2
        go_meet
        case rel => exact ⟨_, _, _, rfl, rfl, rfl, hA, setRow_heap _ _ _ _ _ _ (heap_alloc_last _ _), own_new owN _ _, hSN.bel.size⟩
      · simp only [Act.put, List.setIfInBounds_toArray, List.set_cons_zero, List.set_cons_succ]
        have hA := hS.alloc (.cells (effC zeroR 0 false 0 0 0 0) 27)
        have hN : (w3.drew.alloc (.cells (effC zeroR 0 false 0 0 0 0) 27)).heap[w3.heap.size]? = some (.cells (effC zeroR 0 false 0 0 0 0) 27) := heap_alloc_last w3.drew _
        refine d_callN (fun v wz => (∃ ua uc, v = .tuple #[E.v, .slice ua mn uc, .int .i64 k] ∧ wz.ownsRow (w3.heap.size + 1) 2 1 (.slice ua mn uc) mn (z.map iv)) ∧ wz.heap[w3.heap.size]? = some (.cells (effC zeroR 0 false 0 0 0 0) 27)) 17 51 (by kernel_rfl) rfl rfl rfl (er_call_cpu_Run _ _ _ _ _ _ _ rfl) ((CS.out _ hA.sp).mono (by rintro ex w4 ⟨u, rfl, ow, b4⟩; obtain ⟨ua, uc, rfl⟩ := owns_shp ow; exact ⟨_, rfl, hA.grow b4, ⟨ua, uc, rfl, owns_mono ow (by rw [World.size_alloc]; exact Nat.le_refl _)⟩, (b4.block _ (heap_lt hN)).trans hN⟩)) (fun vN wN hSN hTN => ?_)
        obtain ⟨⟨ua, uc, rfl, owN⟩, hT⟩ := hTN
        simp only [Act.put, List.setIfInBounds_toArray, List.set_cons_zero, List.set_cons_succ]
        refine d_take 18 33 rfl rfl (by kernel_rfl) (by kernel_rfl) (by kernel_rfl) (fun _ _ _ h => h) rfl (fun w' hw' => er_mv _ rfl (.tuple #[E.v, .slice ua mn uc, .int .i64 k]) rfl) hSN ?_
        simp only [Act.put, List.setIfInBounds_toArray, List.set_cons_zero, List.set_cons_succ]
        refine d_take 19 52 rfl rfl (by kernel_rfl) (by kernel_rfl) (by kernel_rfl) (fun _ _ _ h => h) rfl (fun w' hw' => er_ext0 _ rfl _ _ _ rfl) hSN ?_
        simp only [Act.put, List.setIfInBounds_toArray, List.set_cons_zero, List.set_cons_succ]
        refine d_take 20 53 rfl rfl (by kernel_rfl) (by kernel_rfl) (by kernel_rfl) (fun _ _ _ h => h) rfl (fun w' hw' => er_ext1 _ rfl _ _ _ rfl) hSN ?_
        simp only [Act.put, List.setIfInBounds_toArray, List.set_cons_zero, List.set_cons_succ]
        refine d_take 21 54 rfl rfl (by kernel_rfl) (by kernel_rfl) (by kernel_rfl) (fun _ _ _ h => h) rfl (fun w' hw' => er_ext2 _ rfl _ _ _ rfl) hSN ?_
        simp only [Act.put, List.setIfInBounds_toArray, List.set_cons_zero, List.set_cons_succ]
        have hB := hSN.store (q := w3.heap.size) (Nat.le_refl _) (effC E.R E.pc E.st E.ad E.va E.fa E.ca)
        refine d_turn 23 (by kernel_rfl) rfl rfl rfl (er_store27 _ _ rfl E w3.heap.size _ rfl rfl hT rfl) hB ?_
        refine d_take 24 8 rfl rfl (by kernel_rfl) (by kernel_rfl) (by kernel_rfl) (fun _ _ _ h => h) rfl (fun w' hw' => er_as _ rfl (.slice ua mn uc) rfl) hB ?_
        simp only [Act.put, List.setIfInBounds_toArray, List.set_cons_zero, List.set_cons_succ]
        refine d_take 25 9 rfl rfl (by kernel_rfl) (by kernel_rfl) (by kernel_rfl) (fun _ _ _ h => h) rfl (fun w' hw' => er_as _ rfl (.int .i64 k) rfl) hB ?_
        simp only [Act.put, List.setIfInBounds_toArray, List.set_cons_zero, List.set_cons_succ]
        refine wpAnyH_done (by kernel_rfl) ?_ _
        try go_wp2
        go_meet
        case rel => exact ⟨_, _, _, rfl, rfl, rfl, hB, setRow_heap _ _ _ _ _ _ hT, own_row owN (Nat.lt_succ_self _) (Nat.le_succ _) _, Nat.le_refl _⟩
  case rest =>
    obtain ⟨q7, a8, c8, rfl, rfl, rfl, hsq, hef, hrow, hq7⟩ := hcut
    rename World => w5
    have hlt3 := hsq.lt
    have HS : Hid (Sp W w5 (.slice p n cc) (.slice m mn mc) fx R pc g cap n gm capm mn (xs ++ mkI 64) (ms ++ mk7 64)) := hsq.sp
    have HB5 : Hid (w5.heap[q7]? = some (.cells (effC E.R E.pc E.st E.ad E.va E.fa E.ca) 27) ∧ w5.ownsRow w3.heap.size 2 1 (.slice a8 mn c8) mn (z.map iv)) := ⟨hef, hrow⟩
    clear hsq hef hrow hq7
    go_upto_region 6 with fail
    go_cut [10, 11, 12] (fun v10 v11 v12 wx => ∃ q ua uc, v10 = .pointer (some ⟨q, 0, none⟩) ∧ v11 = .slice ua mn uc ∧ v12 = .int .i64 k ∧ Sq W w5 wx (.slice p n cc) (.slice m mn mc) fx R pc g cap n gm capm mn (xs ++ mkI 64) (ms ++ mk7 64) ∧ wx.heap[q]? = some (.cells (effC E.R E.pc E.st E.ad E.va E.fa E.ca) 27) ∧ wx.ownsRow w5.heap.size 2 1 (.slice ua mn uc) mn (z.map iv) ∧ w5.heap.size ≤ q)
    case first =>
      as_aux_lemma =>
        try simp only [Act.put, List.setIfInBounds_toArray, List.set_cons_zero, List.set_cons_succ]
        refine wp_region_held_drew (S := fun w' => Sq W w5 w' (.slice p n cc) (.slice m mn mc) fx R pc g cap n gm capm mn (xs ++ mkI 64) (ms ++ mk7 64)) (by kernel_rfl) (Sq.start HS.out) (fun hS => ?_)
        refine d_take 0 56 rfl rfl (by kernel_rfl) (by kernel_rfl) (by kernel_rfl) (fun _ _ _ h => h) rfl (fun w' hw' => er_mv _ rfl (.slice (some ⟨g, 0, none⟩) (n + 64) cap) rfl) hS ?_
        simp only [Act.put, List.setIfInBounds_toArray, List.set_cons_zero, List.set_cons_succ]
        refine d_take 1 57 rfl rfl (by kernel_rfl) (by kernel_rfl) (by kernel_rfl) (fun _ _ _ h => h) rfl (fun w' hw' => er_f36_0 _ rfl W.heap.size rfl) hS ?_
        simp only [Act.put, List.setIfInBounds_toArray, List.set_cons_zero, List.set_cons_succ]
        refine d_take 2 58 rfl rfl (by kernel_rfl) (by kernel_rfl) (by kernel_rfl) (fun _ _ _ h => h) rfl (fun w' hw' => er_load31 _ rfl W.heap.size 0 _ rfl (mac_cells hw'.sp.mac).1) hS ?_
        simp only [Act.put, List.setIfInBounds_toArray, List.set_cons_zero, List.set_cons_succ]
        refine d_take 3 59 rfl rfl (by kernel_rfl) (by kernel_rfl) (by kernel_rfl) (fun _ _ _ h => h) rfl (fun w' hw' => er_len31 _ rfl rfl p n cc rfl) hS ?_
        simp only [Act.put, List.setIfInBounds_toArray, List.set_cons_zero, List.set_cons_succ]
        refine d_take 4 60 rfl rfl (by kernel_rfl) (by kernel_rfl) (by kernel_rfl) (fun _ _ _ h => h) rfl (fun w' hw' => er_slice31 _ _ rfl g (n + 64) cap n (by omega) hcap hcmx rfl rfl) hS ?_
        simp only [Act.put, List.setIfInBounds_toArray, List.set_cons_zero, List.set_cons_succ]
        refine d_take 5 61 rfl rfl (by kernel_rfl) (by kernel_rfl) (by kernel_rfl) (fun _ _ _ h => h) rfl (fun w' hw' => er_mv _ rfl (.slice (some ⟨gm, 0, none⟩) (mn + 64) capm) rfl) hS ?_
        simp only [Act.put, List.setIfInBounds_toArray, List.set_cons_zero, List.set_cons_succ]
        refine d_take 6 62 rfl rfl (by kernel_rfl) (by kernel_rfl) (by kernel_rfl) (fun _ _ _ h => h) rfl (fun w' hw' => er_f36_1 _ rfl W.heap.size rfl) hS ?_
        simp only [Act.put, List.setIfInBounds_toArray, List.set_cons_zero, List.set_cons_succ]
        refine d_take 7 63 rfl rfl (by kernel_rfl) (by kernel_rfl) (by kernel_rfl) (fun _ _ _ h => h) rfl (fun w' hw' => er_load34 _ rfl W.heap.size 1 _ rfl (mac_cells hw'.sp.mac).2.1) hS ?_
        simp only [Act.put, List.setIfInBounds_toArray, List.set_cons_zero, List.set_cons_succ]
        refine d_take 8 64 rfl rfl (by kernel_rfl) (by kernel_rfl) (by kernel_rfl) (fun _ _ _ h => h) rfl (fun w' hw' => er_len34 _ rfl rfl m mn mc rfl) hS ?_
        simp only [Act.put, List.setIfInBounds_toArray, List.set_cons_zero, List.set_cons_succ]
        refine d_take 9 65 rfl rfl (by kernel_rfl) (by kernel_rfl) (by kernel_rfl) (fun _ _ _ h => h) rfl (fun w' hw' => er_slice34 _ _ rfl gm (mn + 64) capm mn (by omega) hcapm hcmxm rfl rfl) hS ?_
        simp only [Act.put, List.setIfInBounds_toArray, List.set_cons_zero, List.set_cons_succ]
        refine d_take 10 66 rfl rfl (by kernel_rfl) (by kernel_rfl) (by kernel_rfl) (fun _ _ _ h => h) rfl (fun w' hw' => er_f36_2 _ rfl W.heap.size rfl) hS ?_
        simp only [Act.put, List.setIfInBounds_toArray, List.set_cons_zero, List.set_cons_succ]
        refine d_take 11 67 rfl rfl (by kernel_rfl) (by kernel_rfl) (by kernel_rfl) (fun _ _ _ h => h) rfl (fun w' hw' => er_load3 _ rfl W.heap.size 2 _ rfl (mac_cells hw'.sp.mac).2.2.1) hS ?_
        simp only [Act.put, List.setIfInBounds_toArray, List.set_cons_zero, List.set_cons_succ]
        refine d_take 12 68 rfl rfl (by kernel_rfl) (by kernel_rfl) (by kernel_rfl) (fun _ _ _ h => h) rfl (fun w' hw' => er_f36_3 _ rfl W.heap.size rfl) hS ?_
        simp only [Act.put, List.setIfInBounds_toArray, List.set_cons_zero, List.set_cons_succ]
        refine d_take 13 69 rfl rfl (by kernel_rfl) (by kernel_rfl) (by kernel_rfl) (fun _ _ _ h => h) rfl (fun w' hw' => er_load25 _ rfl W.heap.size 3 R rfl (range_mac hw'.sp.mac)) hS ?_
        simp only [Act.put, List.setIfInBounds_toArray, List.set_cons_zero, List.set_cons_succ]
        refine d_take 14 70 rfl rfl (by kernel_rfl) (by kernel_rfl) (by kernel_rfl) (fun _ _ _ h => h) rfl (fun w' hw' => er_f36_4 _ rfl W.heap.size rfl) hS ?_
        simp only [Act.put, List.setIfInBounds_toArray, List.set_cons_zero, List.set_cons_succ]
        refine d_take 15 71 rfl rfl (by kernel_rfl) (by kernel_rfl) (by kernel_rfl) (fun _ _ _ h => h) rfl (fun w' hw' => er_load3 _ rfl W.heap.size 19 _ rfl (mac_cells hw'.sp.mac).2.2.2) hS ?_
        simp only [Act.put, List.setIfInBounds_toArray, List.set_cons_zero, List.set_cons_succ]
        refine d_take 16 72 rfl rfl (by kernel_rfl) (by kernel_rfl) (by kernel_rfl) (fun _ _ _ h => h) rfl (fun w' hw' => er_mv _ rfl (.int .i64 most) rfl) hS ?_
        simp only [Act.put, List.setIfInBounds_toArray, List.set_cons_zero, List.set_cons_succ]
        refine d_twoN (fun v wz => ∃ ua uc, v = .tuple #[E.v, .slice ua mn uc, .int .i64 k] ∧ wz.ownsRow w5.heap.size 2 1 (.slice ua mn uc) mn (z.map iv)) 17 73 22 10 (by kernel_rfl) rfl rfl rfl rfl rfl rfl (er_call_cpu_Run _ _ _ _ _ _ _ rfl) (er_alloc27 rfl) ((CS.out _ hS.sp).mono (by rintro ex w4 ⟨u, rfl, ow, b4⟩; obtain ⟨ua, uc, rfl⟩ := owns_shp ow; exact ⟨_, rfl, hS.grow b4, ua, uc, rfl, owns_mono ow hS.bel.size⟩)) (hS.alloc _) (fun vN wN hSN hTN => ?_) ?_
        · obtain ⟨ua, uc, rfl, owN⟩ := hTN
          simp only [Act.put, List.setIfInBounds_toArray, List.set_cons_zero, List.set_cons_succ]
          refine d_take 18 55 rfl rfl (by kernel_rfl) (by kernel_rfl) (by kernel_rfl) (fun _ _ _ h => h) rfl (fun w' hw' => er_mv _ rfl (.tuple #[E.v, .slice ua mn uc, .int .i64 k]) rfl) hSN ?_
          simp only [Act.put, List.setIfInBounds_toArray, List.set_cons_zero, List.set_cons_succ]
          refine d_take 19 74 rfl rfl (by kernel_rfl) (by kernel_rfl) (by kernel_rfl) (fun _ _ _ h => h) rfl (fun w' hw' => er_ext0 _ rfl _ _ _ rfl) hSN ?_
          simp only [Act.put, List.setIfInBounds_toArray, List.set_cons_zero, List.set_cons_succ]
          refine d_take 20 75 rfl rfl (by kernel_rfl) (by kernel_rfl) (by kernel_rfl) (fun _ _ _ h => h) rfl (fun w' hw' => er_ext1 _ rfl _ _ _ rfl) hSN ?_
          simp only [Act.put, List.setIfInBounds_toArray, List.set_cons_zero, List.set_cons_succ]
          refine d_take 21 76 rfl rfl (by kernel_rfl) (by kernel_rfl) (by kernel_rfl) (fun _ _ _ h => h) rfl (fun w' hw' => er_ext2 _ rfl _ _ _ rfl) hSN ?_
          simp only [Act.put, List.setIfInBounds_toArray, List.set_cons_zero, List.set_cons_succ]
          refine d_make 22 10 (by kernel_rfl) rfl rfl rfl (er_alloc27 rfl) (hSN.alloc _) ?_
          simp only [Act.put, List.setIfInBounds_toArray, List.set_cons_zero, List.set_cons_succ]
          have hA := (hSN.alloc (.cells (effC zeroR 0 false 0 0 0 0) 27)).store (q := wN.heap.size) hSN.bel.size (effC E.R E.pc E.st E.ad E.va E.fa E.ca)
          refine d_turn 23 (by kernel_rfl) rfl rfl rfl (er_store27 _ _ rfl E wN.heap.size _ rfl rfl (heap_alloc_last _ _) rfl) hA ?_
          refine d_take 24 11 rfl rfl (by kernel_rfl) (by kernel_rfl) (by kernel_rfl) (fun _ _ _ h => h) rfl (fun w' hw' => er_as _ rfl (.slice ua mn uc) rfl) hA ?_
          simp only [Act.put, List.setIfInBounds_toArray, List.set_cons_zero, List.set_cons_succ]
          refine d_take 25 12 rfl rfl (by kernel_rfl) (by kernel_rfl) (by kernel_rfl) (fun _ _ _ h => h) rfl (fun w' hw' => er_as _ rfl (.int .i64 k) rfl) hA ?_
          simp only [Act.put, List.setIfInBounds_toArray, List.set_cons_zero, List.set_cons_succ]
          refine wpAnyH_done (by kernel_rfl) ?_ _
          try go_wp2
          go_meet
          case rel => exact ⟨_, _, _, rfl, rfl, rfl, hA, setRow_heap _ _ _ _ _ _ (heap_alloc_last _ _), own_new owN _ _, hSN.bel.size⟩
        · simp only [Act.put, List.setIfInBounds_toArray, List.set_cons_zero, List.set_cons_succ]
          have hA := hS.alloc (.cells (effC zeroR 0 false 0 0 0 0) 27)
          have hN : (w5.drew.alloc (.cells (effC zeroR 0 false 0 0 0 0) 27)).heap[w5.heap.size]? = some (.cells (effC zeroR 0 false 0 0 0 0) 27) := heap_alloc_last w5.drew _
          refine d_callN (fun v wz => (∃ ua uc, v = .tuple #[E.v, .slice ua mn uc, .int .i64 k] ∧ wz.ownsRow (w5.heap.size + 1) 2 1 (.slice ua mn uc) mn (z.map iv)) ∧ wz.heap[w5.heap.size]? = some (.cells (effC zeroR 0 false 0 0 0 0) 27)) 17 73 (by kernel_rfl) rfl rfl rfl (er_call_cpu_Run _ _ _ _ _ _ _ rfl) ((CS.out _ hA.sp).mono (by rintro ex w4 ⟨u, rfl, ow, b4⟩; obtain ⟨ua, uc, rfl⟩ := owns_shp ow; exact ⟨_, rfl, hA.grow b4, ⟨ua, uc, rfl, owns_mono ow (by rw [World.size_alloc]; exact Nat.le_refl _)⟩, (b4.block _ (heap_lt hN)).trans hN⟩)) (fun vN wN hSN hTN => ?_)
          obtain ⟨⟨ua, uc, rfl, owN⟩, hT⟩ := hTN
          simp only [Act.put, List.setIfInBounds_toArray, List.set_cons_zero, List.set_cons_succ]
          refine d_take 18 55 rfl rfl (by kernel_rfl) (by kernel_rfl) (by kernel_rfl) (fun _ _ _ h => h) rfl (fun w' hw' => er_mv _ rfl (.tuple #[E.v, .slice ua mn uc, .int .i64 k]) rfl) hSN ?_
          simp only [Act.put, List.setIfInBounds_toArray, List.set_cons_zero, List.set_cons_succ]
          refine d_take 19 74 rfl rfl (by kernel_rfl) (by kernel_rfl) (by kernel_rfl) (fun _ _ _ h => h) rfl (fun w' hw' => er_ext0 _ rfl _ _ _ rfl) hSN ?_
          simp only [Act.put, List.setIfInBounds_toArray, List.set_cons_zero, List.set_cons_succ]
          refine d_take 20 75 rfl rfl (by kernel_rfl) (by kernel_rfl) (by kernel_rfl) (fun _ _ _ h => h) rfl (fun w' hw' => er_ext1 _ rfl _ _ _ rfl) hSN ?_
          simp only [Act.put, List.setIfInBounds_toArray, List.set_cons_zero, List.set_cons_succ]
          refine d_take 21 76 rfl rfl (by kernel_rfl) (by kernel_rfl) (by kernel_rfl) (fun _ _ _ h => h) rfl (fun w' hw' => er_ext2 _ rfl _ _ _ rfl) hSN ?_
          simp only [Act.put, List.setIfInBounds_toArray, List.set_cons_zero, List.set_cons_succ]
          have hB := hSN.store (q := w5.heap.size) (Nat.le_refl _) (effC E.R E.pc E.st E.ad E.va E.fa E.ca)
          refine d_turn 23 (by kernel_rfl) rfl rfl rfl (er_store27 _ _ rfl E w5.heap.size _ rfl rfl hT rfl) hB ?_
          refine d_take 24 11 rfl rfl (by kernel_rfl) (by kernel_rfl) (by kernel_rfl) (fun _ _ _ h => h) rfl (fun w' hw' => er_as _ rfl (.slice ua mn uc) rfl) hB ?_
          simp only [Act.put, List.setIfInBounds_toArray, List.set_cons_zero, List.set_cons_succ]
          refine d_take 25 12 rfl rfl (by kernel_rfl) (by kernel_rfl) (by kernel_rfl) (fun _ _ _ h => h) rfl (fun w' hw' => er_as _ rfl (.int .i64 k) rfl) hB ?_
          simp only [Act.put, List.setIfInBounds_toArray, List.set_cons_zero, List.set_cons_succ]
          refine wpAnyH_done (by kernel_rfl) ?_ _
          try go_wp2
          go_meet
          case rel => exact ⟨_, _, _, rfl, rfl, rfl, hB, setRow_heap _ _ _ _ _ _ hT, own_row owN (Nat.lt_succ_self _) (Nat.le_succ _) _, Nat.le_refl _⟩
    case rest =>
      obtain ⟨q10, a11, c11, rfl, rfl, rfl, hsq, _, hrow, _⟩ := hcut
      rename World => w6
      have HS : Hid (Sp W w6 (.slice p n cc) (.slice m mn mc) fx R pc g cap n gm capm mn (xs ++ mkI 64) (ms ++ mk7 64)) := hsq.sp
      have HB6 : Hid (w6.heap[q7]? = some (.cells (effC E.R E.pc E.st E.ad E.va E.fa E.ca) 27) ∧ w6.ownsRow w3.heap.size 2 1 (.slice a8 mn c8) mn (z.map iv) ∧ w6.ownsRow w5.heap.size 2 1 (.slice a11 mn c11) mn (z.map iv)) := ⟨(hsq.bel.block _ (heap_lt HB5.out.1)).trans HB5.out.1, own_below HB5.out.2 hsq.bel, hrow⟩
      have HF8 : Hid (∀ b, (Value.slice a8 mn c8).ownBlock = some b → w3.heap.size ≤ b ∧ b < w5.heap.size) := (fun b hb => HB5.out.2.lt b hb)
      have h56 := hsq.bel.size
      clear hsq hrow HB5
      go_upto_region 7 with fail
      refine wp_region_lit ?_
      try simp only [Act.put, List.setIfInBounds_toArray, List.set_cons_zero, List.set_cons_succ]
      refine l_take 78 rfl rfl (er_f36_0 _ rfl W.heap.size rfl) ?_
      simp only [Act.put, List.setIfInBounds_toArray, List.set_cons_zero, List.set_cons_succ]
      refine l_take 79 rfl rfl (er_load31 _ rfl W.heap.size 0 _ rfl (mac_cells HS.out.mac).1) ?_
      simp only [Act.put, List.setIfInBounds_toArray, List.set_cons_zero, List.set_cons_succ]
      refine l_take 80 rfl rfl (er_f36_1 _ rfl W.heap.size rfl) ?_
      simp only [Act.put, List.setIfInBounds_toArray, List.set_cons_zero, List.set_cons_succ]
      refine l_take 81 rfl rfl (er_load34 _ rfl W.heap.size 1 _ rfl (mac_cells HS.out.mac).2.1) ?_
      simp only [Act.put, List.setIfInBounds_toArray, List.set_cons_zero, List.set_cons_succ]
      refine l_take 82 rfl rfl (er_f36_2 _ rfl W.heap.size rfl) ?_
      simp only [Act.put, List.setIfInBounds_toArray, List.set_cons_zero, List.set_cons_succ]
      refine l_take 83 rfl rfl (er_load3 _ rfl W.heap.size 2 _ rfl (mac_cells HS.out.mac).2.2.1) ?_
      simp only [Act.put, List.setIfInBounds_toArray, List.set_cons_zero, List.set_cons_succ]
      refine l_take 84 rfl rfl (er_f36_3 _ rfl W.heap.size rfl) ?_
      simp only [Act.put, List.setIfInBounds_toArray, List.set_cons_zero, List.set_cons_succ]
      refine l_take 85 rfl rfl (er_load25 _ rfl W.heap.size 3 R rfl (range_mac HS.out.mac)) ?_
      simp only [Act.put, List.setIfInBounds_toArray, List.set_cons_zero, List.set_cons_succ]
      refine l_take 86 rfl rfl (er_f36_4 _ rfl W.heap.size rfl) ?_
      simp only [Act.put, List.setIfInBounds_toArray, List.set_cons_zero, List.set_cons_succ]
      refine l_take 87 rfl rfl (er_load3 _ rfl W.heap.size 19 _ rfl (mac_cells HS.out.mac).2.2.2) ?_
      simp only [Act.put, List.setIfInBounds_toArray, List.set_cons_zero, List.set_cons_succ]
      refine l_take 88 rfl rfl (er_mv _ rfl (.int .i64 most) rfl) ?_
      simp only [Act.put, List.setIfInBounds_toArray, List.set_cons_zero, List.set_cons_succ]
      refine l_call 89 rfl rfl (er_call_ref_Run _ _ _ _ _ _ _ rfl) (CR.out _ HS.out) ?_
      rintro ex w7 ⟨u, rfl, ow7, b7⟩
      obtain ⟨a14, c14, rfl⟩ := owns_shp ow7
      refine ⟨_, rfl, ?_⟩
      simp only [Act.put, List.setIfInBounds_toArray, List.set_cons_zero, List.set_cons_succ]
      refine l_take 77 rfl rfl (er_mv _ rfl (.tuple #[E.v, .slice a14 mn c14, .int .i64 k]) rfl) ?_
      simp only [Act.put, List.setIfInBounds_toArray, List.set_cons_zero, List.set_cons_succ]
      refine l_take 90 rfl rfl (er_ext0 _ rfl _ _ _ rfl) ?_
      simp only [Act.put, List.setIfInBounds_toArray, List.set_cons_zero, List.set_cons_succ]
      refine l_take 91 rfl rfl (er_ext1 _ rfl _ _ _ rfl) ?_
      simp only [Act.put, List.setIfInBounds_toArray, List.set_cons_zero, List.set_cons_succ]
      refine l_take 92 rfl rfl (er_ext2 _ rfl _ _ _ rfl) ?_
      simp only [Act.put, List.setIfInBounds_toArray, List.set_cons_zero, List.set_cons_succ]
      refine l_make 13 rfl rfl (er_alloc27 rfl) ?_
      simp only [Act.put, List.setIfInBounds_toArray, List.set_cons_zero, List.set_cons_succ]
      refine l_turn rfl rfl (er_store27 _ _ rfl E w7.heap.size _ rfl rfl (heap_alloc_last _ _) rfl) ?_
      rw [new_store]
      refine l_take 14 rfl rfl (er_as _ rfl (.slice a14 mn c14) rfl) ?_
      simp only [Act.put, List.setIfInBounds_toArray, List.set_cons_zero, List.set_cons_succ]
      refine l_take 15 rfl rfl (er_as _ rfl (.int .i64 k) rfl) ?_
      simp only [Act.put, List.setIfInBounds_toArray, List.set_cons_zero, List.set_cons_succ]
      have b8 : Below w6.heap.size w6 (w7.alloc (.cells (effC E.R E.pc E.st E.ad E.va E.fa E.ca) 27)) := b7.alloc b7.size _
      have HE13 : Hid ((w7.alloc (.cells (effC E.R E.pc E.st E.ad E.va E.fa E.ca) 27)).heap[w7.heap.size]? = some (.cells (effC E.R E.pc E.st E.ad E.va E.fa E.ca) 27)) := heap_alloc_last _ _
      have HE7 : Hid ((w7.alloc (.cells (effC E.R E.pc E.st E.ad E.va E.fa E.ca) 27)).heap[q7]? = some (.cells (effC E.R E.pc E.st E.ad E.va E.fa E.ca) 27)) := (b8.block _ (heap_lt HB6.out.1)).trans HB6.out.1
      have o14 : (w7.alloc (.cells (effC E.R E.pc E.st E.ad E.va E.fa E.ca) 27)).ownsRow w6.heap.size 2 1 (.slice a14 mn c14) mn (z.map iv) := ((Kept.refl No w7).alloc _).owns ow7 (fun _ _ h => h)
      have HF11 : Hid (∀ b, (Value.slice a11 mn c11).ownBlock = some b → w5.heap.size ≤ b) := (fun b hb => (HB6.out.2.2.lt b hb).1)
      have HF14 : Hid (∀ b, (Value.slice a14 mn c14).ownBlock = some b → w6.heap.size ≤ b) := (fun b hb => (o14.lt b hb).1)
      generalize hu8 : Value.slice a8 mn c8 = u8 at *
      generalize hu11 : Value.slice a11 mn c11 = u11 at *
      generalize hu14 : Value.slice a14 mn c14 = u14 at *
      have RV : Hid (Rv W (w7.alloc (.cells (effC E.R E.pc E.st E.ad E.va E.fa E.ca) 27)) (.slice p n cc) (.slice m mn mc) fx R pc g cap n gm capm mn (xs ++ mkI 64) (ms ++ mk7 64) u8 u11 u14 z) := ⟨HS.out.grow b8, owns0 (own_below HB6.out.2.1 b8), owns0 (own_below HB6.out.2.2 b8), owns0 o14⟩
      clear HB6 o14 b8 b7 ow7 HS
      generalize w7.alloc (.cells (effC E.R E.pc E.st E.ad E.va E.fa E.ca) 27) = w8 at RV HE13 HE7 ⊢
      generalize w7.heap.size = q13 at HE13 ⊢
      subst hu8 hu11 hu14
      go_upto_region 8 with fail
      go_cut [128] (fun v wx => v = .bool false ∧ Rv W wx (.slice p n cc) (.slice m mn mc) fx R pc g cap n gm capm mn (xs ++ mkI 64) (ms ++ mk7 64) (.slice a8 mn c8) (.slice a11 mn c11) (.slice a14 mn c14) z)
      case first =>
        as_aux_lemma =>
          refine wp_region_lit ?_
          try simp only [Act.put, List.setIfInBounds_toArray, List.set_cons_zero, List.set_cons_succ]
          refine l_take 93 rfl rfl (er_load27 _ rfl E q7 rfl HE7.out) ?_
          simp only [Act.put, List.setIfInBounds_toArray, List.set_cons_zero, List.set_cons_succ]
          refine l_take 94 rfl rfl (er_load27 _ rfl E q13 rfl HE13.out) ?_
          simp only [Act.put, List.setIfInBounds_toArray, List.set_cons_zero, List.set_cons_succ]
          refine l_take 95 rfl rfl (er_neE _ _ _ rfl E rfl rfl) ?_
          simp only [Act.put, List.setIfInBounds_toArray, List.set_cons_zero, List.set_cons_succ]
          refine l_take 96 rfl rfl (er_mv _ rfl (.bool false) rfl) ?_
          simp only [Act.put, List.setIfInBounds_toArray, List.set_cons_zero, List.set_cons_succ]
          refine l_take 97 rfl rfl (er_mv _ rfl (.int .i64 k) rfl) ?_
          simp only [Act.put, List.setIfInBounds_toArray, List.set_cons_zero, List.set_cons_succ]
          refine l_take 98 rfl rfl (er_mv _ rfl (.int .i64 k) rfl) ?_
          simp only [Act.put, List.setIfInBounds_toArray, List.set_cons_zero, List.set_cons_succ]
          refine l_take 99 rfl rfl (er_ne3 _ _ _ rfl k rfl rfl) ?_
          simp only [Act.put, List.setIfInBounds_toArray, List.set_cons_zero, List.set_cons_succ]
          refine l_take 100 rfl rfl (er_pk _ _ _ rfl (.bool false) rfl rfl) ?_
          simp only [Act.put, List.setIfInBounds_toArray, List.set_cons_zero, List.set_cons_succ]
          refine l_take 101 rfl rfl (er_mv _ rfl (.bool false) rfl) ?_
          simp only [Act.put, List.setIfInBounds_toArray, List.set_cons_zero, List.set_cons_succ]
          clear HE7 HE13
          refine l_take 102 rfl rfl (er_mv _ rfl (.slice a8 mn c8) rfl) ?_
          simp only [Act.put, List.setIfInBounds_toArray, List.set_cons_zero, List.set_cons_succ]
          refine l_take 103 rfl rfl (er_mv _ rfl (.slice a14 mn c14) rfl) ?_
          simp only [Act.put, List.setIfInBounds_toArray, List.set_cons_zero, List.set_cons_succ]
          have cSW := same_any _ _ _ _ _ _ _ _ _ _ w8 (zrow RV.out.o8) (zrow RV.out.o14)
          rw [decide_eq_true rfl] at cSW
          refine l_call 104 rfl rfl (er_call_bulkheadlaw06_sameWords _ _ _ rfl) cSW ?_
          rintro ex wA ⟨rfl, kq, hwq⟩
          refine ⟨_, rfl, ?_⟩
          simp only [Act.put, List.setIfInBounds_toArray, List.set_cons_zero, List.set_cons_succ]
          have bq : Below w8.heap.size w8 wA := by rw [hwq]; exact below_drewN w8 kq
          have RV : Hid (Rv W wA (.slice p n cc) (.slice m mn mc) fx R pc g cap n gm capm mn (xs ++ mkI 64) (ms ++ mk7 64) (.slice a8 mn c8) (.slice a11 mn c11) (.slice a14 mn c14) z) := RV.out.grow bq
          clear cSW hwq bq
          refine l_take 105 rfl rfl (er_nt _ rfl rfl) ?_
          simp only [Act.put, List.setIfInBounds_toArray, List.set_cons_zero, List.set_cons_succ]
          refine l_take 106 rfl rfl (er_pk _ _ _ rfl (.bool false) rfl rfl) ?_
          simp only [Act.put, List.setIfInBounds_toArray, List.set_cons_zero, List.set_cons_succ]
          refine l_take 107 rfl rfl (er_mv _ rfl (.bool false) rfl) ?_
          simp only [Act.put, List.setIfInBounds_toArray, List.set_cons_zero, List.set_cons_succ]
          refine l_take 108 rfl rfl (er_mv _ rfl (.slice a11 mn c11) rfl) ?_
          simp only [Act.put, List.setIfInBounds_toArray, List.set_cons_zero, List.set_cons_succ]
          refine l_take 109 rfl rfl (er_mv _ rfl (.slice a14 mn c14) rfl) ?_
          simp only [Act.put, List.setIfInBounds_toArray, List.set_cons_zero, List.set_cons_succ]
          have cSW := same_any _ _ _ _ _ _ _ _ _ _ wA (zrow RV.out.o11) (zrow RV.out.o14)
          rw [decide_eq_true rfl] at cSW
          refine l_call 110 rfl rfl (er_call_bulkheadlaw06_sameWords _ _ _ rfl) cSW ?_
          rintro ex wB ⟨rfl, kq, hwq⟩
          refine ⟨_, rfl, ?_⟩
          simp only [Act.put, List.setIfInBounds_toArray, List.set_cons_zero, List.set_cons_succ]
          have bq : Below wA.heap.size wA wB := by rw [hwq]; exact below_drewN wA kq
          have RV : Hid (Rv W wB (.slice p n cc) (.slice m mn mc) fx R pc g cap n gm capm mn (xs ++ mkI 64) (ms ++ mk7 64) (.slice a8 mn c8) (.slice a11 mn c11) (.slice a14 mn c14) z) := RV.out.grow bq
          clear cSW hwq bq
          refine l_take 111 rfl rfl (er_nt _ rfl rfl) ?_
          simp only [Act.put, List.setIfInBounds_toArray, List.set_cons_zero, List.set_cons_succ]
          refine l_take 112 rfl rfl (er_pk _ _ _ rfl (.bool false) rfl rfl) ?_
          simp only [Act.put, List.setIfInBounds_toArray, List.set_cons_zero, List.set_cons_succ]
          refine l_take 113 rfl rfl (er_mv _ rfl (.bool false) rfl) ?_
          simp only [Act.put, List.setIfInBounds_toArray, List.set_cons_zero, List.set_cons_succ]
          refine l_take 114 rfl rfl (er_mv _ rfl (.slice (some ⟨gm, 0, none⟩) (mn + 64) capm) rfl) ?_
          simp only [Act.put, List.setIfInBounds_toArray, List.set_cons_zero, List.set_cons_succ]
          refine l_take 115 rfl rfl (er_f36_1 _ rfl W.heap.size rfl) ?_
          simp only [Act.put, List.setIfInBounds_toArray, List.set_cons_zero, List.set_cons_succ]
          refine l_take 116 rfl rfl (er_load34 _ rfl W.heap.size 1 _ rfl (mac_cells RV.out.sp.mac).2.1) ?_
          simp only [Act.put, List.setIfInBounds_toArray, List.set_cons_zero, List.set_cons_succ]
          refine l_call 117 rfl rfl (er_call_bulkheadlaw06_words _ _ rfl) (words_any G m mn mc ms wB (HZ.out.kept (Kept.of_below (F := No) RV.out.sp.bel) (fun _ _ h => h)) hmn) ?_
          rintro ex wC ⟨g2, c2, rfl, ow, bq⟩
          refine ⟨_, rfl, ?_⟩
          simp only [Act.put, List.setIfInBounds_toArray, List.set_cons_zero, List.set_cons_succ]
          have RV : Hid (Rv W wC (.slice p n cc) (.slice m mn mc) fx R pc g cap n gm capm mn (xs ++ mkI 64) (ms ++ mk7 64) (.slice a8 mn c8) (.slice a11 mn c11) (.slice a14 mn c14) z) := RV.out.grow bq
          clear bq
          have cSW := same_any _ _ _ _ _ _ _ _ _ _ wC (RV.out.sp.zs64) (zs_of ow)
          rw [decide_eq_true rfl] at cSW
          refine l_call 118 rfl rfl (er_call_bulkheadlaw06_sameWords _ _ _ rfl) cSW ?_
          rintro ex wD ⟨rfl, kq, hwq⟩
          refine ⟨_, rfl, ?_⟩
          simp only [Act.put, List.setIfInBounds_toArray, List.set_cons_zero, List.set_cons_succ]
          have bq : Below wC.heap.size wC wD := by rw [hwq]; exact below_drewN wC kq
          clear ow
          have RV : Hid (Rv W wD (.slice p n cc) (.slice m mn mc) fx R pc g cap n gm capm mn (xs ++ mkI 64) (ms ++ mk7 64) (.slice a8 mn c8) (.slice a11 mn c11) (.slice a14 mn c14) z) := RV.out.grow bq
          clear cSW hwq bq
          refine l_take 119 rfl rfl (er_nt _ rfl rfl) ?_
          simp only [Act.put, List.setIfInBounds_toArray, List.set_cons_zero, List.set_cons_succ]
          refine l_take 120 rfl rfl (er_pk _ _ _ rfl (.bool false) rfl rfl) ?_
          simp only [Act.put, List.setIfInBounds_toArray, List.set_cons_zero, List.set_cons_succ]
          refine l_take 121 rfl rfl (er_mv _ rfl (.bool false) rfl) ?_
          simp only [Act.put, List.setIfInBounds_toArray, List.set_cons_zero, List.set_cons_succ]
          refine l_take 122 rfl rfl (er_mv _ rfl (.slice (some ⟨g, 0, none⟩) (n + 64) cap) rfl) ?_
          simp only [Act.put, List.setIfInBounds_toArray, List.set_cons_zero, List.set_cons_succ]
          refine l_take 123 rfl rfl (er_f36_0 _ rfl W.heap.size rfl) ?_
          simp only [Act.put, List.setIfInBounds_toArray, List.set_cons_zero, List.set_cons_succ]
          refine l_take 124 rfl rfl (er_load31 _ rfl W.heap.size 0 _ rfl (mac_cells RV.out.sp.mac).1) ?_
          simp only [Act.put, List.setIfInBounds_toArray, List.set_cons_zero, List.set_cons_succ]
          refine l_call 125 rfl rfl (er_call_bulkheadlaw06_instrs _ _ rfl) (instrs_any F p n cc xs wD (HC.out.kept (Kept.of_below (F := No) RV.out.sp.bel) (fun _ _ h => h)) hn) ?_
          rintro ex wE ⟨g3, c3, rfl, ow, bq⟩
          refine ⟨_, rfl, ?_⟩
          simp only [Act.put, List.setIfInBounds_toArray, List.set_cons_zero, List.set_cons_succ]
          have RV : Hid (Rv W wE (.slice p n cc) (.slice m mn mc) fx R pc g cap n gm capm mn (xs ++ mkI 64) (ms ++ mk7 64) (.slice a8 mn c8) (.slice a11 mn c11) (.slice a14 mn c14) z) := RV.out.grow bq
          clear bq
          have cSC := sameCode_eq _ _ _ _ _ _ _ _ wE RV.out.sp.cs64 (cs_of ow RV.out.sp.ok RV.out.sp.ll)
          refine l_call 126 rfl rfl (er_call_bulkheadlaw06_sameCode _ _ _ rfl) cSC ?_
          rintro ex wF ⟨rfl, kq, hwq⟩
          refine ⟨_, rfl, ?_⟩
          simp only [Act.put, List.setIfInBounds_toArray, List.set_cons_zero, List.set_cons_succ]
          have bq : Below wE.heap.size wE wF := by rw [hwq]; exact below_drewN wE kq
          clear hwq ow cSC
          have RV : Hid (Rv W wF (.slice p n cc) (.slice m mn mc) fx R pc g cap n gm capm mn (xs ++ mkI 64) (ms ++ mk7 64) (.slice a8 mn c8) (.slice a11 mn c11) (.slice a14 mn c14) z) := RV.out.grow bq
          clear bq
          refine l_take 127 rfl rfl (er_nt _ rfl rfl) ?_
          simp only [Act.put, List.setIfInBounds_toArray, List.set_cons_zero, List.set_cons_succ]
          refine l_take 128 rfl rfl (er_pk _ _ _ rfl (.bool false) rfl rfl) ?_
          simp only [Act.put, List.setIfInBounds_toArray, List.set_cons_zero, List.set_cons_succ]
          try go_wp2
          go_meet
          case rel => exact ⟨rfl, RV.out⟩
      case rest =>
        obtain ⟨rfl, hrv⟩ := hcut
        clear RV
        rename World => wF
        have RV : Hid (Rv W wF (.slice p n cc) (.slice m mn mc) fx R pc g cap n gm capm mn (xs ++ mkI 64) (ms ++ mk7 64) (.slice a8 mn c8) (.slice a11 mn c11) (.slice a14 mn c14) z) := hrv
        clear hrv
        have RX : Hid (Rx W wF (.slice p n cc) (.slice m mn mc) fx R pc g cap n gm capm mn (xs ++ mkI 64) (ms ++ mk7 64) (.slice a8 mn c8) (.slice a11 mn c11) (.slice a14 mn c14) z mn) := (by
          have hg := RV.out.sp.lts
          refine ⟨RV.out.sp, RV.out.o11, RV.out.o14, ⟨z, RV.out.o8⟩, ?_⟩
          intro b hb
          have h1 := HF8.out b hb
          refine ⟨by omega, by omega, by omega, fun e => ?_, fun e => ?_⟩
          · have := HF11.out b e; omega
          · have := HF14.out b e; omega)
        have hc8 : mn ≤ c8 ∧ c8 ≤ 9223372036854775807 := ⟨(zrow RV.out.o8).cap, (zrow RV.out.o8).max⟩
        obtain ⟨hc8a, hc8b⟩ := hc8
        clear RV HF8 HF11 HF14 hlt3 h56
        go_wp2
        go_loopw [16] (fun d wr => ∃ j : Nat, j ≤ mn ∧ d = .int .i64 j ∧ Rx W wr (.slice p n cc) (.slice m mn mc) fx R pc g cap n gm capm mn (xs ++ mkI 64) (ms ++ mk7 64) (.slice a8 mn c8) (.slice a11 mn c11) (.slice a14 mn c14) z mn) (fun d _ => mn - (intOf d).toNat)
        case atStart => exact ⟨0, Nat.zero_le _, rfl, RX.out⟩
        case round =>
          obtain ⟨j, hj, rfl, hrx⟩ := hrel
          clear RX
          have RX : Hid (Rx W wr (.slice p n cc) (.slice m mn mc) fx R pc g cap n gm capm mn (xs ++ mkI 64) (ms ++ mk7 64) (.slice a8 mn c8) (.slice a11 mn c11) (.slice a14 mn c14) z mn) := hrx
          clear hrx
          by_cases hlt : j < mn
          · obtain ⟨zs, how⟩ := RX.out.own
            have hzl : zs.length = mn := by have := how.1; simpa using this
            rcases owns_cells how with ⟨_, h0⟩ | ⟨g8, cap8, hv8, _⟩
            · omega
            injection hv8 with h1 _ _
            subst h1
            have MM := Mm.of_owns (xs := zs) (by rw [hzl]; exact how)
            have hcd := MM.at_ (g := g8) rfl (i := j) (by omega)
            unfold iv at hcd
            have hfd := MM.fz (g := g8) rfl j
            have ow2 := (MM.set_ (g := g8) rfl (i := j) (by omega) (-9)).owns
            rw [List.length_set, hzl] at ow2
            have RX2 : Hid (Rx W (wr.setCell ⟨g8, j, none⟩ (.int .i64 (-9))) (.slice p n cc) (.slice m mn mc) fx R pc g cap n gm capm mn (xs ++ mkI 64) (ms ++ mk7 64) (.slice (some ⟨g8, 0, none⟩) mn c8) (.slice a11 mn c11) (.slice a14 mn c14) z mn) := RX.out.turned (Kept.setCell (F := fun b => (Value.slice (some ⟨g8, 0, none⟩) mn c8).ownBlock = some b) (p := ⟨g8, j, none⟩) (Kept.refl _ wr) (.inl rfl) _) ⟨_, ow2⟩ (.inl rfl)
            clear how hzl MM ow2
            go_wp2
            go_roundw
            case rel => exact ⟨j + 1, by omega, by go_num, RX2.out⟩
            case measure => simp [intOf]; omega
          · clear hj
            go_wp2
            go_loopw [17, 18] (fun l d wr => ∃ j : Nat, j ≤ 64 ∧ d = .int .i64 j ∧ Rx W wr (.slice p n cc) (.slice m mn mc) fx R pc g cap n gm capm mn (xs ++ mkI 64) (ms ++ mk7 64) l (.slice a11 mn c11) (.slice a14 mn c14) z (mn + j)) (fun _ d _ => 64 - (intOf d).toNat)
            case atStart => exact ⟨0, by omega, rfl, RX.out⟩
            case round =>
              obtain ⟨j, hj, rfl, hrx⟩ := hrel
              clear RX hlt
              have RX : Hid (Rx W wr (.slice p n cc) (.slice m mn mc) fx R pc g cap n gm capm mn (xs ++ mkI 64) (ms ++ mk7 64) u17 (.slice a11 mn c11) (.slice a14 mn c14) z (mn + j)) := hrx
              clear hrx
              by_cases hlt : j < 64
              · obtain ⟨zs, how⟩ := RX.out.own
                have HOW : Hid (wr.ownsRow 0 2 1 u17 (mn + j) (zs.map iv)) := how
                clear how
                have RXA : Hid (Rx W (wr.alloc (.cells #[.int .i64 (-8)] 2)) (.slice p n cc) (.slice m mn mc) fx R pc g cap n gm capm mn (xs ++ mkI 64) (ms ++ mk7 64) u17 (.slice a11 mn c11) (.slice a14 mn c14) z (mn + j)) := RX.out.turned ((Kept.refl _ wr).alloc _) ⟨zs, HOW.out.alloc _⟩ (.inl rfl)
                go_wp2_with (at_builtin; refine wpList_append_at rfl _ _ rfl _ _ zs rfl (HOW.out.alloc _) ⟨wr.heap.size, 0, none⟩ 1 (-8) rfl (cell_one_new _ _ _) (by omega) ?_; intro v1 w1 own1 kp1 hb1)
                have RX2 : Hid (Rx W w1 (.slice p n cc) (.slice m mn mc) fx R pc g cap n gm capm mn (xs ++ mkI 64) (ms ++ mk7 64) v1 (.slice a11 mn c11) (.slice a14 mn c14) z (mn + (j + 1))) := RXA.out.turned kp1.out own1.out hb1.out
                clear own1 kp1 hb1 RXA HOW
                go_wp2
                go_roundw
                case rel => exact ⟨j + 1, by omega, by go_num, RX2.out⟩
                case measure => simp [intOf]; omega
              · have hj64 : j = 64 := by omega
                subst hj64
                obtain ⟨zl, hol⟩ := RX.out.own
                obtain ⟨al, cl, rfl⟩ := owns_shp hol
                clear hol hlt hj
                go_upto_region 19 with fail
                go_cut [166] (fun v wx => v = .bool false ∧ Sp W wx (.slice p n cc) (.slice m mn mc) fx R pc g cap n gm capm mn (xs ++ mkI 64) (ms ++ mk7 64))
                case first =>
                  as_aux_lemma =>
                    refine wp_region_lit ?_
                    try simp only [Act.put, List.setIfInBounds_toArray, List.set_cons_zero, List.set_cons_succ]
                    refine l_take 146 rfl rfl (er_mv _ rfl (.slice a11 mn c11) rfl) ?_
                    simp only [Act.put, List.setIfInBounds_toArray, List.set_cons_zero, List.set_cons_succ]
                    refine l_take 147 rfl rfl (er_mv _ rfl (.slice a14 mn c14) rfl) ?_
                    simp only [Act.put, List.setIfInBounds_toArray, List.set_cons_zero, List.set_cons_succ]
                    have cSW := same_any _ _ _ _ _ _ _ _ _ _ wr (zrow RX.out.o11) (zrow RX.out.o14)
                    rw [decide_eq_true rfl] at cSW
                    refine l_call 148 rfl rfl (er_call_bulkheadlaw06_sameWords _ _ _ rfl) cSW ?_
                    rintro ex wG ⟨rfl, kq, hwq⟩
                    refine ⟨_, rfl, ?_⟩
                    simp only [Act.put, List.setIfInBounds_toArray, List.set_cons_zero, List.set_cons_succ]
                    have bq : Below wr.heap.size wr wG := by rw [hwq]; exact below_drewN wr kq
                    have HS : Hid (Sp W wG (.slice p n cc) (.slice m mn mc) fx R pc g cap n gm capm mn (xs ++ mkI 64) (ms ++ mk7 64)) := RX.out.sp.grow bq
                    clear cSW hwq bq RX
                    refine l_take 149 rfl rfl (er_nt _ rfl rfl) ?_
                    simp only [Act.put, List.setIfInBounds_toArray, List.set_cons_zero, List.set_cons_succ]
                    refine l_take 150 rfl rfl (er_mv _ rfl (.bool false) rfl) ?_
                    simp only [Act.put, List.setIfInBounds_toArray, List.set_cons_zero, List.set_cons_succ]
                    refine l_take 151 rfl rfl (er_mv _ rfl (.slice (some ⟨gm, 0, none⟩) (mn + 64) capm) rfl) ?_
                    simp only [Act.put, List.setIfInBounds_toArray, List.set_cons_zero, List.set_cons_succ]
                    refine l_take 152 rfl rfl (er_f36_1 _ rfl W.heap.size rfl) ?_
                    simp only [Act.put, List.setIfInBounds_toArray, List.set_cons_zero, List.set_cons_succ]
                    refine l_take 153 rfl rfl (er_load34 _ rfl W.heap.size 1 _ rfl (mac_cells HS.out.mac).2.1) ?_
                    simp only [Act.put, List.setIfInBounds_toArray, List.set_cons_zero, List.set_cons_succ]
                    refine l_call 154 rfl rfl (er_call_bulkheadlaw06_words _ _ rfl) (words_any G m mn mc ms wG (HZ.out.kept (Kept.of_below (F := No) HS.out.bel) (fun _ _ h => h)) hmn) ?_
                    rintro ex wH ⟨g2, c2, rfl, ow, bq⟩
                    refine ⟨_, rfl, ?_⟩
                    simp only [Act.put, List.setIfInBounds_toArray, List.set_cons_zero, List.set_cons_succ]
                    have HS : Hid (Sp W wH (.slice p n cc) (.slice m mn mc) fx R pc g cap n gm capm mn (xs ++ mkI 64) (ms ++ mk7 64)) := HS.out.grow bq
                    clear bq
                    have cSW := same_any _ _ _ _ _ _ _ _ _ _ wH (HS.out.zs64) (zs_of ow)
                    rw [decide_eq_true rfl] at cSW
                    refine l_call 155 rfl rfl (er_call_bulkheadlaw06_sameWords _ _ _ rfl) cSW ?_
                    rintro ex wI ⟨rfl, kq, hwq⟩
                    refine ⟨_, rfl, ?_⟩
                    simp only [Act.put, List.setIfInBounds_toArray, List.set_cons_zero, List.set_cons_succ]
                    have bq : Below wH.heap.size wH wI := by rw [hwq]; exact below_drewN wH kq
                    have HS : Hid (Sp W wI (.slice p n cc) (.slice m mn mc) fx R pc g cap n gm capm mn (xs ++ mkI 64) (ms ++ mk7 64)) := HS.out.grow bq
                    clear cSW hwq bq ow
                    refine l_take 156 rfl rfl (er_nt _ rfl rfl) ?_
                    simp only [Act.put, List.setIfInBounds_toArray, List.set_cons_zero, List.set_cons_succ]
                    refine l_take 157 rfl rfl (er_pk _ _ _ rfl (.bool false) rfl rfl) ?_
                    simp only [Act.put, List.setIfInBounds_toArray, List.set_cons_zero, List.set_cons_succ]
                    refine l_take 158 rfl rfl (er_mv _ rfl (.bool false) rfl) ?_
                    simp only [Act.put, List.setIfInBounds_toArray, List.set_cons_zero, List.set_cons_succ]
                    refine l_take 159 rfl rfl (er_mv _ rfl (.slice al (mn + 64) cl) rfl) ?_
                    simp only [Act.put, List.setIfInBounds_toArray, List.set_cons_zero, List.set_cons_succ]
                    refine l_take 160 rfl rfl (er_len34 _ rfl rfl al (mn + 64) cl rfl) ?_
                    simp only [Act.put, List.setIfInBounds_toArray, List.set_cons_zero, List.set_cons_succ]
                    refine l_take 161 rfl rfl (er_f36_1 _ rfl W.heap.size rfl) ?_
                    simp only [Act.put, List.setIfInBounds_toArray, List.set_cons_zero, List.set_cons_succ]
                    refine l_take 162 rfl rfl (er_load34 _ rfl W.heap.size 1 _ rfl (mac_cells HS.out.mac).2.1) ?_
                    simp only [Act.put, List.setIfInBounds_toArray, List.set_cons_zero, List.set_cons_succ]
                    refine l_take 163 rfl rfl (er_len34 _ rfl rfl m mn mc rfl) ?_
                    simp only [Act.put, List.setIfInBounds_toArray, List.set_cons_zero, List.set_cons_succ]
                    refine l_take 164 rfl rfl (er_add3 _ _ _ rfl (mn : Int) 64 ((mn + 64 : Nat) : Int) rfl rfl (by unfold wrap64; omega)) ?_
                    simp only [Act.put, List.setIfInBounds_toArray, List.set_cons_zero, List.set_cons_succ]
                    refine l_take 165 rfl rfl (er_ne3 _ _ _ rfl ((mn + 64 : Nat) : Int) rfl rfl) ?_
                    simp only [Act.put, List.setIfInBounds_toArray, List.set_cons_zero, List.set_cons_succ]
                    refine l_take 166 rfl rfl (er_pk _ _ _ rfl (.bool false) rfl rfl) ?_
                    simp only [Act.put, List.setIfInBounds_toArray, List.set_cons_zero, List.set_cons_succ]
                    try go_wp2
                    go_meet
                    case rel => exact ⟨rfl, HS.out⟩
                case rest =>
                  obtain ⟨rfl, hsp⟩ := hcut
                  rename World => wI
                  clear RX
                  have HS : Hid (Sp W wI (.slice p n cc) (.slice m mn mc) fx R pc g cap n gm capm mn (xs ++ mkI 64) (ms ++ mk7 64)) := hsp
                  clear hsp
                  have HK6 : Hid (∀ z ∈ (ms ++ mk7 64), I6 z) := (fun y hy => by
                    rcases List.mem_append.1 hy with h | h
                    · exact HM6.out y h
                    · unfold mk7 at h; rw [List.eq_of_mem_replicate h]; unfold I6; omega)
                  go_upto_region 21 with fail
                  try simp only [Act.put, List.setIfInBounds_toArray, List.set_cons_zero, List.set_cons_succ]
                  refine wp_region_held_drew (S := fun w' => ∃ L K, Sp W w' (.slice p n cc) (.slice m mn mc) fx R pc g cap n gm capm mn L K ∧ ∀ z ∈ K, I6 z) (by kernel_rfl) ⟨_, _, HS.out.drew, HK6.out⟩ (fun hS => ?_)
                  refine d_take 0 167 rfl rfl (by kernel_rfl) (by kernel_rfl) (by kernel_rfl) (fun _ _ _ h => h) rfl (fun w' hw' => er_mv _ rfl (.slice (some ⟨g, 0, none⟩) (n + 64) cap) rfl) hS ?_
                  simp only [Act.put, List.setIfInBounds_toArray, List.set_cons_zero, List.set_cons_succ]
                  refine d_take 1 168 rfl rfl (by kernel_rfl) (by kernel_rfl) (by kernel_rfl) (fun _ _ _ h => h) rfl (fun w' hw' => er_f36_0 _ rfl W.heap.size rfl) hS ?_
                  simp only [Act.put, List.setIfInBounds_toArray, List.set_cons_zero, List.set_cons_succ]
                  refine d_take 2 169 rfl rfl (by kernel_rfl) (by kernel_rfl) (by kernel_rfl) (fun _ _ _ h => h) rfl (fun w' hw' => er_load31 _ rfl W.heap.size 0 _ rfl (mac_cells (sx6_mac hw')).1) hS ?_
                  simp only [Act.put, List.setIfInBounds_toArray, List.set_cons_zero, List.set_cons_succ]
                  refine d_take 3 170 rfl rfl (by kernel_rfl) (by kernel_rfl) (by kernel_rfl) (fun _ _ _ h => h) rfl (fun w' hw' => er_len31 _ rfl rfl p n cc rfl) hS ?_
                  simp only [Act.put, List.setIfInBounds_toArray, List.set_cons_zero, List.set_cons_succ]
                  refine d_take 4 171 rfl rfl (by kernel_rfl) (by kernel_rfl) (by kernel_rfl) (fun _ _ _ h => h) rfl (fun w' hw' => er_slice31 _ _ rfl g (n + 64) cap n (by omega) hcap hcmx rfl rfl) hS ?_
                  simp only [Act.put, List.setIfInBounds_toArray, List.set_cons_zero, List.set_cons_succ]
                  refine d_take 5 172 rfl rfl (by kernel_rfl) (by kernel_rfl) (by kernel_rfl) (fun _ _ _ h => h) rfl (fun w' hw' => er_mv _ rfl (.slice (some ⟨gm, 0, none⟩) (mn + 64) capm) rfl) hS ?_
                  simp only [Act.put, List.setIfInBounds_toArray, List.set_cons_zero, List.set_cons_succ]
                  refine d_take 6 173 rfl rfl (by kernel_rfl) (by kernel_rfl) (by kernel_rfl) (fun _ _ _ h => h) rfl (fun w' hw' => er_f36_1 _ rfl W.heap.size rfl) hS ?_
                  simp only [Act.put, List.setIfInBounds_toArray, List.set_cons_zero, List.set_cons_succ]
                  refine d_take 7 174 rfl rfl (by kernel_rfl) (by kernel_rfl) (by kernel_rfl) (fun _ _ _ h => h) rfl (fun w' hw' => er_load34 _ rfl W.heap.size 1 _ rfl (mac_cells (sx6_mac hw')).2.1) hS ?_
                  simp only [Act.put, List.setIfInBounds_toArray, List.set_cons_zero, List.set_cons_succ]
                  refine d_take 8 175 rfl rfl (by kernel_rfl) (by kernel_rfl) (by kernel_rfl) (fun _ _ _ h => h) rfl (fun w' hw' => er_len34 _ rfl rfl m mn mc rfl) hS ?_
                  simp only [Act.put, List.setIfInBounds_toArray, List.set_cons_zero, List.set_cons_succ]
                  refine d_take 9 176 rfl rfl (by kernel_rfl) (by kernel_rfl) (by kernel_rfl) (fun _ _ _ h => h) rfl (fun w' hw' => er_slice34 _ _ rfl gm (mn + 64) capm mn (by omega) hcapm hcmxm rfl rfl) hS ?_
                  simp only [Act.put, List.setIfInBounds_toArray, List.set_cons_zero, List.set_cons_succ]
                  obtain ⟨L1, K1, hS1, h61⟩ := hS
                  have hlt := hS1.lts
                  refine d_call 10 177 (v := .tuple #[]) (by kernel_rfl) rfl rfl rfl (er_call_bulkheadlaw06_turned _ _ _ rfl) ((turned6_any g cap (n + 64) n gm capm (mn + 64) mn (by omega) (by omega) hcap hcapm hcmx hcmxm _ hlt.2.1 hlt.2.2 hS1.ne (hS1.tn6 h61)).mono (by rintro ex w9 ⟨rfl, t9⟩; exact ⟨rfl, hS1.turn6 t9⟩)) (fun w9 hS9 => ?_)
                  simp only [Act.put, List.setIfInBounds_toArray, List.set_cons_zero, List.set_cons_succ]
                  refine wpAnyH_done (by kernel_rfl) ?_ _
                  clear HS hS1 CS CR hlt h61 HK6
                  obtain ⟨L, K, hS9, h69⟩ := hS9
                  have HS : Hid (Sp W w9 (.slice p n cc) (.slice m mn mc) fx R pc g cap n gm capm mn L K) := hS9
                  have HK6 : Hid (∀ z ∈ K.take mn, I6 z) := (fun y hy => h69 y (List.mem_of_mem_take hy))
                  clear hS9 h69
                  obtain ⟨r, hr⟩ : ∃ r, r = runN (L.take n) fx most.toNat (⟨R, pc, false, 0, 0, 0, 0⟩, K.take mn) := ⟨_, rfl⟩
                  have CS : Hid (∀ w', Sp W w' (.slice p n cc) (.slice m mn mc) fx R pc g cap n gm capm mn L K → Calls Tryd.prog 17 #[.slice (some ⟨g, 0, none⟩) n cap, .slice (some ⟨gm, 0, none⟩) mn capm, .int .i64 fx, regV R, .int .i64 pc, .int .i64 most] w' fun ex w'' => ∃ v, ex = .returned (.tuple #[r.1.1.v, v, .int .i64 r.2]) ∧ w''.ownsRow w'.heap.size 2 1 v mn (r.1.2.map iv) ∧ Below w'.heap.size w' w'') := (fun w' h => run_own _ _ R _ _ n cap mn capm fx pc most _ _ w' h.cs h.zs (HOO.out.below h.bel HOO.out.pos) hmn hmost r hr)
                  have CR : Hid (∀ w', Sp W w' (.slice p n cc) (.slice m mn mc) fx R pc g cap n gm capm mn L K → Calls Tryd.prog 24 #[.slice (some ⟨g, 0, none⟩) n cap, .slice (some ⟨gm, 0, none⟩) mn capm, .int .i64 fx, regV R, .int .i64 pc, .int .i64 most] w' fun ex w'' => ∃ v, ex = .returned (.tuple #[r.1.1.v, v, .int .i64 r.2]) ∧ w''.ownsRow w'.heap.size 2 1 v mn (r.1.2.map iv) ∧ Below w'.heap.size w' w'') := (fun w' h => refRun_any _ _ R HR6.out _ _ n cap mn capm fx pc most _ _ w' h.cs h.zs HK6.out hmn hmost r hr)
                  clear hr
                  obtain ⟨⟨E, z⟩, k⟩ := r
                  dsimp only at CS CR
                  go_upto_region 22 with fail
                  go_cut [19, 20, 21] (fun v19 v20 v21 wx => ∃ q ua uc, v19 = .pointer (some ⟨q, 0, none⟩) ∧ v20 = .slice ua mn uc ∧ v21 = .int .i64 k ∧ Sq W w9 wx (.slice p n cc) (.slice m mn mc) fx R pc g cap n gm capm mn L K ∧ wx.heap[q]? = some (.cells (effC E.R E.pc E.st E.ad E.va E.fa E.ca) 27) ∧ wx.ownsRow w9.heap.size 2 1 (.slice ua mn uc) mn (z.map iv) ∧ w9.heap.size ≤ q)
                  case first =>
                    as_aux_lemma =>
                      try simp only [Act.put, List.setIfInBounds_toArray, List.set_cons_zero, List.set_cons_succ]
                      refine wp_region_held_drew (S := fun w' => Sq W w9 w' (.slice p n cc) (.slice m mn mc) fx R pc g cap n gm capm mn L K) (by kernel_rfl) (Sq.start HS.out) (fun hS => ?_)
                      refine d_take 0 179 rfl rfl (by kernel_rfl) (by kernel_rfl) (by kernel_rfl) (fun _ _ _ h => h) rfl (fun w' hw' => er_mv _ rfl (.slice (some ⟨g, 0, none⟩) (n + 64) cap) rfl) hS ?_
                      simp only [Act.put, List.setIfInBounds_toArray, List.set_cons_zero, List.set_cons_succ]
                      refine d_take 1 180 rfl rfl (by kernel_rfl) (by kernel_rfl) (by kernel_rfl) (fun _ _ _ h => h) rfl (fun w' hw' => er_f36_0 _ rfl W.heap.size rfl) hS ?_
                      simp only [Act.put, List.setIfInBounds_toArray, List.set_cons_zero, List.set_cons_succ]
                      refine d_take 2 181 rfl rfl (by kernel_rfl) (by kernel_rfl) (by kernel_rfl) (fun _ _ _ h => h) rfl (fun w' hw' => er_load31 _ rfl W.heap.size 0 _ rfl (mac_cells hw'.sp.mac).1) hS ?_
                      simp only [Act.put, List.setIfInBounds_toArray, List.set_cons_zero, List.set_cons_succ]
                      refine d_take 3 182 rfl rfl (by kernel_rfl) (by kernel_rfl) (by kernel_rfl) (fun _ _ _ h => h) rfl (fun w' hw' => er_len31 _ rfl rfl p n cc rfl) hS ?_
                      simp only [Act.put, List.setIfInBounds_toArray, List.set_cons_zero, List.set_cons_succ]
                      refine d_take 4 183 rfl rfl (by kernel_rfl) (by kernel_rfl) (by kernel_rfl) (fun _ _ _ h => h) rfl (fun w' hw' => er_slice31 _ _ rfl g (n + 64) cap n (by omega) hcap hcmx rfl rfl) hS ?_
                      simp only [Act.put, List.setIfInBounds_toArray, List.set_cons_zero, List.set_cons_succ]
                      refine d_take 5 184 rfl rfl (by kernel_rfl) (by kernel_rfl) (by kernel_rfl) (fun _ _ _ h => h) rfl (fun w' hw' => er_mv _ rfl (.slice (some ⟨gm, 0, none⟩) (mn + 64) capm) rfl) hS ?_
                      simp only [Act.put, List.setIfInBounds_toArray, List.set_cons_zero, List.set_cons_succ]
                      refine d_take 6 185 rfl rfl (by kernel_rfl) (by kernel_rfl) (by kernel_rfl) (fun _ _ _ h => h) rfl (fun w' hw' => er_f36_1 _ rfl W.heap.size rfl) hS ?_
                      simp only [Act.put, List.setIfInBounds_toArray, List.set_cons_zero, List.set_cons_succ]
                      refine d_take 7 186 rfl rfl (by kernel_rfl) (by kernel_rfl) (by kernel_rfl) (fun _ _ _ h => h) rfl (fun w' hw' => er_load34 _ rfl W.heap.size 1 _ rfl (mac_cells hw'.sp.mac).2.1) hS ?_
                      simp only [Act.put, List.setIfInBounds_toArray, List.set_cons_zero, List.set_cons_succ]
                      refine d_take 8 187 rfl rfl (by kernel_rfl) (by kernel_rfl) (by kernel_rfl) (fun _ _ _ h => h) rfl (fun w' hw' => er_len34 _ rfl rfl m mn mc rfl) hS ?_
                      simp only [Act.put, List.setIfInBounds_toArray, List.set_cons_zero, List.set_cons_succ]
                      refine d_take 9 188 rfl rfl (by kernel_rfl) (by kernel_rfl) (by kernel_rfl) (fun _ _ _ h => h) rfl (fun w' hw' => er_slice34 _ _ rfl gm (mn + 64) capm mn (by omega) hcapm hcmxm rfl rfl) hS ?_
                      simp only [Act.put, List.setIfInBounds_toArray, List.set_cons_zero, List.set_cons_succ]
                      refine d_take 10 189 rfl rfl (by kernel_rfl) (by kernel_rfl) (by kernel_rfl) (fun _ _ _ h => h) rfl (fun w' hw' => er_f36_2 _ rfl W.heap.size rfl) hS ?_
                      simp only [Act.put, List.setIfInBounds_toArray, List.set_cons_zero, List.set_cons_succ]
                      refine d_take 11 190 rfl rfl (by kernel_rfl) (by kernel_rfl) (by kernel_rfl) (fun _ _ _ h => h) rfl (fun w' hw' => er_load3 _ rfl W.heap.size 2 _ rfl (mac_cells hw'.sp.mac).2.2.1) hS ?_
                      simp only [Act.put, List.setIfInBounds_toArray, List.set_cons_zero, List.set_cons_succ]
                      refine d_take 12 191 rfl rfl (by kernel_rfl) (by kernel_rfl) (by kernel_rfl) (fun _ _ _ h => h) rfl (fun w' hw' => er_f36_3 _ rfl W.heap.size rfl) hS ?_
                      simp only [Act.put, List.setIfInBounds_toArray, List.set_cons_zero, List.set_cons_succ]
                      refine d_take 13 192 rfl rfl (by kernel_rfl) (by kernel_rfl) (by kernel_rfl) (fun _ _ _ h => h) rfl (fun w' hw' => er_load25 _ rfl W.heap.size 3 R rfl (range_mac hw'.sp.mac)) hS ?_
                      simp only [Act.put, List.setIfInBounds_toArray, List.set_cons_zero, List.set_cons_succ]
                      refine d_take 14 193 rfl rfl (by kernel_rfl) (by kernel_rfl) (by kernel_rfl) (fun _ _ _ h => h) rfl (fun w' hw' => er_f36_4 _ rfl W.heap.size rfl) hS ?_
                      simp only [Act.put, List.setIfInBounds_toArray, List.set_cons_zero, List.set_cons_succ]
                      refine d_take 15 194 rfl rfl (by kernel_rfl) (by kernel_rfl) (by kernel_rfl) (fun _ _ _ h => h) rfl (fun w' hw' => er_load3 _ rfl W.heap.size 19 _ rfl (mac_cells hw'.sp.mac).2.2.2) hS ?_
                      simp only [Act.put, List.setIfInBounds_toArray, List.set_cons_zero, List.set_cons_succ]
                      refine d_take 16 195 rfl rfl (by kernel_rfl) (by kernel_rfl) (by kernel_rfl) (fun _ _ _ h => h) rfl (fun w' hw' => er_mv _ rfl (.int .i64 most) rfl) hS ?_
                      simp only [Act.put, List.setIfInBounds_toArray, List.set_cons_zero, List.set_cons_succ]
                      refine d_twoN (fun v wz => ∃ ua uc, v = .tuple #[E.v, .slice ua mn uc, .int .i64 k] ∧ wz.ownsRow w9.heap.size 2 1 (.slice ua mn uc) mn (z.map iv)) 17 196 22 19 (by kernel_rfl) rfl rfl rfl rfl rfl rfl (er_call_ref_Run _ _ _ _ _ _ _ rfl) (er_alloc27 rfl) ((CR.out _ hS.sp).mono (by rintro ex w4 ⟨u, rfl, ow, b4⟩; obtain ⟨ua, uc, rfl⟩ := owns_shp ow; exact ⟨_, rfl, hS.grow b4, ua, uc, rfl, owns_mono ow hS.bel.size⟩)) (hS.alloc _) (fun vN wN hSN hTN => ?_) ?_
                      · obtain ⟨ua, uc, rfl, owN⟩ := hTN
                        simp only [Act.put, List.setIfInBounds_toArray, List.set_cons_zero, List.set_cons_succ]
                        refine d_take 18 178 rfl rfl (by kernel_rfl) (by kernel_rfl) (by kernel_rfl) (fun _ _ _ h => h) rfl (fun w' hw' => er_mv _ rfl (.tuple #[E.v, .slice ua mn uc, .int .i64 k]) rfl) hSN ?_
                        simp only [Act.put, List.setIfInBounds_toArray, List.set_cons_zero, List.set_cons_succ]
                        refine d_take 19 197 rfl rfl (by kernel_rfl) (by kernel_rfl) (by kernel_rfl) (fun _ _ _ h => h) rfl (fun w' hw' => er_ext0 _ rfl _ _ _ rfl) hSN ?_
                        simp only [Act.put, List.setIfInBounds_toArray, List.set_cons_zero, List.set_cons_succ]
                        refine d_take 20 198 rfl rfl (by kernel_rfl) (by kernel_rfl) (by kernel_rfl) (fun _ _ _ h => h) rfl (fun w' hw' => er_ext1 _ rfl _ _ _ rfl) hSN ?_
                        simp only [Act.put, List.setIfInBounds_toArray, List.set_cons_zero, List.set_cons_succ]
                        refine d_take 21 199 rfl rfl (by kernel_rfl) (by kernel_rfl) (by kernel_rfl) (fun _ _ _ h => h) rfl (fun w' hw' => er_ext2 _ rfl _ _ _ rfl) hSN ?_
                        simp only [Act.put, List.setIfInBounds_toArray, List.set_cons_zero, List.set_cons_succ]
                        refine d_make 22 19 (by kernel_rfl) rfl rfl rfl (er_alloc27 rfl) (hSN.alloc _) ?_
                        simp only [Act.put, List.setIfInBounds_toArray, List.set_cons_zero, List.set_cons_succ]
                        have hA := (hSN.alloc (.cells (effC zeroR 0 false 0 0 0 0) 27)).store (q := wN.heap.size) hSN.bel.size (effC E.R E.pc E.st E.ad E.va E.fa E.ca)
                        refine d_turn 23 (by kernel_rfl) rfl rfl rfl (er_store27 _ _ rfl E wN.heap.size _ rfl rfl (heap_alloc_last _ _) rfl) hA ?_
                        refine d_take 24 20 rfl rfl (by kernel_rfl) (by kernel_rfl) (by kernel_rfl) (fun _ _ _ h => h) rfl (fun w' hw' => er_as _ rfl (.slice ua mn uc) rfl) hA ?_
                        simp only [Act.put, List.setIfInBounds_toArray, List.set_cons_zero, List.set_cons_succ]
                        refine d_take 25 21 rfl rfl (by kernel_rfl) (by kernel_rfl) (by kernel_rfl) (fun _ _ _ h => h) rfl (fun w' hw' => er_as _ rfl (.int .i64 k) rfl) hA ?_
                        simp only [Act.put, List.setIfInBounds_toArray, List.set_cons_zero, List.set_cons_succ]
                        refine wpAnyH_done (by kernel_rfl) ?_ _
                        try go_wp2
                        go_meet
                        case rel => exact ⟨_, _, _, rfl, rfl, rfl, hA, setRow_heap _ _ _ _ _ _ (heap_alloc_last _ _), own_new owN _ _, hSN.bel.size⟩
                      · simp only [Act.put, List.setIfInBounds_toArray, List.set_cons_zero, List.set_cons_succ]
                        have hA := hS.alloc (.cells (effC zeroR 0 false 0 0 0 0) 27)
                        have hN : (w9.drew.alloc (.cells (effC zeroR 0 false 0 0 0 0) 27)).heap[w9.heap.size]? = some (.cells (effC zeroR 0 false 0 0 0 0) 27) := heap_alloc_last w9.drew _
                        refine d_callN (fun v wz => (∃ ua uc, v = .tuple #[E.v, .slice ua mn uc, .int .i64 k] ∧ wz.ownsRow (w9.heap.size + 1) 2 1 (.slice ua mn uc) mn (z.map iv)) ∧ wz.heap[w9.heap.size]? = some (.cells (effC zeroR 0 false 0 0 0 0) 27)) 17 196 (by kernel_rfl) rfl rfl rfl (er_call_ref_Run _ _ _ _ _ _ _ rfl) ((CR.out _ hA.sp).mono (by rintro ex w4 ⟨u, rfl, ow, b4⟩; obtain ⟨ua, uc, rfl⟩ := owns_shp ow; exact ⟨_, rfl, hA.grow b4, ⟨ua, uc, rfl, owns_mono ow (by rw [World.size_alloc]; exact Nat.le_refl _)⟩, (b4.block _ (heap_lt hN)).trans hN⟩)) (fun vN wN hSN hTN => ?_)
                        obtain ⟨⟨ua, uc, rfl, owN⟩, hT⟩ := hTN
                        simp only [Act.put, List.setIfInBounds_toArray, List.set_cons_zero, List.set_cons_succ]
                        refine d_take 18 178 rfl rfl (by kernel_rfl) (by kernel_rfl) (by kernel_rfl) (fun _ _ _ h => h) rfl (fun w' hw' => er_mv _ rfl (.tuple #[E.v, .slice ua mn uc, .int .i64 k]) rfl) hSN ?_
                        simp only [Act.put, List.setIfInBounds_toArray, List.set_cons_zero, List.set_cons_succ]
                        refine d_take 19 197 rfl rfl (by kernel_rfl) (by kernel_rfl) (by kernel_rfl) (fun _ _ _ h => h) rfl (fun w' hw' => er_ext0 _ rfl _ _ _ rfl) hSN ?_
                        simp only [Act.put, List.setIfInBounds_toArray, List.set_cons_zero, List.set_cons_succ]
                        refine d_take 20 198 rfl rfl (by kernel_rfl) (by kernel_rfl) (by kernel_rfl) (fun _ _ _ h => h) rfl (fun w' hw' => er_ext1 _ rfl _ _ _ rfl) hSN ?_
                        simp only [Act.put, List.setIfInBounds_toArray, List.set_cons_zero, List.set_cons_succ]
                        refine d_take 21 199 rfl rfl (by kernel_rfl) (by kernel_rfl) (by kernel_rfl) (fun _ _ _ h => h) rfl (fun w' hw' => er_ext2 _ rfl _ _ _ rfl) hSN ?_
                        simp only [Act.put, List.setIfInBounds_toArray, List.set_cons_zero, List.set_cons_succ]
                        have hB := hSN.store (q := w9.heap.size) (Nat.le_refl _) (effC E.R E.pc E.st E.ad E.va E.fa E.ca)
                        refine d_turn 23 (by kernel_rfl) rfl rfl rfl (er_store27 _ _ rfl E w9.heap.size _ rfl rfl hT rfl) hB ?_
                        refine d_take 24 20 rfl rfl (by kernel_rfl) (by kernel_rfl) (by kernel_rfl) (fun _ _ _ h => h) rfl (fun w' hw' => er_as _ rfl (.slice ua mn uc) rfl) hB ?_
                        simp only [Act.put, List.setIfInBounds_toArray, List.set_cons_zero, List.set_cons_succ]
                        refine d_take 25 21 rfl rfl (by kernel_rfl) (by kernel_rfl) (by kernel_rfl) (fun _ _ _ h => h) rfl (fun w' hw' => er_as _ rfl (.int .i64 k) rfl) hB ?_
                        simp only [Act.put, List.setIfInBounds_toArray, List.set_cons_zero, List.set_cons_succ]
                        refine wpAnyH_done (by kernel_rfl) ?_ _
                        try go_wp2
                        go_meet
                        case rel => exact ⟨_, _, _, rfl, rfl, rfl, hB, setRow_heap _ _ _ _ _ _ hT, own_row owN (Nat.lt_succ_self _) (Nat.le_succ _) _, Nat.le_refl _⟩
                  case rest =>
                    obtain ⟨q19, a20, c20, rfl, rfl, rfl, hsq, hef, hrow, _⟩ := hcut
                    rename World => wA
                    have HS : Hid (Sp W wA (.slice p n cc) (.slice m mn mc) fx R pc g cap n gm capm mn L K) := hsq.sp
                    have HE19 : Hid (wA.heap[q19]? = some (.cells (effC E.R E.pc E.st E.ad E.va E.fa E.ca) 27)) := hef
                    have HW20 : Hid (wA.ownsRow w9.heap.size 2 1 (.slice a20 mn c20) mn (z.map iv)) := hrow
                    clear hsq hef hrow CR
                    go_upto_region 23 with fail
                    go_cut [20] (fun v wx => ∃ a21 c21, v = .slice a21 mn c21 ∧ wx.ownsRow wA.heap.size 2 1 (.slice a21 mn c21) mn (z.map iv) ∧ Below wA.heap.size wA wx)
                    case first =>
                      obtain ⟨j0, hj, hw0, hw1, hw2'⟩ := info_parts infoW
                      have hz20 := zrow HW20.out
                      have hzl20 := hz20.len
                      have HZ20 : Hid (Zs (wA.alloc (.cells #[] 2)) (fun k => (Value.slice a20 mn c20).ownBlock = some k) a20 mn c20 z) := hz20.kept ((Kept.refl No wA).alloc _) (fun _ _ h => h)
                      have HL20 : Hid (z.length = mn) := hzl20
                      clear hz20 hzl20
                      cases a20 with
                      | none =>
                        have hc0 := HZ20.out.nil rfl
                        have hn0 : mn = 0 := by have := HZ20.out.cap; omega
                        have hx0 : z = [] := List.eq_nil_of_length_eq_zero (by rw [HL20.out]; exact hn0)
                        subst hc0 hn0 hx0
                        go_wp2_with (at_builtin; refine wpList_append_own_none rfl (.tmp 200) (.tmp 201) 34 rfl wA.heap.size 2 j0 1 Tryd.underlying34 hj _ _ _ rfl (own_emp wA) rfl ?_)
                        go_meet
                        case rel => exact ⟨_, _, rfl, own_emp wA, (Below.refl _ wA).alloc (Nat.le_refl _) _⟩
                      | some ad =>
                        go_wp2_with (at_builtin; refine wpList_append_own _ rfl _ _ 34 rfl wA.heap.size 2 j0 (.int .i64 0) 1 8 Tryd.underlying34 hj hw0 hw1 hw2' rfl (by decide) _ 0 [] rfl (own_emp wA) ad mn c20 (z.map iv) rfl (by rw [List.length_map, HL20.out]; omega) HZ20.out.news (iv_one _) (by unfold maxLen; omega) (by omega) (by simp) ?_; intro v7 w7 own7 grow7 hnil)
                        have hb7 : Below wA.heap.size wA w7 := ((Below.refl _ wA).alloc (Nat.le_refl _) _).grown grow7 (by simp) (fun k hk => ((own_emp wA).lt k hk).1)
                        rw [Nat.zero_add, List.nil_append] at own7
                        obtain ⟨a7, c7, rfl⟩ := owns_shp own7
                        clear grow7 hnil
                        go_wp2
                        go_meet
                        case rel => exact ⟨_, _, rfl, own7, hb7⟩
                    case rest =>
                      obtain ⟨a21, c21, rfl, hrow, hbel⟩ := hcut
                      rename World => wB
                      have HS : Hid (Sp W wB (.slice p n cc) (.slice m mn mc) fx R pc g cap n gm capm mn L K) := HS.out.grow hbel
                      have HB : Hid (wB.heap[q19]? = some (.cells (effC E.R E.pc E.st E.ad E.va E.fa E.ca) 27) ∧ wB.ownsRow wA.heap.size 2 1 (.slice a21 mn c21) mn (z.map iv)) := ⟨(hbel.block _ (heap_lt HE19.out)).trans HE19.out, hrow⟩
                      clear hrow hbel HE19 HW20
                      go_upto_region 24 with fail
                      go_cut [22, 23, 24] (fun v22 v23 v24 wx => ∃ q ua uc, v22 = .pointer (some ⟨q, 0, none⟩) ∧ v23 = .slice ua mn uc ∧ v24 = .int .i64 k ∧ Sq W wB wx (.slice p n cc) (.slice m mn mc) fx R pc g cap n gm capm mn L K ∧ wx.heap[q]? = some (.cells (effC E.R E.pc E.st E.ad E.va E.fa E.ca) 27) ∧ wx.ownsRow wB.heap.size 2 1 (.slice ua mn uc) mn (z.map iv) ∧ wB.heap.size ≤ q)
                      case first =>
                        as_aux_lemma =>
                          try simp only [Act.put, List.setIfInBounds_toArray, List.set_cons_zero, List.set_cons_succ]
                          refine wp_region_held_drew (S := fun w' => Sq W wB w' (.slice p n cc) (.slice m mn mc) fx R pc g cap n gm capm mn L K) (by kernel_rfl) (Sq.start HS.out) (fun hS => ?_)
                          refine d_take 0 204 rfl rfl (by kernel_rfl) (by kernel_rfl) (by kernel_rfl) (fun _ _ _ h => h) rfl (fun w' hw' => er_mv _ rfl (.slice (some ⟨g, 0, none⟩) (n + 64) cap) rfl) hS ?_
                          simp only [Act.put, List.setIfInBounds_toArray, List.set_cons_zero, List.set_cons_succ]
                          refine d_take 1 205 rfl rfl (by kernel_rfl) (by kernel_rfl) (by kernel_rfl) (fun _ _ _ h => h) rfl (fun w' hw' => er_f36_0 _ rfl W.heap.size rfl) hS ?_
                          simp only [Act.put, List.setIfInBounds_toArray, List.set_cons_zero, List.set_cons_succ]
                          refine d_take 2 206 rfl rfl (by kernel_rfl) (by kernel_rfl) (by kernel_rfl) (fun _ _ _ h => h) rfl (fun w' hw' => er_load31 _ rfl W.heap.size 0 _ rfl (mac_cells hw'.sp.mac).1) hS ?_
                          simp only [Act.put, List.setIfInBounds_toArray, List.set_cons_zero, List.set_cons_succ]
                          refine d_take 3 207 rfl rfl (by kernel_rfl) (by kernel_rfl) (by kernel_rfl) (fun _ _ _ h => h) rfl (fun w' hw' => er_len31 _ rfl rfl p n cc rfl) hS ?_
                          simp only [Act.put, List.setIfInBounds_toArray, List.set_cons_zero, List.set_cons_succ]
                          refine d_take 4 208 rfl rfl (by kernel_rfl) (by kernel_rfl) (by kernel_rfl) (fun _ _ _ h => h) rfl (fun w' hw' => er_slice31 _ _ rfl g (n + 64) cap n (by omega) hcap hcmx rfl rfl) hS ?_
                          simp only [Act.put, List.setIfInBounds_toArray, List.set_cons_zero, List.set_cons_succ]
                          refine d_take 5 209 rfl rfl (by kernel_rfl) (by kernel_rfl) (by kernel_rfl) (fun _ _ _ h => h) rfl (fun w' hw' => er_mv _ rfl (.slice (some ⟨gm, 0, none⟩) (mn + 64) capm) rfl) hS ?_
                          simp only [Act.put, List.setIfInBounds_toArray, List.set_cons_zero, List.set_cons_succ]
                          refine d_take 6 210 rfl rfl (by kernel_rfl) (by kernel_rfl) (by kernel_rfl) (fun _ _ _ h => h) rfl (fun w' hw' => er_f36_1 _ rfl W.heap.size rfl) hS ?_
                          simp only [Act.put, List.setIfInBounds_toArray, List.set_cons_zero, List.set_cons_succ]
                          refine d_take 7 211 rfl rfl (by kernel_rfl) (by kernel_rfl) (by kernel_rfl) (fun _ _ _ h => h) rfl (fun w' hw' => er_load34 _ rfl W.heap.size 1 _ rfl (mac_cells hw'.sp.mac).2.1) hS ?_
                          simp only [Act.put, List.setIfInBounds_toArray, List.set_cons_zero, List.set_cons_succ]
                          refine d_take 8 212 rfl rfl (by kernel_rfl) (by kernel_rfl) (by kernel_rfl) (fun _ _ _ h => h) rfl (fun w' hw' => er_len34 _ rfl rfl m mn mc rfl) hS ?_
                          simp only [Act.put, List.setIfInBounds_toArray, List.set_cons_zero, List.set_cons_succ]
                          refine d_take 9 213 rfl rfl (by kernel_rfl) (by kernel_rfl) (by kernel_rfl) (fun _ _ _ h => h) rfl (fun w' hw' => er_slice34 _ _ rfl gm (mn + 64) capm mn (by omega) hcapm hcmxm rfl rfl) hS ?_
                          simp only [Act.put, List.setIfInBounds_toArray, List.set_cons_zero, List.set_cons_succ]
                          refine d_take 10 214 rfl rfl (by kernel_rfl) (by kernel_rfl) (by kernel_rfl) (fun _ _ _ h => h) rfl (fun w' hw' => er_f36_2 _ rfl W.heap.size rfl) hS ?_
                          simp only [Act.put, List.setIfInBounds_toArray, List.set_cons_zero, List.set_cons_succ]
                          refine d_take 11 215 rfl rfl (by kernel_rfl) (by kernel_rfl) (by kernel_rfl) (fun _ _ _ h => h) rfl (fun w' hw' => er_load3 _ rfl W.heap.size 2 _ rfl (mac_cells hw'.sp.mac).2.2.1) hS ?_
                          simp only [Act.put, List.setIfInBounds_toArray, List.set_cons_zero, List.set_cons_succ]
                          refine d_take 12 216 rfl rfl (by kernel_rfl) (by kernel_rfl) (by kernel_rfl) (fun _ _ _ h => h) rfl (fun w' hw' => er_f36_3 _ rfl W.heap.size rfl) hS ?_
                          simp only [Act.put, List.setIfInBounds_toArray, List.set_cons_zero, List.set_cons_succ]
                          refine d_take 13 217 rfl rfl (by kernel_rfl) (by kernel_rfl) (by kernel_rfl) (fun _ _ _ h => h) rfl (fun w' hw' => er_load25 _ rfl W.heap.size 3 R rfl (range_mac hw'.sp.mac)) hS ?_
                          simp only [Act.put, List.setIfInBounds_toArray, List.set_cons_zero, List.set_cons_succ]
                          refine d_take 14 218 rfl rfl (by kernel_rfl) (by kernel_rfl) (by kernel_rfl) (fun _ _ _ h => h) rfl (fun w' hw' => er_f36_4 _ rfl W.heap.size rfl) hS ?_
                          simp only [Act.put, List.setIfInBounds_toArray, List.set_cons_zero, List.set_cons_succ]
                          refine d_take 15 219 rfl rfl (by kernel_rfl) (by kernel_rfl) (by kernel_rfl) (fun _ _ _ h => h) rfl (fun w' hw' => er_load3 _ rfl W.heap.size 19 _ rfl (mac_cells hw'.sp.mac).2.2.2) hS ?_
                          simp only [Act.put, List.setIfInBounds_toArray, List.set_cons_zero, List.set_cons_succ]
                          refine d_take 16 220 rfl rfl (by kernel_rfl) (by kernel_rfl) (by kernel_rfl) (fun _ _ _ h => h) rfl (fun w' hw' => er_mv _ rfl (.int .i64 most) rfl) hS ?_
                          simp only [Act.put, List.setIfInBounds_toArray, List.set_cons_zero, List.set_cons_succ]
                          refine d_twoN (fun v wz => ∃ ua uc, v = .tuple #[E.v, .slice ua mn uc, .int .i64 k] ∧ wz.ownsRow wB.heap.size 2 1 (.slice ua mn uc) mn (z.map iv)) 17 221 22 22 (by kernel_rfl) rfl rfl rfl rfl rfl rfl (er_call_cpu_Run _ _ _ _ _ _ _ rfl) (er_alloc27 rfl) ((CS.out _ hS.sp).mono (by rintro ex w4 ⟨u, rfl, ow, b4⟩; obtain ⟨ua, uc, rfl⟩ := owns_shp ow; exact ⟨_, rfl, hS.grow b4, ua, uc, rfl, owns_mono ow hS.bel.size⟩)) (hS.alloc _) (fun vN wN hSN hTN => ?_) ?_
                          · obtain ⟨ua, uc, rfl, owN⟩ := hTN
                            simp only [Act.put, List.setIfInBounds_toArray, List.set_cons_zero, List.set_cons_succ]
                            refine d_take 18 203 rfl rfl (by kernel_rfl) (by kernel_rfl) (by kernel_rfl) (fun _ _ _ h => h) rfl (fun w' hw' => er_mv _ rfl (.tuple #[E.v, .slice ua mn uc, .int .i64 k]) rfl) hSN ?_
                            simp only [Act.put, List.setIfInBounds_toArray, List.set_cons_zero, List.set_cons_succ]
                            refine d_take 19 222 rfl rfl (by kernel_rfl) (by kernel_rfl) (by kernel_rfl) (fun _ _ _ h => h) rfl (fun w' hw' => er_ext0 _ rfl _ _ _ rfl) hSN ?_
                            simp only [Act.put, List.setIfInBounds_toArray, List.set_cons_zero, List.set_cons_succ]
                            refine d_take 20 223 rfl rfl (by kernel_rfl) (by kernel_rfl) (by kernel_rfl) (fun _ _ _ h => h) rfl (fun w' hw' => er_ext1 _ rfl _ _ _ rfl) hSN ?_
                            simp only [Act.put, List.setIfInBounds_toArray, List.set_cons_zero, List.set_cons_succ]
                            refine d_take 21 224 rfl rfl (by kernel_rfl) (by kernel_rfl) (by kernel_rfl) (fun _ _ _ h => h) rfl (fun w' hw' => er_ext2 _ rfl _ _ _ rfl) hSN ?_
                            simp only [Act.put, List.setIfInBounds_toArray, List.set_cons_zero, List.set_cons_succ]
                            refine d_make 22 22 (by kernel_rfl) rfl rfl rfl (er_alloc27 rfl) (hSN.alloc _) ?_
                            simp only [Act.put, List.setIfInBounds_toArray, List.set_cons_zero, List.set_cons_succ]
                            have hA := (hSN.alloc (.cells (effC zeroR 0 false 0 0 0 0) 27)).store (q := wN.heap.size) hSN.bel.size (effC E.R E.pc E.st E.ad E.va E.fa E.ca)
                            refine d_turn 23 (by kernel_rfl) rfl rfl rfl (er_store27 _ _ rfl E wN.heap.size _ rfl rfl (heap_alloc_last _ _) rfl) hA ?_
                            refine d_take 24 23 rfl rfl (by kernel_rfl) (by kernel_rfl) (by kernel_rfl) (fun _ _ _ h => h) rfl (fun w' hw' => er_as _ rfl (.slice ua mn uc) rfl) hA ?_
                            simp only [Act.put, List.setIfInBounds_toArray, List.set_cons_zero, List.set_cons_succ]
                            refine d_take 25 24 rfl rfl (by kernel_rfl) (by kernel_rfl) (by kernel_rfl) (fun _ _ _ h => h) rfl (fun w' hw' => er_as _ rfl (.int .i64 k) rfl) hA ?_
                            simp only [Act.put, List.setIfInBounds_toArray, List.set_cons_zero, List.set_cons_succ]
                            refine wpAnyH_done (by kernel_rfl) ?_ _
                            try go_wp2
                            go_meet
                            case rel => exact ⟨_, _, _, rfl, rfl, rfl, hA, setRow_heap _ _ _ _ _ _ (heap_alloc_last _ _), own_new owN _ _, hSN.bel.size⟩
                          · simp only [Act.put, List.setIfInBounds_toArray, List.set_cons_zero, List.set_cons_succ]
                            have hA := hS.alloc (.cells (effC zeroR 0 false 0 0 0 0) 27)
                            have hN : (wB.drew.alloc (.cells (effC zeroR 0 false 0 0 0 0) 27)).heap[wB.heap.size]? = some (.cells (effC zeroR 0 false 0 0 0 0) 27) := heap_alloc_last wB.drew _
                            refine d_callN (fun v wz => (∃ ua uc, v = .tuple #[E.v, .slice ua mn uc, .int .i64 k] ∧ wz.ownsRow (wB.heap.size + 1) 2 1 (.slice ua mn uc) mn (z.map iv)) ∧ wz.heap[wB.heap.size]? = some (.cells (effC zeroR 0 false 0 0 0 0) 27)) 17 221 (by kernel_rfl) rfl rfl rfl (er_call_cpu_Run _ _ _ _ _ _ _ rfl) ((CS.out _ hA.sp).mono (by rintro ex w4 ⟨u, rfl, ow, b4⟩; obtain ⟨ua, uc, rfl⟩ := owns_shp ow; exact ⟨_, rfl, hA.grow b4, ⟨ua, uc, rfl, owns_mono ow (by rw [World.size_alloc]; exact Nat.le_refl _)⟩, (b4.block _ (heap_lt hN)).trans hN⟩)) (fun vN wN hSN hTN => ?_)
                            obtain ⟨⟨ua, uc, rfl, owN⟩, hT⟩ := hTN
                            simp only [Act.put, List.setIfInBounds_toArray, List.set_cons_zero, List.set_cons_succ]
                            refine d_take 18 203 rfl rfl (by kernel_rfl) (by kernel_rfl) (by kernel_rfl) (fun _ _ _ h => h) rfl (fun w' hw' => er_mv _ rfl (.tuple #[E.v, .slice ua mn uc, .int .i64 k]) rfl) hSN ?_
                            simp only [Act.put, List.setIfInBounds_toArray, List.set_cons_zero, List.set_cons_succ]
                            refine d_take 19 222 rfl rfl (by kernel_rfl) (by kernel_rfl) (by kernel_rfl) (fun _ _ _ h => h) rfl (fun w' hw' => er_ext0 _ rfl _ _ _ rfl) hSN ?_
                            simp only [Act.put, List.setIfInBounds_toArray, List.set_cons_zero, List.set_cons_succ]
                            refine d_take 20 223 rfl rfl (by kernel_rfl) (by kernel_rfl) (by kernel_rfl) (fun _ _ _ h => h) rfl (fun w' hw' => er_ext1 _ rfl _ _ _ rfl) hSN ?_
                            simp only [Act.put, List.setIfInBounds_toArray, List.set_cons_zero, List.set_cons_succ]
                            refine d_take 21 224 rfl rfl (by kernel_rfl) (by kernel_rfl) (by kernel_rfl) (fun _ _ _ h => h) rfl (fun w' hw' => er_ext2 _ rfl _ _ _ rfl) hSN ?_
                            simp only [Act.put, List.setIfInBounds_toArray, List.set_cons_zero, List.set_cons_succ]
                            have hB := hSN.store (q := wB.heap.size) (Nat.le_refl _) (effC E.R E.pc E.st E.ad E.va E.fa E.ca)
                            refine d_turn 23 (by kernel_rfl) rfl rfl rfl (er_store27 _ _ rfl E wB.heap.size _ rfl rfl hT rfl) hB ?_
                            refine d_take 24 23 rfl rfl (by kernel_rfl) (by kernel_rfl) (by kernel_rfl) (fun _ _ _ h => h) rfl (fun w' hw' => er_as _ rfl (.slice ua mn uc) rfl) hB ?_
                            simp only [Act.put, List.setIfInBounds_toArray, List.set_cons_zero, List.set_cons_succ]
                            refine d_take 25 24 rfl rfl (by kernel_rfl) (by kernel_rfl) (by kernel_rfl) (fun _ _ _ h => h) rfl (fun w' hw' => er_as _ rfl (.int .i64 k) rfl) hB ?_
                            simp only [Act.put, List.setIfInBounds_toArray, List.set_cons_zero, List.set_cons_succ]
                            refine wpAnyH_done (by kernel_rfl) ?_ _
                            try go_wp2
                            go_meet
                            case rel => exact ⟨_, _, _, rfl, rfl, rfl, hB, setRow_heap _ _ _ _ _ _ hT, own_row owN (Nat.lt_succ_self _) (Nat.le_succ _) _, Nat.le_refl _⟩
                      case rest =>
                        obtain ⟨q22, a23, c23, rfl, rfl, rfl, hsq, hef, hrow, _⟩ := hcut
                        rename World => wC
                        have HS : Hid (Sp W wC (.slice p n cc) (.slice m mn mc) fx R pc g cap n gm capm mn L K) := hsq.sp
                        have HE22 : Hid (wC.heap[q22]? = some (.cells (effC E.R E.pc E.st E.ad E.va E.fa E.ca) 27)) := hef
                        have HE19 : Hid (wC.heap[q19]? = some (.cells (effC E.R E.pc E.st E.ad E.va E.fa E.ca) 27)) := (hsq.bel.block _ (heap_lt HB.out.1)).trans HB.out.1
                        have HZ21 : Hid (Zs wC (fun k => (Value.slice a21 mn c21).ownBlock = some k) a21 mn c21 z) := zrow (own_below HB.out.2 hsq.bel)
                        have HZ23 : Hid (Zs wC (fun k => (Value.slice a23 mn c23).ownBlock = some k) a23 mn c23 z) := zrow hrow
                        clear hsq hef hrow CS HB
                        go_upto_region 25 with fail
                        refine wp_region_lit ?_
                        try simp only [Act.put, List.setIfInBounds_toArray, List.set_cons_zero, List.set_cons_succ]
                        refine l_take 225 rfl rfl (er_load27 _ rfl E q22 rfl HE22.out) ?_
                        simp only [Act.put, List.setIfInBounds_toArray, List.set_cons_zero, List.set_cons_succ]
                        refine l_take 226 rfl rfl (er_load27 _ rfl E q19 rfl HE19.out) ?_
                        simp only [Act.put, List.setIfInBounds_toArray, List.set_cons_zero, List.set_cons_succ]
                        refine l_take 227 rfl rfl (er_eqE _ _ _ rfl E rfl rfl) ?_
                        simp only [Act.put, List.setIfInBounds_toArray, List.set_cons_zero, List.set_cons_succ]
                        refine l_take 228 rfl rfl (er_mv _ rfl (.bool true) rfl) ?_
                        simp only [Act.put, List.setIfInBounds_toArray, List.set_cons_zero, List.set_cons_succ]
                        refine l_take 229 rfl rfl (er_mv _ rfl (.int .i64 k) rfl) ?_
                        simp only [Act.put, List.setIfInBounds_toArray, List.set_cons_zero, List.set_cons_succ]
                        refine l_take 230 rfl rfl (er_mv _ rfl (.int .i64 k) rfl) ?_
                        simp only [Act.put, List.setIfInBounds_toArray, List.set_cons_zero, List.set_cons_succ]
                        refine l_take 231 rfl rfl (er_eq3 _ _ _ rfl k rfl rfl) ?_
                        simp only [Act.put, List.setIfInBounds_toArray, List.set_cons_zero, List.set_cons_succ]
                        refine l_take 232 rfl rfl (er_pt _ _ _ rfl (.bool true) rfl rfl) ?_
                        simp only [Act.put, List.setIfInBounds_toArray, List.set_cons_zero, List.set_cons_succ]
                        refine l_take 233 rfl rfl (er_mv _ rfl (.bool true) rfl) ?_
                        simp only [Act.put, List.setIfInBounds_toArray, List.set_cons_zero, List.set_cons_succ]
                        refine l_take 234 rfl rfl (er_mv _ rfl (.slice a23 mn c23) rfl) ?_
                        simp only [Act.put, List.setIfInBounds_toArray, List.set_cons_zero, List.set_cons_succ]
                        refine l_take 235 rfl rfl (er_mv _ rfl (.slice a21 mn c21) rfl) ?_
                        simp only [Act.put, List.setIfInBounds_toArray, List.set_cons_zero, List.set_cons_succ]
                        have cSW := same_any _ _ _ _ _ _ _ _ _ _ wC (HZ23.out) (HZ21.out)
                        rw [decide_eq_true rfl] at cSW
                        refine l_call 236 rfl rfl (er_call_bulkheadlaw06_sameWords _ _ _ rfl) cSW ?_
                        rintro ex wD ⟨rfl, kq, hwq⟩
                        refine ⟨_, rfl, ?_⟩
                        simp only [Act.put, List.setIfInBounds_toArray, List.set_cons_zero, List.set_cons_succ]
                        have bq : Below wC.heap.size wC wD := by rw [hwq]; exact below_drewN wC kq
                        refine l_take 237 rfl rfl (er_pt _ _ _ rfl (.bool true) rfl rfl) ?_
                        simp only [Act.put, List.setIfInBounds_toArray, List.set_cons_zero, List.set_cons_succ]
                        refine l_take 4 rfl rfl (er_as _ rfl (.bool true) rfl) ?_
                        simp only [Act.put, List.setIfInBounds_toArray, List.set_cons_zero, List.set_cons_succ]
                        have HF : Hid (Below W.heap.size W wD) := (HS.out.grow bq).bel
                        clear cSW hwq bq
                        go_wp2
                        go_ret
                        exact ⟨rfl, HF.out⟩

end Go.Proofs.YtijeaonldhccmaaDoor
