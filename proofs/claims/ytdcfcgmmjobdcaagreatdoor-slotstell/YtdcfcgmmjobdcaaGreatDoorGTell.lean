/-
  One text: STellP, STellC, STellW.
-/
import Derived.Test.YtdcfcgmmjobdcaaGreatDoorGMake
import Derived.Test.YtdcfcgmmjobdcaaGreatDoorOAddsP
import Derived.BigQuiet
import Derived.Test.YtdcfcgmmjobdcaaGreatDoorGLives
namespace Go.Proofs.YtdcfcgmmjobdcaaGreatDoor
open Go.RowKit Plain
set_option linter.unusedVariables false
set_option maxRecDepth 100000

theorem sum_cast : ∀ M : List Nat, (M.map (fun x : Nat => (x : Int))).sum = (M.sum : Int)
  | [] => rfl
  | x :: r => by simp [sum_cast r]
theorem zl_pr (L : List (Nat × Nat)) (q : Nat) : Slt.pr (zl L) q = (Rule.pre L q : Nat) := by
  unfold Slt.pr Rule.pre zl
  rw [← sum_cast, ← List.map_take, List.map_map, List.map_map]
  rfl
theorem zl_gt {L : List (Nat × Nat)} {q : Nat} {x : Nat × Nat} (h : L[q]? = some x) : Slt.gt (zl L) q = ((x.1 : Int), (x.2 : Int)) := by
  apply Slt.gt_eq
  unfold zl
  rw [List.getElem?_map, h]
  rfl
theorem zl_len (L : List (Nat × Nat)) : (zl L).length = L.length := by simp [zl]
theorem goes_runs (f : Nat → Nat) (a m : Nat) (hm : m ≤ 1048576) (hf : ∀ t, f t ≤ 32) : Slt.Goes (zl (Rule.runsOf f a m)) := by
  have hT := Rule.runsOf_tile f a m
  have hU := Rule.runsOf_unlike f a m
  intro q hq
  rw [zl_len] at hq
  obtain ⟨x, hx⟩ : ∃ x, (Rule.runsOf f a m)[q]? = some x := ⟨_, List.getElem?_eq_getElem hq⟩
  have h1 := hT.pos x (List.mem_of_getElem? hx)
  have h2 := Rule.pre_le hT (q + 1)
  rw [Rule.pre_succ hx] at h2
  have h3 := hT.at' q x hx (Rule.pre (Rule.runsOf f a m) q) (Nat.le_refl _) (by omega)
  have h4 := hf (a + Rule.pre (Rule.runsOf f a m) q)
  unfold Slt.Ok
  rw [zl_gt hx, zl_pr]
  refine ⟨by simp; omega, by simp; omega, by simp, by simp; omega, ?_⟩
  cases q with
  | zero => rw [Slt.nb_zero]; simp only; omega
  | succ p =>
    rw [Slt.nb_succ]
    obtain ⟨y, hy⟩ : ∃ y, (Rule.runsOf f a m)[p]? = some y := ⟨_, List.getElem?_eq_getElem (by omega)⟩
    rw [zl_gt hy]
    have := hU p y x hy hx
    simp
    omega
theorem pr_runs (f : Nat → Nat) (a m : Nat) : Slt.pr (zl (Rule.runsOf f a m)) (zl (Rule.runsOf f a m)).length = m := by
  rw [zl_pr, zl_len, Rule.pre_all, (Rule.runsOf_tile f a m).sum]
theorem occ32 {xs : List Srv} (hv : Vd xs) (t : Nat) : Rule.occ (sys xs) t ≤ 32 := by
  have := Rule.occ_le (sys xs) t
  have := hv.num
  show _ ≤ _
  have e : (sys xs).n = xs.length := rfl
  omega
theorem tab_runs {xs : List Srv} (hv : Vd xs) : Slt.Tab (zl (Rule.runsOf (Rule.occ (sys xs)) 0 (hyp xs))) (zl (Rule.runsOf (Rule.occ (sys xs)) (hyp xs) (hyp xs))) (hyp xs) :=
  ⟨goes_runs _ _ _ hv.hyp2 (occ32 hv), goes_runs _ _ _ hv.hyp2 (occ32 hv), pr_runs _ _ _, pr_runs _ _ _, hv.hyp1, hv.hyp2⟩
theorem in_runs {f : Nat → Nat} {a m u q : Nat} (h : Slt.In (zl (Rule.runsOf f a m)) (u : Int) q) : (Slt.gt (zl (Rule.runsOf f a m)) q).2 = (f (a + u) : Nat) := by
  have hq := h.1
  have h1 := h.2.1
  have h2 := h.2.2
  rw [zl_len] at hq
  obtain ⟨x, hx⟩ : ∃ x, (Rule.runsOf f a m)[q]? = some x := ⟨_, List.getElem?_eq_getElem hq⟩
  rw [zl_pr] at h1 h2
  rw [Rule.pre_succ hx] at h2
  rw [zl_gt hx, (Rule.runsOf_tile f a m).at' q x hx u (by omega) (by omega)]
theorem who_runs {xs : List Srv} (hv : Vd xs) {t q : Nat} (h : Slt.Sits (zl (Rule.runsOf (Rule.occ (sys xs)) 0 (hyp xs))) (zl (Rule.runsOf (Rule.occ (sys xs)) (hyp xs) (hyp xs))) (hyp xs) t q) :
    Slt.who (zl (Rule.runsOf (Rule.occ (sys xs)) 0 (hyp xs))) (zl (Rule.runsOf (Rule.occ (sys xs)) (hyp xs) (hyp xs))) (hyp xs) t q = (Rule.occ (sys xs) t : Nat) := by
  have hin := h.in'
  have hH := hv.hyp1
  have ba := Slt.beg_add (hyp xs) t
  have bm := Slt.beg_mul (hyp xs) t
  unfold Slt.who
  by_cases hb : Slt.beg (hyp xs) t = 0
  · unfold Slt.lst at hin ⊢
    rw [if_pos hb] at hin ⊢
    rw [in_runs hin, show 0 + t % hyp xs = t by omega]
  · unfold Slt.lst at hin ⊢
    rw [if_neg hb] at hin ⊢
    rw [in_runs hin]
    have hk : 1 ≤ t / hyp xs := by
      apply Decidable.byContradiction
      intro hn
      rw [show t / hyp xs = 0 from Nat.eq_zero_of_not_pos hn, Nat.mul_zero] at bm
      exact hb bm
    have e := Rule.again_mul hv.bd.ok (fun i hi => hv.dvd i hi) (hyp xs + t % hyp xs) (by omega) (t / hyp xs - 1)
    have e2 : hyp xs + t % hyp xs + (t / hyp xs - 1) * hyp xs = t := by
      rw [Nat.sub_mul, Nat.mul_comm (t / hyp xs), Nat.one_mul]
      have : hyp xs ≤ hyp xs * (t / hyp xs) := Nat.le_mul_of_pos_right _ hk
      omega
    rw [e2] at e
    rw [e]
theorem sm_rel {xs : List Srv} (hv : Vd xs) : ∀ n, n ≤ xs.length → ((Rule.sm (fun i => (2 * hyp xs) / (sys xs).P i) n : Nat) : Int) = relF (hyp xs : Int) xs n
  | 0, _ => rfl
  | n + 1, hn => by
    have ih := sm_rel hv n (by omega)
    have hp := hv.per n (by omega)
    rw [Rule.sm, relF, ← ih]
    have e : zP xs n = (((sys xs).P n : Nat) : Int) := by
      show (gs xs n).p = ((gs xs n).p.toNat : Int)
      omega
    rw [e]
    rfl
theorem slots_bound {xs : List Srv} (ht : timF xs xs.length = none) : (Rule.runsOf (Rule.occ (sys xs)) 0 (hyp xs)).length + (Rule.runsOf (Rule.occ (sys xs)) (hyp xs) (hyp xs)).length ≤ 131074 := by
  have hv := vd_of ht
  have h1 := Rule.slots_two hv.bd.ok hv.hyp1 (fun i hi => hv.dvd i hi)
  have h2 := sm_rel hv xs.length (Nat.le_refl _)
  have h3 : relF (hyp xs : Int) xs xs.length ≤ 65536 := by
    have hf := tim_none ht
    unfold timF at ht
    rw [hf] at ht
    unfold togF at ht
    have e : ((hyp xs : Nat) : Int) = lcmV (zP xs) xs.length 1048576 := by
      have := hv.hyp1
      unfold hyp at this ⊢
      omega
    rw [e]
    by_cases hb : lcmB (zP xs) xs.length 1048576 = true
    · rw [if_pos hb] at ht
      by_cases hr : relF (lcmV (zP xs) xs.length 1048576) xs xs.length ≤ 65536
      · exact hr
      · rw [if_neg hr] at ht; cases ht
    · rw [if_neg hb] at ht; cases ht
  have e : (sys xs).n = xs.length := rfl
  rw [e] at h1
  omega
end Go.Proofs.YtdcfcgmmjobdcaaGreatDoor

namespace Go.Proofs.YtdcfcgmmjobdcaaGreatDoor
open Go.RowKit Go.Shelf Plain
attribute [local go_sem] Oper.semAt_some
set_option linter.unusedVariables false
set_option maxRecDepth 100000

set_option maxHeartbeats 4000000 in
theorem slotOf_arg {F G : Nat → Prop} {a0 a1 : Option Addr} {n0 c0 n1 c1 : Nat} {P C : List (Int × Int)} {H : Nat} (t : Int) (w : World) (h : Sl w F a0 n0 c0 P) (hF : ∀ k, F k → k < w.heap.size) (h' : Sl w G a1 n1 c1 C) (hG : ∀ k, G k → k < w.heap.size)
    (hT : Slt.Tab P C H) (ht : t < 0 ∨ 1099511627776 ≤ t) :
    Calls Tryz.prog 47 #[.agg #[.slice a0 n0 c0, .slice a1 n1 c1], .int .i64 t] w fun e w' => e = .returned (.tuple #[.int .i64 0, .int .i64 0, .int .i64 2]) ∧ Kept No w w' := by
  refine callsIn_wide (n := 9).1 ?_
  refine callsIn_of_wp_marks Tryz.func47 rfl trivial ?_ rfl
  refine wpIn_wide.2 ?_
  refine wp_mono ?_ (calmS_imp _)
  simp only [Tryz.ntmps47, List.size_toArray, List.length_cons, List.length_nil, Nat.reduceAdd, Nat.reduceSub, Array.replicate_succ, Array.replicate_zero, List.push_toArray, List.append_toArray, List.nil_append, List.cons_append]
  obtain ⟨wA, hwA⟩ : ∃ wA, (((w.alloc (.cells #[.slice a0 n0 c0, .slice a1 n1 c1] 29)).alloc (.cells #[.int .i64 t] 3)).alloc (.cells #[.int .i64 0] 3)).alloc (.cells #[.int .i64 0] 3) = wA := ⟨_, rfl⟩
  have kA : Kept No w wA := by rw [← hwA]; exact ((((Kept.refl No w).alloc _).alloc _).alloc _).alloc _
  have eA : wA.heap[w.heap.size]? = some (.cells #[.slice a0 n0 c0, .slice a1 n1 c1] 29) ∧ wA.heap[w.heap.size + 1]? = some (.cells #[.int .i64 t] 3) ∧ wA.heap[w.heap.size + 1 + 1]? = some (.cells #[.int .i64 0] 3) ∧ wA.heap[w.heap.size + 1 + 1 + 1]? = some (.cells #[.int .i64 0] 3) := by
    have e1 := World.alloc_heap_new w (.cells #[.slice a0 n0 c0, .slice a1 n1 c1] 29)
    have e2 := World.alloc_heap_new (w.alloc (.cells #[.slice a0 n0 c0, .slice a1 n1 c1] 29)) (.cells #[.int .i64 t] 3)
    have e3 := World.alloc_heap_new ((w.alloc (.cells #[.slice a0 n0 c0, .slice a1 n1 c1] 29)).alloc (.cells #[.int .i64 t] 3)) (.cells #[.int .i64 0] 3)
    have e4 := World.alloc_heap_new (((w.alloc (.cells #[.slice a0 n0 c0, .slice a1 n1 c1] 29)).alloc (.cells #[.int .i64 t] 3)).alloc (.cells #[.int .i64 0] 3)) (.cells #[.int .i64 0] 3)
    simp only [World.size_alloc] at e2 e3 e4
    rw [← hwA]
    exact ⟨(Below.heap_alloc _ _ _ (by first | (simp; done) | (simp; omega))).trans ((Below.heap_alloc _ _ _ (by first | (simp; done) | (simp; omega))).trans ((Below.heap_alloc _ _ _ (by first | (simp; done) | (simp; omega))).trans e1)), (Below.heap_alloc _ _ _ (by first | (simp; done) | (simp; omega))).trans ((Below.heap_alloc _ _ _ (by first | (simp; done) | (simp; omega))).trans e2), (Below.heap_alloc _ _ _ (by first | (simp; done) | (simp; omega))).trans e3, e4⟩
  have hy := hyperOf_any wA (h.keep kA) (fun k hk => Nat.lt_of_lt_of_le (hF k hk) kA.size) (h'.keep kA) (fun k hk => Nat.lt_of_lt_of_le (hG k hk) kA.size)
  rw [tab_hyF hT, ← hwA] at hy
  obtain ⟨z0, z1⟩ := bx2 eA.1
  have z2 := bx1 eA.2.1
  rw [← hwA] at z0 z1 z2
  have HA : Hid (wA.heap[w.heap.size]? = some (.cells #[.slice a0 n0 c0, .slice a1 n1 c1] 29) ∧ wA.heap[w.heap.size + 1]? = some (.cells #[.int .i64 t] 3) ∧ wA.heap[w.heap.size + 1 + 1]? = some (.cells #[.int .i64 0] 3) ∧ wA.heap[w.heap.size + 1 + 1 + 1]? = some (.cells #[.int .i64 0] 3) ∧ Kept No w wA) := ⟨eA.1, eA.2.1, eA.2.2.1, eA.2.2.2, kA⟩
  have HWA : Hid ((((w.alloc (.cells #[.slice a0 n0 c0, .slice a1 n1 c1] 29)).alloc (.cells #[.int .i64 t] 3)).alloc (.cells #[.int .i64 0] 3)).alloc (.cells #[.int .i64 0] 3) = wA) := hwA
  have HS : Hid (Sl w F a0 n0 c0 P ∧ (∀ k, F k → k < w.heap.size) ∧ Sl w G a1 n1 c1 C ∧ (∀ k, G k → k < w.heap.size) ∧ Slt.Tab P C H) := ⟨h, hF, h', hG, hT⟩
  have hH1 := hT.pos
  have hH2 := hT.top
  have hH0 : ¬ (H : Int) = 0 := by omega
  clear h hF h' hG hT kA eA hwA
  go_upto_region 2 with (go_at_call 48; refine hy.mono ?_; rintro e w1 ⟨rfl, hk1⟩; rw [HWA.out] at hk1; have H1 : Hid (Kept No wA w1) := hk1; clear hk1 hy)
  clear z0 z1 z2
  obtain ⟨y0, y1⟩ := bx2 (H1.out.at' HA.out.1 (fun h => h))
  have y2 := bx1 (H1.out.at' HA.out.2.1 (fun h => h))
  have x2 := H1.out.at' HA.out.2.2.1 (fun h => h)
  have x3 := H1.out.at' HA.out.2.2.2.1 (fun h => h)
  have v2 := bx1 x2
  have v3 := bx1 x3
  have f2 : w1.frozen? ⟨w.heap.size + 1 + 1, 0, none⟩ = false := by simp [World.frozen?, x2]
  have f3 : w1.frozen? ⟨w.heap.size + 1 + 1 + 1, 0, none⟩ = false := by simp [World.frozen?, x3]
  have HX : Hid (Kept No w w1 ∧ w1.heap[w.heap.size + 1 + 1]? = some (.cells #[.int .i64 0] 3) ∧ w1.heap[w.heap.size + 1 + 1 + 1]? = some (.cells #[.int .i64 0] 3)) := ⟨HA.out.2.2.2.2.trans H1.out (fun _ h => h.elim), x2, x3⟩
  clear x2 x3
  by_cases h1 : t < 0
  · go_wp2
    refine ⟨_, results_cct rfl _ _ (w.heap.size + 1 + 1) (w.heap.size + 1 + 1 + 1) (.int .i64 0) (.int .i64 0) rfl rfl (ldI (bx1 ((Below.heap_setCell _ _ _ _ (by first | (simp; done) | (simp; omega))).trans (set1 HX.out.2.1 _)))) (ldI (bx1 (set1 ((Below.heap_setCell _ _ _ _ (by first | (simp; done) | (simp; omega))).trans HX.out.2.2) _))), rfl, ?_⟩
    exact (HX.out.1.setCell (.inr (by simp; omega)) _).setCell (.inr (by simp; omega)) _
  · have h2 : 1099511627776 ≤ t := by omega
    go_wp2
    refine ⟨_, results_cct rfl _ _ (w.heap.size + 1 + 1) (w.heap.size + 1 + 1 + 1) (.int .i64 0) (.int .i64 0) rfl rfl (ldI (bx1 ((Below.heap_setCell _ _ _ _ (by first | (simp; done) | (simp; omega))).trans (set1 HX.out.2.1 _)))) (ldI (bx1 (set1 ((Below.heap_setCell _ _ _ _ (by first | (simp; done) | (simp; omega))).trans HX.out.2.2) _))), rfl, ?_⟩
    exact (HX.out.1.setCell (.inr (by simp; omega)) _).setCell (.inr (by simp; omega)) _

set_option maxHeartbeats 1000000 in
theorem sAt_arg {F G : Nat → Prop} {a0 a1 : Option Addr} {n0 c0 n1 c1 : Nat} {P C : List (Int × Int)} {H : Nat} (t : Int) (w : World) (h : Sl w F a0 n0 c0 P) (hF : ∀ k, F k → k < w.heap.size) (h' : Sl w G a1 n1 c1 C) (hG : ∀ k, G k → k < w.heap.size)
    (hT : Slt.Tab P C H) (ht : t < 0 ∨ 1099511627776 ≤ t) :
    Calls Tryz.prog 15 #[.agg #[.slice a0 n0 c0, .slice a1 n1 c1], .int .i64 t] w fun e w' => e = .returned (.tuple #[.int .i64 0, .int .i64 2]) ∧ Kept No w w' := by
  have k1 : Kept No w (w.alloc (.cells #[.slice a0 n0 c0, .slice a1 n1 c1] 29)) := (Kept.refl No w).alloc _
  have hl := slotOf_arg t _ (h.keep k1) (fun k hk => Nat.lt_of_lt_of_le (hF k hk) k1.size) (h'.keep k1) (fun k hk => Nat.lt_of_lt_of_le (hG k hk) k1.size) hT ht
  obtain ⟨b0, b1⟩ := bx2 (World.alloc_heap_new w (.cells #[.slice a0 n0 c0, .slice a1 n1 c1] 29))
  have HK : Hid (Kept No w (w.alloc (.cells #[.slice a0 n0 c0, .slice a1 n1 c1] 29))) := k1
  clear h h' hF hG k1 hT ht
  go_enter Tryz.func15, Tryz.ntmps15
  go_wp2_with (go_at_call 47; refine hl.mono ?_; rintro e w1 ⟨rfl, hk1⟩; have H1 : Hid (Kept No w w1) := HK.out.trans hk1 (fun _ h => h.elim); clear hk1 hl)
  go_ret2
  exact ⟨rfl, H1.out⟩

set_option maxHeartbeats 1000000 in
theorem occAt_arg {F : Nat → Prop} {a : Option Addr} {c : Nat} {xs : List Srv} (t : Int) (w : World) (hg : Gl w) (h : Sv w F a xs.length c xs) (ht : timF xs xs.length = none) (htt : t < 0 ∨ 1099511627776 ≤ t) :
    Calls Tryz.prog 14 #[.slice a xs.length c, .int .i64 t] w fun e w' => e = .returned (.tuple #[.int .i64 0, .int .i64 2]) ∧ Kept No w w' := by
  have hc := hyper_any F a xs.length c xs w hg h
  rw [(tim_yes ht).1, (tim_yes ht).2] at hc
  have hti := fun W => isTick_any t W
  have hd : (decide (0 ≤ t) && decide (t < 1099511627776)) = false := by
    rcases htt with e | e
    · rw [decide_eq_false (by omega)]; rfl
    · rw [decide_eq_false (p := t < 1099511627776) (by omega), Bool.and_false]
  clear hg h ht
  generalize (hyp xs : Int) = Y at *
  go_enter Tryz.func14, Tryz.ntmps14
  go_wp2_with (first
    | (go_at_call 9; refine hc.mono ?_; rintro e w1 ⟨rfl, hk1⟩; have HK1 : Hid (Kept No w w1) := hk1; clear hk1 hc)
    | (go_at_call 43; refine (hti _).mono ?_; rintro e w2 ⟨rfl, hw2⟩; obtain rfl := hw2.symm))
  go_ret2
  exact ⟨rfl, HK1.out⟩

set_option maxHeartbeats 2000000 in
theorem tight_yes {F : Nat → Prop} {a : Option Addr} {n c : Nat} {L : List (Int × Int)} (N : Int) (w : World) (h : Sl w F a n c L) (hg : Slt.Goes L) (hN : ∀ q, q < n → (Slt.gt L q).2 ≤ N) (hn : 1 ≤ n) :
    Calls Tryz.prog 13 #[.slice a n c, .int .i64 N] w fun e w' => e = .returned (.bool true) ∧ Kept No w w' := by
  have HS : Hid (Sl w F a n c L ∧ Slt.Goes L ∧ ∀ q, q < n → (Slt.gt L q).2 ≤ N) := ⟨h, hg, hN⟩
  have hcap := h.cap
  have hmax := h.max
  have hnz : (0 : Int) < n := by omega
  clear h hg hN
  go_enter Tryz.func13, Tryz.ntmps13
  go_wp2
  go_loopw [5] (fun x wr => ∃ q : Nat, x = .int .i64 q ∧ q ≤ n ∧ Kept No w wr) (fun x _ => n - (intOf x).toNat)
  case atStart => exact ⟨0, rfl, Nat.zero_le _, Kept.refl _ _⟩
  case round =>
    obtain ⟨q, rfl, hq, hk⟩ := hrel
    by_cases hlt : q < n
    · have hlt' : (q : Int) < n := by omega
      have hqL : q < L.length := by rw [HS.out.1.len]; exact hlt
      have hok := HS.out.2.1 q hqL
      have p1 := hok.1
      have p2 := hok.2.2.1
      have p3 := HS.out.2.2 q hlt
      have p4 := hok.2.2.2.2
      obtain ⟨b, o, rfl, _, c0, c1⟩ := (HS.out.1.keep hk).gt hlt
      have HK : Hid (Kept No w wr) := hk
      by_cases hq0 : q = 0
      · have g0 : ¬ (0 : Int) < q := by omega
        have HQ : Hid (q = 0) := hq0
        clear hk hok hqL p4 hq0
        generalize (Slt.gt L q).1 = x1 at *
        generalize (Slt.gt L q).2 = x2 at *
        have k1 : decide (x1 < 1) = false := decide_eq_false (by omega)
        have k2 : decide (x2 < 0) = false := decide_eq_false (by omega)
        have k3 : decide (N < x2) = false := decide_eq_false (by omega)
        have k4 : decide (0 < q) = false := decide_eq_false (by omega)
        go_upto_region 4 with fail
        go_quiet (fail)
        go_wp2
        go_roundw
        case rel => exact ⟨q + 1, by go_num, by omega, HK.out.drewN nq⟩
        case measure => simp [intOf]; omega
      · obtain ⟨p, hp⟩ : ∃ p, q = p + 1 := ⟨q - 1, by omega⟩
        rw [show Slt.nb L q = (Slt.gt L p).2 by rw [hp]; rfl] at p4
        obtain ⟨b', o', e', _, _, d1⟩ := (HS.out.1.keep hk).gt (i := p) (by omega)
        injection e' with e'
        injection e' with e1 e2
        subst e1 e2
        have g0 : (0 : Int) < q := by omega
        have ep : (q : Int) - 1 = (p : Int) := by omega
        have hpn : (p : Int) < n := by omega
        have p4' : ((Slt.gt L q).2 == (Slt.gt L p).2) = false := beq_eq_false_iff_ne.2 p4
        have HQ : Hid (q = p + 1) := hp
        clear hk hok hqL hq0 hp
        generalize (Slt.gt L q).1 = x1 at *
        generalize (Slt.gt L q).2 = x2 at *
        generalize (Slt.gt L p).2 = y2 at *
        have k1 : decide (x1 < 1) = false := decide_eq_false (by omega)
        have k2 : decide (x2 < 0) = false := decide_eq_false (by omega)
        have k3 : decide (N < x2) = false := decide_eq_false (by omega)
        have k4 : decide (0 < q) = true := decide_eq_true (by omega)
        go_upto_region 4 with fail
        go_quiet (fail)
        go_wp2
        go_roundw
        case rel => exact ⟨q + 1, by go_num, by omega, HK.out.drewN nq⟩
        case measure => simp [intOf]; omega
    · obtain rfl : q = n := by omega
      have HK : Hid (Kept No w wr) := hk
      clear hk
      go_wp2
      go_ret
      exact ⟨by simp; omega, HK.out⟩
end Go.Proofs.YtdcfcgmmjobdcaaGreatDoor

namespace Go.Proofs.YtdcfcgmmjobdcaaGreatDoor
open Go.RowKit Go.Shelf Plain
set_option linter.unusedVariables false
set_option maxRecDepth 100000

structure Is (w : World) (F : Nat → Prop) (a : Option Addr) (n c : Nat) (ss : List Int) : Prop where
  len : ss.length = n
  cap : n ≤ c
  max : c ≤ 9223372036854775807
  i6 : ∀ x, x ∈ ss → I6 x
  at' : ∀ i x, ss[i]? = some x → ∃ g o, a = some ⟨g, o, none⟩ ∧ F g ∧ w.cell? ⟨g, o + i, none⟩ = some (.int .i64 x)

set_option maxHeartbeats 4000000 in
theorem stell_no {F G : Nat → Prop} {a0 : Option Addr} {c0 : Nat} {xs : List Srv} {ps : Option Addr} {sn sc : Nat} {ss : List Int} (w : World) (hg : Gl w) (h : Sv w F a0 xs.length c0 xs) (hi : Is w G ps sn sc ss) {p : Int × Int} (ht : timF xs xs.length = some p) :
    Calls Tryz.prog 3 #[.slice a0 xs.length c0, .slice ps sn sc] w fun e w' => e = .returned (.bool true) ∧ Below w.heap.size w w' := by
  have hc := hyper_any F a0 xs.length c0 xs w hg h
  have hE : hyE xs xs.length = p.1 := by unfold hyE; rw [ht]
  rw [hE] at hc
  have hp := tim_ne ht
  have HM : Hid (∀ W, Kept No w W → Calls Tryz.prog 10 #[.slice a0 xs.length c0] W fun e w' => e = .returned (.tuple #[.agg #[.slice none 0 0, .slice none 0 0], .int .i64 p.1]) ∧ Kept No W w') := fun W k => make_no W (hg.kept k) (h.keep k) ht
  have HG : Hid (Gl w) := hg
  clear hg h hi ht hE
  generalize hyV xs xs.length = Y at *
  generalize p.1 = E at *
  have he1 : (E != 0) = true := bne_iff_ne.2 hp
  go_enter Tryz.func3, Tryz.ntmps3
  go_wp2_with (first
    | (go_at_call 9; refine hc.mono ?_; rintro e w1 ⟨rfl, hk1⟩; have H1 : Hid (Kept No w w1) := hk1; clear hk1 hc; have hm := HM.out w1 H1.out)
    | (go_at_call 10; refine hm.mono ?_; rintro e w2 ⟨rfl, hk2⟩; have H2 : Hid (Kept No w w2) := H1.out.trans hk2 (fun _ h => h.elim); clear hk2 hm; have hl := lives_any (w2.alloc (.cells #[.slice none 0 0, .slice none 0 0] 29)) (HG.out.kept (H2.out.alloc _)))
    | (go_at_call 11; refine hl.mono ?_; rintro e w3 ⟨rfl, hk3⟩; have H3 : Hid (Kept No w w3) := (H2.out.alloc _).trans hk3 (fun _ h => h.elim); clear hk3 hl))
  go_ret
  exact ⟨rfl, H3.out.below0⟩

set_option maxHeartbeats 16000000 in
theorem stell_yes {F G : Nat → Prop} {a0 : Option Addr} {c0 : Nat} {xs : List Srv} {ps : Option Addr} {sn sc : Nat} {ss : List Int} (w : World) (hg : Gl w) (h : Sv w F a0 xs.length c0 xs) (hF : ∀ k, F k → k < w.heap.size) (hi : Is w G ps sn sc ss) (ht : timF xs xs.length = none) :
    Calls Tryz.prog 3 #[.slice a0 xs.length c0, .slice ps sn sc] w fun e w' => e = .returned (.bool true) ∧ Below w.heap.size w w' := by
  have hc := hyper_any F a0 xs.length c0 xs w hg h
  rw [(tim_yes ht).1, (tim_yes ht).2] at hc
  have hv := vd_of ht
  have HG : Hid (Gl w) := hg
  have HI : Hid (Is w G ps sn sc ss) := hi
  have hscap := hi.cap
  have hsmax := hi.max
  have hbd := slots_bound ht
  have htab := tab_runs hv
  have HSI : Hid (∀ t q, Slt.Sits (zl (Rule.runsOf (Rule.occ (sys xs)) 0 (hyp xs))) (zl (Rule.runsOf (Rule.occ (sys xs)) (hyp xs) (hyp xs))) (hyp xs) t q → Slt.who (zl (Rule.runsOf (Rule.occ (sys xs)) 0 (hyp xs))) (zl (Rule.runsOf (Rule.occ (sys xs)) (hyp xs) (hyp xs))) (hyp xs) t q = (Rule.occ (sys xs) t : Nat)) := fun t q hs => who_runs hv hs
  have HPN : Hid (∀ (a m q : Nat), q < (zl (Rule.runsOf (Rule.occ (sys xs)) a m)).length → (Slt.gt (zl (Rule.runsOf (Rule.occ (sys xs)) a m)) q).2 ≤ (xs.length : Int)) := fun a m q hq => by
    rw [zl_len] at hq
    obtain ⟨x, hx⟩ : ∃ x, (Rule.runsOf (Rule.occ (sys xs)) a m)[q]? = some x := ⟨_, List.getElem?_eq_getElem hq⟩
    rw [zl_gt hx]
    have h1 := (Rule.runsOf_tile (Rule.occ (sys xs)) a m).pos x (List.mem_of_getElem? hx)
    have h3 := (Rule.runsOf_tile (Rule.occ (sys xs)) a m).at' q x hx _ (Nat.le_refl _) (by omega)
    have h4 := Rule.occ_le (sys xs) (a + Rule.pre (Rule.runsOf (Rule.occ (sys xs)) a m) q)
    have e : (sys xs).n = xs.length := rfl
    simp only
    omega
  have HM : Hid (∀ W, Kept No w W → Calls Tryz.prog 10 #[.slice a0 xs.length c0] W fun e w' => ∃ g0 g1, e = .returned (.tuple #[.agg #[.slice (some ⟨g0, 0, none⟩) (Rule.runsOf (Rule.occ (sys xs)) 0 (hyp xs)).length (Rule.runsOf (Rule.occ (sys xs)) 0 (hyp xs)).length, .slice (some ⟨g1, 0, none⟩) (Rule.runsOf (Rule.occ (sys xs)) (hyp xs) (hyp xs)).length (Rule.runsOf (Rule.occ (sys xs)) (hyp xs) (hyp xs)).length], .int .i64 0]) ∧ Pt w' W.heap.size g0 (Rule.runsOf (Rule.occ (sys xs)) 0 (hyp xs)) ∧ Pt w' W.heap.size g1 (Rule.runsOf (Rule.occ (sys xs)) (hyp xs) (hyp xs)) ∧ g0 ≠ g1 ∧ Kept No W w') := fun W k => make_yes W (hg.kept k) (h.keep k) (fun j hj => Nat.lt_of_lt_of_le (hF j hj) k.size) ht
  have HOA : Hid (∀ (x : Int) W, Kept No w W → ∃ O E : Int, Calls Tryz.prog 14 #[.slice a0 xs.length c0, .int .i64 x] W (fun e w' => e = .returned (.tuple #[.int .i64 O, .int .i64 E]) ∧ Kept No W w') ∧ ((0 ≤ x ∧ x < 1099511627776 ∧ O = (Rule.occ (sys xs) x.toNat : Nat) ∧ E = 0) ∨ ((x < 0 ∨ 1099511627776 ≤ x) ∧ O = 0 ∧ E = 2))) := fun x W k => by
    by_cases hx : 0 ≤ x ∧ x < 1099511627776
    · have := at_yes x.toNat W (hg.kept k) (h.keep k) (fun j hj => Nat.lt_of_lt_of_le (hF j hj) k.size) ht (by omega)
      rw [show ((x.toNat : Nat) : Int) = x by omega] at this
      exact ⟨_, _, this, .inl ⟨hx.1, hx.2, rfl, rfl⟩⟩
    · exact ⟨_, _, occAt_arg x W (hg.kept k) (h.keep k) ht (by omega), .inr ⟨by omega, rfl, rfl⟩⟩
  have hne : 1 ≤ (Rule.runsOf (Rule.occ (sys xs)) 0 (hyp xs)).length ∧ 1 ≤ (Rule.runsOf (Rule.occ (sys xs)) (hyp xs) (hyp xs)).length := ⟨List.length_pos_iff.2 (Rule.runsOf_pos _ _ hv.hyp1), List.length_pos_iff.2 (Rule.runsOf_pos _ _ hv.hyp1)⟩
  have hP1 := HPN.out 0 (hyp xs)
  have hP2 := HPN.out (hyp xs) (hyp xs)
  clear HPN hg h hF ht hi hv
  generalize Rule.runsOf (Rule.occ (sys xs)) 0 (hyp xs) = P at *
  generalize Rule.runsOf (Rule.occ (sys xs)) (hyp xs) (hyp xs) = C at *
  have HTB : Hid (Slt.Tab (zl P) (zl C) (hyp xs) ∧ (1 ≤ P.length ∧ 1 ≤ C.length) ∧ (∀ q, q < (zl P).length → (Slt.gt (zl P) q).2 ≤ (xs.length : Int)) ∧ (∀ q, q < (zl C).length → (Slt.gt (zl C) q).2 ≤ (xs.length : Int))) := ⟨htab, hne, hP1, hP2⟩
  have hH0 : ((hyp xs : Nat) : Int) ≠ 0 := by have := htab.pos; omega
  clear htab hne hP1 hP2
  obtain ⟨zH, ezH⟩ : ∃ z : Int, ((hyp xs : Nat) : Int) = z := ⟨_, rfl⟩
  rw [ezH] at hc
  have HZ : Hid (((hyp xs : Nat) : Int) = zH) := ezH
  have hbz : (P.length : Int) + (C.length : Int) ≤ 131074 := by omega
  clear ezH hH0 hbd
  go_enter Tryz.func3, Tryz.ntmps3
  go_upto_region 2 with (go_at_call 9; refine hc.mono ?_; rintro e w1 ⟨rfl, hk1⟩; have H1 : Hid (Kept No w w1) := hk1; clear hk1 hc)
  have hm := HM.out w1 H1.out
  go_upto_region 3 with (go_at_call 10; refine hm.mono ?_; rintro e w2 ⟨g0, g1, rfl, hp0, hp1, hgg, hk2⟩; have H2 : Hid (Pt w2 w1.heap.size g0 P ∧ Pt w2 w1.heap.size g1 C ∧ Kept No w w2) := ⟨hp0, hp1, H1.out.trans hk2 (fun _ h => h.elim)⟩; clear hp0 hp1 hgg hk2 hm)
  have b3 := World.alloc_heap_new w2 (.cells #[.slice (some ⟨g0, 0, none⟩) P.length P.length, .slice (some ⟨g1, 0, none⟩) C.length C.length] 29)
  have ka : Kept No w2 (w2.alloc (.cells #[.slice (some ⟨g0, 0, none⟩) P.length P.length, .slice (some ⟨g1, 0, none⟩) C.length C.length] 29)) := (Kept.refl No w2).alloc _
  have H3 : Hid (Pt (w2.alloc (.cells #[.slice (some ⟨g0, 0, none⟩) P.length P.length, .slice (some ⟨g1, 0, none⟩) C.length C.length] 29)) w1.heap.size g0 P ∧ Pt (w2.alloc (.cells #[.slice (some ⟨g0, 0, none⟩) P.length P.length, .slice (some ⟨g1, 0, none⟩) C.length C.length] 29)) w1.heap.size g1 C ∧ Kept No w (w2.alloc (.cells #[.slice (some ⟨g0, 0, none⟩) P.length P.length, .slice (some ⟨g1, 0, none⟩) C.length C.length] 29)) ∧ (w2.alloc (.cells #[.slice (some ⟨g0, 0, none⟩) P.length P.length, .slice (some ⟨g1, 0, none⟩) C.length C.length] 29)).heap[w2.heap.size]? = some (.cells #[.slice (some ⟨g0, 0, none⟩) P.length P.length, .slice (some ⟨g1, 0, none⟩) C.length C.length] 29)) := ⟨H2.out.1.kept ka (fun h => h), H2.out.2.1.kept ka (fun h => h), H2.out.2.2.trans ka (fun _ h => h.elim), b3⟩
  clear b3 ka H2
  generalize w2.alloc (.cells #[.slice (some ⟨g0, 0, none⟩) P.length P.length, .slice (some ⟨g1, 0, none⟩) C.length C.length] 29) = w3 at *
  generalize w2.heap.size = T at *
  by_cases hlen : (1000 : Int) < sn
  · have hl := lives_any w3 (HG.out.kept H3.out.2.2.1)
    go_wp2_with (go_at_call 11; refine hl.mono ?_; rintro e w4 ⟨rfl, hk4⟩; have H4 : Hid (Kept No w w4) := H3.out.2.2.1.trans hk4 (fun _ h => h.elim); clear hk4 hl)
    go_ret
    exact ⟨rfl, H4.out.below0⟩
  · have HTP : Hid (∀ W, Kept No w3 W → Calls Tryz.prog 12 #[.slice (some ⟨g0, 0, none⟩) P.length P.length] W fun e w' => e = .returned (.int .i64 zH) ∧ Kept No W w') := fun W k => by
      have := total_any W (H3.out.1.kept k (fun h => h)).sl HTB.out.1.p
      rw [← zl_len, HTB.out.1.hp, HZ.out, zl_len] at this
      exact this
    have HTC : Hid (∀ W, Kept No w3 W → Calls Tryz.prog 12 #[.slice (some ⟨g1, 0, none⟩) C.length C.length] W fun e w' => e = .returned (.int .i64 zH) ∧ Kept No W w') := fun W k => by
      have := total_any W (H3.out.2.1.kept k (fun h => h)).sl HTB.out.1.c
      rw [← zl_len, HTB.out.1.hc, HZ.out, zl_len] at this
      exact this
    have HGP : Hid (∀ W, Kept No w3 W → Calls Tryz.prog 13 #[.slice (some ⟨g0, 0, none⟩) P.length P.length, .int .i64 (xs.length : Int)] W fun e w' => e = .returned (.bool true) ∧ Kept No W w') := fun W k => tight_yes _ W (H3.out.1.kept k (fun h => h)).sl HTB.out.1.p (fun q hq => HTB.out.2.2.1 q (by rw [zl_len]; exact hq)) HTB.out.2.1.1
    have HGC : Hid (∀ W, Kept No w3 W → Calls Tryz.prog 13 #[.slice (some ⟨g1, 0, none⟩) C.length C.length, .int .i64 (xs.length : Int)] W fun e w' => e = .returned (.bool true) ∧ Kept No W w') := fun W k => tight_yes _ W (H3.out.2.1.kept k (fun h => h)).sl HTB.out.1.c (fun q hq => HTB.out.2.2.2 q (by rw [zl_len]; exact hq)) HTB.out.2.1.2
    have Kw3 : Hid (Kept No w3 w3) := Kept.refl _ _
    have c1 := HTP.out w3 Kw3.out
    obtain ⟨d0, d1⟩ := bx2 H3.out.2.2.2
    go_upto_region 7 with (first
      | (go_at_call 12; refine c1.mono ?_; rintro e w4 ⟨rfl, hk⟩; have Kw4 : Hid (Kept No w3 w4) := Kw3.out.trans hk (fun _ h => h.elim); clear hk c1 d0 d1; obtain ⟨d0, d1⟩ := bx2 (Kw4.out.at' H3.out.2.2.2 (fun h => h)); have c2 := HTC.out w4 Kw4.out)
      | (go_at_call 12; refine c2.mono ?_; rintro e w5 ⟨rfl, hk⟩; have Kw5 : Hid (Kept No w3 w5) := Kw4.out.trans hk (fun _ h => h.elim); clear hk c2 d0 d1; obtain ⟨d0, d1⟩ := bx2 (Kw5.out.at' H3.out.2.2.2 (fun h => h)); have c3 := HGP.out w5 Kw5.out)
      | (go_at_call 13; refine c3.mono ?_; rintro e w6 ⟨rfl, hk⟩; have Kw6 : Hid (Kept No w3 w6) := Kw5.out.trans hk (fun _ h => h.elim); clear hk c3 d0 d1; obtain ⟨d0, d1⟩ := bx2 (Kw6.out.at' H3.out.2.2.2 (fun h => h)); have c4 := HGC.out w6 Kw6.out)
      | (go_at_call 13; refine c4.mono ?_; rintro e w7 ⟨rfl, hk⟩; have Kw7 : Hid (Kept No w3 w7) := Kw6.out.trans hk (fun _ h => h.elim); clear hk c4 d0 d1; obtain ⟨d0, d1⟩ := bx2 (Kw7.out.at' H3.out.2.2.2 (fun h => h)); have c5 := lives_any w7 (HG.out.kept (H3.out.2.2.1.trans Kw7.out (fun _ h => h.elim))))
      | (go_at_call 11; refine c5.mono ?_; rintro e w8 ⟨rfl, hk⟩; have Kw8 : Hid (Kept No w3 w8) := Kw7.out.trans hk (fun _ h => h.elim); clear hk c5 d0 d1; obtain ⟨d0, d1⟩ := bx2 (Kw8.out.at' H3.out.2.2.2 (fun h => h))))
    have HSA : Hid (∀ (x O E : Int) W, Kept No w3 W → ((0 ≤ x ∧ x < 1099511627776 ∧ O = (Rule.occ (sys xs) x.toNat : Nat) ∧ E = 0) ∨ ((x < 0 ∨ 1099511627776 ≤ x) ∧ O = 0 ∧ E = 2)) → Calls Tryz.prog 15 #[.agg #[.slice (some ⟨g0, 0, none⟩) P.length P.length, .slice (some ⟨g1, 0, none⟩) C.length C.length], .int .i64 x] W fun e w' => e = .returned (.tuple #[.int .i64 O, .int .i64 E]) ∧ Kept No W w') := fun x O E W k hx => by
      have p0 := (H3.out.1.kept k (fun h => h))
      have p1 := (H3.out.2.1.kept k (fun h => h))
      rcases hx with ⟨h0, h1, rfl, rfl⟩ | ⟨h0, rfl, rfl⟩
      · obtain ⟨q, hs⟩ := HTB.out.1.sits x.toNat
        have := sAt_yes (t := x.toNat) W p0.sl (fun j e => by have := p0.hi; omega) p1.sl (fun j e => by have := p1.hi; omega) HTB.out.1 (by omega) hs
        rw [HSI.out _ _ hs, show ((x.toNat : Nat) : Int) = x by omega] at this
        exact this
      · exact sAt_arg x W p0.sl (fun j e => by have := p0.hi; omega) p1.sl (fun j e => by have := p1.hi; omega) HTB.out.1 h0
    clear d0 d1 HTP HTC HGP HGC Kw3 Kw4 Kw5 Kw6 Kw7 HM H1 hbz HZ
    have hlen2 : sn ≤ 1000 := by omega
    clear hlen
    go_wp2
    go_loopw [9] (fun x wr => ∃ k : Nat, x = .int .i64 k ∧ k ≤ sn ∧ Kept No w3 wr) (fun x _ => sn - (intOf x).toNat)
    case atStart => exact ⟨0, rfl, Nat.zero_le _, Kw8.out⟩
    case round =>
      obtain ⟨k, rfl, hk, hkr⟩ := hrel
      have HR : Hid (Kept No w3 wr) := hkr
      clear hkr Kw8
      by_cases hlt : k < sn
      · have hltz : (k : Int) < sn := by omega
        obtain ⟨x, hx⟩ : ∃ x, ss[k]? = some x := ⟨_, List.getElem?_eq_getElem (by rw [HI.out.len]; exact hlt)⟩
        obtain ⟨g, o, rfl, _, hc⟩ := HI.out.at' k x hx
        have HC : Hid (∀ W, Kept No w3 W → W.cell? ⟨g, o + k, none⟩ = some (.int .i64 x)) := fun W kk => (H3.out.2.2.1.trans kk (fun _ h => h.elim)).cell hc (fun h => h)
        have e1 := HC.out wr HR.out
        obtain ⟨O, E, oa, hoe⟩ := HOA.out x wr (H3.out.2.2.1.trans HR.out (fun _ h => h.elim))
        have HOE : Hid ((0 ≤ x ∧ x < 1099511627776 ∧ O = (Rule.occ (sys xs) x.toNat : Nat) ∧ E = 0) ∨ ((x < 0 ∨ 1099511627776 ≤ x) ∧ O = 0 ∧ E = 2)) := hoe
        clear hc hx hoe
        go_upto_region 11 with (go_at_call 14; refine oa.mono ?_; rintro e w9 ⟨rfl, hk9⟩; have H9 : Hid (Kept No w3 w9) := HR.out.trans hk9 (fun _ h => h.elim); clear hk9 oa)
        clear e1
        have e1 := HC.out w9 H9.out
        obtain ⟨d0, d1⟩ := bx2 (H9.out.at' H3.out.2.2.2 (fun h => h))
        have kd : Kept No w3 w9.drew := H9.out.drew
        have sa := HSA.out x O E w9.drew kd HOE.out
        go_region_held (fun w' => w'.cell? ⟨T, 0, none⟩ = some (.slice (some ⟨g0, 0, none⟩) P.length P.length) ∧ w'.cell? ⟨T, 1, none⟩ = some (.slice (some ⟨g1, 0, none⟩) C.length C.length) ∧ w'.cell? ⟨g, o + k, none⟩ = some (.int .i64 x)) (go_keep) (first
          | (go_at_call 15; refine sa.mono ?_; rintro e w10 ⟨rfl, hk10⟩; have H10 : Hid (Kept No w3 w10) := kd.trans hk10 (fun _ h => h.elim); obtain ⟨r0, r1⟩ := bx2 (H10.out.at' H3.out.2.2.2 (fun h => h)); have r2 := HC.out w10 H10.out; clear hk10 sa))
        clear r0 r1 r2 d0 d1 e1 kd
        go_wp2
        go_roundw
        case rel => exact ⟨k + 1, by go_num, by omega, H10.out⟩
        case measure => simp [intOf]; omega
      · have hltz : ¬ (k : Int) < sn := by omega
        clear hk
        go_wp2
        go_ret
        exact ⟨rfl, (H3.out.2.2.1.trans HR.out (fun _ h => h.elim)).below0⟩
theorem stell_law {F G : Nat → Prop} {a0 : Option Addr} {c0 : Nat} {xs : List Srv} {ps : Option Addr} {sn sc : Nat} {ss : List Int} (w : World) (hg : Gl w) (h : Sv w F a0 xs.length c0 xs) (hF : ∀ k, F k → k < w.heap.size) (hi : Is w G ps sn sc ss) :
    Calls Tryz.prog 3 #[.slice a0 xs.length c0, .slice ps sn sc] w fun e w' => e = .returned (.bool true) ∧ Below w.heap.size w w' := by
  cases ht : timF xs xs.length with
  | none => exact stell_yes w hg h hF hi ht
  | some p => exact stell_no w hg h hi ht
end Go.Proofs.YtdcfcgmmjobdcaaGreatDoor
