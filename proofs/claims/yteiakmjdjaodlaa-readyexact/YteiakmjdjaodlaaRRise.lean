/-
  rise, sink.
-/
import Derived.Test.YteiakmjdjaodlaaRBelow
namespace Go.Proofs.Yteiakmjdjaodlaa
open Go.RowKit Go.Shelf Go.Sort
set_option linter.unusedVariables false

section
variable {w : World} {b mb c nx mo : Nat} {v : Value} {H : List En} {M : Int → Option Int}
/-- a line with a gap at a, into which e goes -/
def Gl (w : World) (b mb : Nat) (v : Value) (nx mo n a : Nat) (e : En) (C : En → Prop) : Prop :=
  ∃ H M c, Ol w b mb v H M c nx mo ∧ Gap (hd H) n a M e C ∧ H.length = n ∧ c + (if M e.id = none then 1 else 0) = n
def Gf (w : World) (b mb : Nat) (v : Value) (nx mo n : Nat) (C : En → Prop) : Prop :=
  ∃ H M, Ol w b mb v H M n nx mo ∧ Full (hd H) n M C ∧ H.length = n
end

/-- ids of all that are in are numbers -/
def Ci (C : En → Prop) : Prop := ∀ x, C x → I6 x.id

theorem Full.ext {h h' : Nat → En} {n : Nat} {M : Int → Option Int} {C : En → Prop} (k : Full h n M C) (hh : ∀ i, h i = h' i) : Full h' n M C := k.congr (fun i _ => hh i) (fun _ => Iff.rfl)
theorem Gap.ext {h h' : Nat → En} {n a : Nat} {M : Int → Option Int} {e : En} {C : En → Prop} (k : Gap h n a M e C) (hh : ∀ i, h i = h' i) : Gap h' n a M e C := k.congr (fun i _ => hh i) (fun _ => Iff.rfl)

/-- the last lay -/
theorem lay_done {w : World} {b mb c nx mo n a : Nat} {v : Value} {H : List En} {M : Int → Option Int} {e : En} {C : En → Prop} (hO : Ol w b mb v H M c nx mo) (hG : Gap (hd H) n a M e C) (hL : H.length = n) (hc : c + (if M e.id = none then 1 else 0) = n) (low : Low (hd H) n a e) (hu : 0 < a → lt' (hd H ((a - 1) / 2)) e) (hn : n ≤ 100000) (hi : I6 e.id) :
    Calls Try.prog 42 #[.pointer (some ⟨b, 0, none⟩), .int .i64 a, e.v] w fun ex w' => ex = .returned (.tuple #[]) ∧ Gf w' b mb v nx mo n C ∧ Kept (Fp b mb v) w w' := by
  refine (lay_any hO a (by rw [hL]; exact hG.at_lt) (by omega) (by omega) e hi).mono ?_
  rintro ex w' ⟨rfl, h1, h2⟩
  refine ⟨rfl, ⟨H.set a e, _, ?_, (hG.done low hu).ext (fun i => (hd_set e (by rw [hL]; exact hG.at_lt) i).symm), by rw [List.length_set]; exact hL⟩, h2⟩
  have : (if M e.id = none then c + 1 else c) = n := by split at hc <;> simp_all
  rw [this] at h1
  exact h1
/-- a lay that moves the gap -/
theorem lay_moved {w : World} {b mb c nx mo n a k : Nat} {v : Value} {H : List En} {M : Int → Option Int} {e : En} {C : En → Prop} (hO : Ol w b mb v H M c nx mo) (hG : Gap (hd H) n a M e C) (hL : H.length = n) (hc : c + (if M e.id = none then 1 else 0) = n) (hk : k < n) (hka : k ≠ a) (hG' : Gap (up' (hd H) a (hd H k)) n k (updM M (hd H k).id (some (a : Int))) e C) (hn : n ≤ 100000) (hi : I6 (hd H k).id) :
    Calls Try.prog 42 #[.pointer (some ⟨b, 0, none⟩), .int .i64 a, (hd H k).v] w fun ex w' => ex = .returned (.tuple #[]) ∧ (∃ M' c', Ol w' b mb v (H.set a (hd H k)) M' c' nx mo ∧ Gap (hd (H.set a (hd H k))) n k M' e C ∧ c' + (if M' e.id = none then 1 else 0) = n) ∧ Kept (Fp b mb v) w w' := by
  refine (lay_any hO a (by rw [hL]; exact hG.at_lt) (by omega) (by omega) (hd H k) hi).mono ?_
  rintro ex w' ⟨rfl, h1, h2⟩
  have hm := hG.map1 k hk hka
  rw [if_neg (by rw [hm]; simp)] at h1
  exact ⟨rfl, ⟨_, c, h1, hG'.ext (fun i => (hd_set _ (by rw [hL]; exact hG.at_lt) i).symm), by rw [updM_ne (fun e => hG.ne k hk hka e.symm)]; exact hc⟩, h2⟩

set_option maxHeartbeats 2000000 in
theorem rise_any {w : World} {b mb nx mo n : Nat} {v : Value} {e : En} {C : En → Prop} (a : Nat) (H : List En) (M : Int → Option Int) (c : Nat) (hO : Ol w b mb v H M c nx mo) (hG : Gap (hd H) n a M e C) (hL : H.length = n) (hc : c + (if M e.id = none then 1 else 0) = n) (low : Low (hd H) n a e) (hn : n ≤ 100000) (hC : Cu C) (hI : Ci C) :
    Calls Try.prog 36 #[.pointer (some ⟨b, 0, none⟩), .int .i64 a, e.v] w fun ex w' => ex = .returned (.tuple #[]) ∧ Gf w' b mb v nx mo n C ∧ Kept (Fp b mb v) w w' := by
  have HE : Hid (C e) := (hG.mem e).2 (.inl rfl)
  have hna := hG.at_lt
  have HQ : Hid ((w.alloc (.cells #[.int .i64 e.id, .int .i64 e.pr, .int .i64 e.pl] 57)).heap[w.heap.size]? = some (.cells #[.int .i64 e.id, .int .i64 e.pr, .int .i64 e.pl] 57)) := heap_last _ _
  have HP0 : Hid (∃ H M c, Ol (w.alloc (.cells #[.int .i64 e.id, .int .i64 e.pr, .int .i64 e.pl] 57)) b mb v H M c nx mo ∧ Gap (hd H) n a M e C ∧ H.length = n ∧ c + (if M e.id = none then 1 else 0) = n ∧ Low (hd H) n a e) := ⟨H, M, c, hO.below ((Below.refl _ w).alloc (Nat.le_refl _) _), hG, hL, hc, low⟩
  have HK0 : Hid (Kept (Fp b mb v) w (w.alloc (.cells #[.int .i64 e.id, .int .i64 e.pr, .int .i64 e.pl] 57))) := (Kept.refl _ w).alloc _
  have HFL : Hid (∀ k, Fp b mb v k → k < w.heap.size) := (fun k hk => hO.fp_lt hk)
  clear hO hG hL hc low H M c
  have ev : e.v = .agg #[.int .i64 e.id, .int .i64 e.pr, .int .i64 e.pl] := rfl
  rw [ev]
  clear ev
  go_enter Try.func36, Try.ntmps36
  go_wp2
  generalize w.alloc (.cells #[.int .i64 e.id, .int .i64 e.pr, .int .i64 e.pl] 57) = w1 at *
  go_loopw [1] (fun d wr => ∃ a' : Nat, d = .int .i64 a' ∧ (∃ H M c, Ol wr b mb v H M c nx mo ∧ Gap (hd H) n a' M e C ∧ H.length = n ∧ c + (if M e.id = none then 1 else 0) = n ∧ Low (hd H) n a' e) ∧ Kept (Fp b mb v) w wr ∧ wr.heap[w.heap.size]? = some (.cells #[.int .i64 e.id, .int .i64 e.pr, .int .i64 e.pl] 57)) (fun d _ => (intOf d).toNat)
  case atStart => exact ⟨a, rfl, HP0.out, HK0.out, HQ.out⟩
  case round =>
    clear HP0 HK0 HQ hna
    obtain ⟨a', rfl, ⟨H, M, c, hO, hG, hL, hc, low⟩, hK, hq⟩ := hrel
    clear a
    by_cases h0 : a' = 0
    · subst h0
      have cL := lay_done hO hG hL hc low (fun h => by omega) hn (hI e HE.out)
      have q0 := cell_of_row (k := 0) (v := .int .i64 e.id) hq rfl
      have q1 := cell_of_row (k := 1) (v := .int .i64 e.pr) hq rfl
      have q2 := cell_of_row (k := 2) (v := .int .i64 e.pl) hq rfl
      have HK : Hid (Kept (Fp b mb v) w wr) := hK
      clear hO hG hL hc low hK hq hI hC
      go_wp2_with (go_at_call 42; refine cL.mono ?_; rintro ex w2 ⟨rfl, hF, hK2⟩)
      go_end0
      exact ⟨rfl, hF, HK.out.trans hK2 (fun k hk => .inl hk)⟩
    · have hpos : 0 < a' := by omega
      have hlt := hG.at_lt
      obtain ⟨m, hm⟩ : ∃ m, m = (a' - 1) / 2 := ⟨_, rfl⟩
      have hmn : m < n := by omega
      have hma : m < a' := by omega
      obtain ⟨g, cap, hv, u1, u2, _⟩ := hO.get (k := m) (by omega)
      rw [hL] at hv u2
      subst hv
      have hcE : Cu C := hC
      have xC : C (hd H m) := (hG.mem _).2 (.inr ⟨m, hmn, by omega, rfl⟩)
      have hne := hG.ne m hmn (by omega)
      have htot := lt'.total (a := e) (b := hd H m) (fun e' => hne (by rw [hC e (hd H m) HE.out xC (.inl e')]))
      have r0 := fun n os => (hO.grown n os).heap
      have hg := fun n os => (hO.grown n os).get (k := m) (by omega)
      have s0 : ∀ n os, (grow (wr.drewN n) os).cell? ⟨g, m * 3, none⟩ = some (.int .i64 (hd H m).id) := fun n os => by obtain ⟨g', cap', e, _, _, h3, _⟩ := hg n os; injection e with e; injection e with e; injection e with e; subst e; exact h3
      have s1 : ∀ n os, (grow (wr.drewN n) os).cell? ⟨g, m * 3 + 1, none⟩ = some (.int .i64 (hd H m).pr) := fun n os => by obtain ⟨g', cap', e, _, _, _, h3, _⟩ := hg n os; injection e with e; injection e with e; injection e with e; subst e; exact h3
      have s2 : ∀ n os, (grow (wr.drewN n) os).cell? ⟨g, m * 3 + 2, none⟩ = some (.int .i64 (hd H m).pl) := fun n os => by obtain ⟨g', cap', e, _, _, _, _, h3, _⟩ := hg n os; injection e with e; injection e with e; injection e with e; subst e; exact h3
      have hq' : ∀ n os, (grow (wr.drewN n) os).heap[w.heap.size]? = some (.cells #[.int .i64 e.id, .int .i64 e.pr, .int .i64 e.pl] 57) := fun n os => (Kept.of_below (F := No) (below_grow wr n os)).at' hq (fun h => h)
      have t0 : ∀ n os, (grow (wr.drewN n) os).cell? ⟨w.heap.size, 0, none⟩ = some (.int .i64 e.id) := fun n os => cell_of_row (hq' n os) rfl
      have t1 : ∀ n os, (grow (wr.drewN n) os).cell? ⟨w.heap.size, 1, none⟩ = some (.int .i64 e.pr) := fun n os => cell_of_row (hq' n os) rfl
      have t2 : ∀ n os, (grow (wr.drewN n) os).cell? ⟨w.heap.size, 2, none⟩ = some (.int .i64 e.pl) := fun n os => cell_of_row (hq' n os) rfl
      have cE := fun W' => compare_any e (hd H m) W'
      have HC1 : Hid (cmpE e (hd H m) > 0 ↔ lt' (hd H m) e) := cmpE_gt
      have HHI : Hid (I6 (hd H m).id) := hI _ xC
      have HST : Hid (Ol wr b mb (.slice (some ⟨g, 0, none⟩) n cap) H M c nx mo ∧ Gap (hd H) n a' M e C ∧ H.length = n ∧ c + (if M e.id = none then 1 else 0) = n ∧ Low (hd H) n a' e ∧ Kept (Fp b mb (.slice (some ⟨g, 0, none⟩) n cap)) w wr) := ⟨hO, hG, hL, hc, low, hK⟩
      have HTOT : Hid (lt' e (hd H m) ∨ lt' (hd H m) e) := htot
      have HHQ : Hid (∀ n os, (grow (wr.drewN n) os).heap[w.heap.size]? = some (.cells #[.int .i64 e.id, .int .i64 e.pr, .int .i64 e.pl] 57)) := hq'
      have HM : Hid (m = (a' - 1) / 2) := hm
      have HIE : Hid (I6 e.id) := hI e HE.out
      unfold En.v at cE
      generalize cmpE e (hd H m) = r at cE HC1
      have HHX : Hid (∃ x, x = hd H m) := ⟨_, rfl⟩
      obtain ⟨x, hx⟩ := HHX.out
      rw [← hx] at s0 s1 s2 cE HC1 HTOT
      have HX : Hid (x = hd H m) := hx
      have hmix := follows_mixed
      clear hL hO hG hc low hK hq hI hC hcE xC hne htot hg hq' hm hx HHX
      go_upto_region 3 with fail
      have EM : ((a' : Int) - 1) / 2 = (m : Int) := by have := HM.out; omega
      rw [EM]
      clear EM
      go_quiet_grown ((go_at_call 35; exact Calls.grown_of (cE _)))
      have HO2 := HST.out.1.grown nq osq
      have hq2 := HHQ.out nq osq
      have hK2 : Kept (Fp b mb (.slice (some ⟨g, 0, none⟩) n cap)) w (grow (wr.drewN nq) osq) := HST.out.2.2.2.2.2.trans (Kept.of_below (F := No) (below_grow wr nq osq)) (fun k hk => hk.elim)
      replace r0 := r0 nq osq
      replace s0 := s0 nq osq
      replace s1 := s1 nq osq
      replace s2 := s2 nq osq
      replace t0 := t0 nq osq
      replace t1 := t1 nq osq
      replace t2 := t2 nq osq
      change Exit.then _ _ _ _ (grow (wr.drewN nq) osq)
      generalize grow (wr.drewN nq) osq = w2 at *
      by_cases hr : r > 0
      · have cL := lay_done HO2 HST.out.2.1 HST.out.2.2.1 HST.out.2.2.2.1 HST.out.2.2.2.2.1 (fun _ => by rw [← HM.out, ← HX.out]; exact HC1.out.1 hr) hn HIE.out
        have HK : Hid (Kept (Fp b mb (.slice (some ⟨g, 0, none⟩) n cap)) w w2) := hK2
        clear HO2 hK2 hq2
        go_wp2_with (go_at_call 42; refine cL.mono ?_; rintro ex w3 ⟨rfl, hF, hK3⟩)
        go_end0
        exact ⟨rfl, hF, HK.out.trans hK3 (fun k hk => .inl hk)⟩
      · have hle : lt' e x := HTOT.out.resolve_right (fun h => hr (HC1.out.2 h))
        have hR := HST.out.2.1.rise hpos (by rw [← HM.out, ← HX.out]; exact hle) HST.out.2.2.2.2.1
        rw [← HM.out] at hR
        have cL := lay_moved HO2 HST.out.2.1 HST.out.2.2.1 HST.out.2.2.2.1 hmn (by omega) hR.1 hn HHI.out
        have HLOW : Hid (Low (hd (H.set a' x)) n m e) := (by
          have h2 := hR.2
          rw [← HX.out] at h2
          intro i i0 hi hp
          rw [hd_set _ (by rw [HST.out.2.2.1]; exact hlt)]
          exact h2 i i0 hi hp)
        rw [← HX.out] at cL
        unfold En.v at cL
        have HK : Hid (Kept (Fp b mb (.slice (some ⟨g, 0, none⟩) n cap)) w w2) := hK2
        have HQ2 : Hid (w2.heap[w.heap.size]? = some (.cells #[.int .i64 e.id, .int .i64 e.pr, .int .i64 e.pl] 57)) := hq2
        clear HO2 hK2 hq2 hR hle
        go_wp2_with (go_at_call 42; refine cL.mono ?_; rintro ex w3 ⟨rfl, hF, hK3⟩)
        go_roundw
        case rel =>
          obtain ⟨M', c', f1, f2, f3⟩ := hF
          exact ⟨m, rfl, ⟨_, M', c', f1, f2, by rw [List.length_set]; exact HST.out.2.2.1, f3, HLOW.out⟩, HK.out.trans hK3 (fun k hk => .inl hk), hK3.at' HQ2.out (fun h => Nat.lt_irrefl _ (HFL.out _ h))⟩
        case measure => simp [intOf]; omega

theorem fb_spec {H : List En} {n a : Nat} {M : Int → Option Int} {e : En} {C : En → Prop} (hG : Gap (hd H) n a M e C) (hL : H.length = n) (hC : Cu C) (h : 2 * a + 1 < n) : fb H a < n ∧ 0 < fb H a ∧ (fb H a - 1) / 2 = a ∧ ∀ i, 0 < i → i < n → (i - 1) / 2 = a → i ≠ fb H a → lt' (hd H (fb H a)) (hd H i) := by
  unfold fb
  rw [hL, if_neg (by omega)]
  by_cases h2 : 2 * a + 2 < n ∧ lt' (hd H (2 * a + 2)) (hd H (2 * a + 1))
  · rw [if_pos h2]
    refine ⟨h2.1, by omega, by omega, fun i i0 hi hp hne => ?_⟩
    have : i = 2 * a + 1 := by omega
    subst this
    exact h2.2
  · rw [if_neg h2]
    refine ⟨h, by omega, by omega, fun i i0 hi hp hne => ?_⟩
    have : i = 2 * a + 2 := by omega
    subst this
    refine (lt'.total (fun e' => ?_)).resolve_right (fun h3 => h2 ⟨hi, h3⟩)
    have c1 : C (hd H (2 * a + 1)) := (hG.mem _).2 (.inr ⟨_, h, by omega, rfl⟩)
    have c2 : C (hd H (2 * a + 2)) := (hG.mem _).2 (.inr ⟨_, hi, by omega, rfl⟩)
    have := hC _ _ c1 c2 (.inl e')
    have m1 := hG.map1 _ h (by omega)
    have m2 := hG.map1 _ hi (by omega)
    rw [this, m2] at m1
    injection m1 with m1
    omega

set_option maxHeartbeats 2000000 in
theorem sink_any {w : World} {b mb nx mo n : Nat} {v : Value} {e : En} {C : En → Prop} (a : Nat) (H : List En) (M : Int → Option Int) (c : Nat) (hO : Ol w b mb v H M c nx mo) (hG : Gap (hd H) n a M e C) (hL : H.length = n) (hc : c + (if M e.id = none then 1 else 0) = n) (hn : n ≤ 100000) (hC : Cu C) (hI : Ci C) :
    Calls Try.prog 37 #[.pointer (some ⟨b, 0, none⟩), .int .i64 a, e.v] w fun ex w' => ∃ a' : Nat, ex = .returned (.int .i64 a') ∧ (∃ H M c, Ol w' b mb v H M c nx mo ∧ Gap (hd H) n a' M e C ∧ H.length = n ∧ c + (if M e.id = none then 1 else 0) = n ∧ Low (hd H) n a' e) ∧ Kept (Fp b mb v) w w' := by
  have HE : Hid (C e) := (hG.mem e).2 (.inl rfl)
  have HCU : Hid (Cu C) := hC
  have HCI : Hid (Ci C) := hI
  have hna := hG.at_lt
  have HQ : Hid ((w.alloc (.cells #[.int .i64 e.id, .int .i64 e.pr, .int .i64 e.pl] 57)).heap[w.heap.size]? = some (.cells #[.int .i64 e.id, .int .i64 e.pr, .int .i64 e.pl] 57)) := heap_last _ _
  have HP0 : Hid (∃ H M c, Ol (w.alloc (.cells #[.int .i64 e.id, .int .i64 e.pr, .int .i64 e.pl] 57)) b mb v H M c nx mo ∧ Gap (hd H) n a M e C ∧ H.length = n ∧ c + (if M e.id = none then 1 else 0) = n) := ⟨H, M, c, hO.below ((Below.refl _ w).alloc (Nat.le_refl _) _), hG, hL, hc⟩
  have HK0 : Hid (Kept (Fp b mb v) w (w.alloc (.cells #[.int .i64 e.id, .int .i64 e.pr, .int .i64 e.pl] 57))) := (Kept.refl _ w).alloc _
  have HFL : Hid (∀ k, Fp b mb v k → k < w.heap.size) := (fun k hk => hO.fp_lt hk)
  clear hO hG hL hc H M c hC hI
  have ev : e.v = .agg #[.int .i64 e.id, .int .i64 e.pr, .int .i64 e.pl] := rfl
  rw [ev]
  clear ev
  go_enter Try.func37, Try.ntmps37
  go_wp2
  generalize w.alloc (.cells #[.int .i64 e.id, .int .i64 e.pr, .int .i64 e.pl] 57) = w1 at *
  go_loopw [1] (fun d wr => ∃ a' : Nat, d = .int .i64 a' ∧ (∃ H M c, Ol wr b mb v H M c nx mo ∧ Gap (hd H) n a' M e C ∧ H.length = n ∧ c + (if M e.id = none then 1 else 0) = n) ∧ Kept (Fp b mb v) w wr ∧ wr.heap[w.heap.size]? = some (.cells #[.int .i64 e.id, .int .i64 e.pr, .int .i64 e.pl] 57)) (fun d _ => n - (intOf d).toNat)
  case atStart => exact ⟨a, rfl, HP0.out, HK0.out, HQ.out⟩
  case round =>
    clear HP0 HK0 HQ hna
    obtain ⟨a', rfl, ⟨H, M, c, hO, hG, hL, hc⟩, hK, hq⟩ := hrel
    clear a
    have hlt := hG.at_lt
    have cB := firstBelow_any hO a' (by omega) (by omega)
    by_cases h0 : n ≤ 2 * a' + 1
    · have HF : Hid (fb H a' = a') := (show _ = _ by unfold fb; rw [hL, if_pos h0])
      rw [HF.out] at cB
      have HST : Hid (Ol wr b mb v H M c nx mo ∧ Gap (hd H) n a' M e C ∧ H.length = n ∧ c + (if M e.id = none then 1 else 0) = n ∧ Kept (Fp b mb v) w wr) := ⟨hO, hG, hL, hc, hK⟩
      clear hO hG hL hc hK hq
      go_upto_region 2 with (go_at_call 43; refine cB.mono ?_; rintro ex w2 ⟨rfl, hB2⟩)
      have HB2 : Hid (Below wr.heap.size wr w2) := hB2
      clear hB2 cB
      go_quiet (fail)
      go_wp2
      go_ret
      have hb3 : Below wr.heap.size wr (w2.drewN nq) := HB2.out.trans ⟨rfl, rfl, rfl, Nat.le_refl _, fun _ _ => rfl⟩
      exact ⟨a', rfl, ⟨H, M, c, HST.out.1.below hb3, HST.out.2.1, HST.out.2.2.1, HST.out.2.2.2.1, fun i i0 hi hp => by omega⟩, HST.out.2.2.2.2.trans (Kept.of_below (F := No) hb3) (fun k hk => hk.elim)⟩
    · obtain ⟨m, hm⟩ : ∃ m, m = fb H a' := ⟨_, rfl⟩
      obtain ⟨hmn, hm0, hmp, hmo⟩ := fb_spec hG hL HCU.out (by omega)
      rw [← hm] at cB hmn hm0 hmp hmo
      have hma : a' < m := by omega
      obtain ⟨g, cap, hv, u1, u2, _⟩ := hO.get (k := m) (by omega)
      rw [hL] at hv u2
      subst hv
      have xC : C (hd H m) := (hG.mem _).2 (.inr ⟨m, hmn, by omega, rfl⟩)
      have HST : Hid (Ol wr b mb (.slice (some ⟨g, 0, none⟩) n cap) H M c nx mo ∧ Gap (hd H) n a' M e C ∧ H.length = n ∧ c + (if M e.id = none then 1 else 0) = n ∧ (∀ i, 0 < i → i < n → (i - 1) / 2 = a' → i ≠ m → lt' (hd H m) (hd H i)) ∧ Kept (Fp b mb (.slice (some ⟨g, 0, none⟩) n cap)) w wr) := ⟨hO, hG, hL, hc, hmo, hK⟩
      have HHI : Hid (I6 (hd H m).id) := HCI.out _ xC
      have HHQ : Hid (wr.heap[w.heap.size]? = some (.cells #[.int .i64 e.id, .int .i64 e.pr, .int .i64 e.pl] 57)) := hq
      have HMP : Hid ((m - 1) / 2 = a') := hmp
      clear hO hG hL hc hK hq hmo xC hm h0 hmp
      go_upto_region 2 with (go_at_call 43; refine cB.mono ?_; rintro ex w2 ⟨rfl, hB2⟩)
      have HO2 := HST.out.1.below hB2
      have HQ2 : w2.heap[w.heap.size]? = some (.cells #[.int .i64 e.id, .int .i64 e.pr, .int .i64 e.pl] 57) := (Kept.of_below (F := No) hB2).at' HHQ.out (fun h => h)
      have HK2 : Hid (Kept (Fp b mb (.slice (some ⟨g, 0, none⟩) n cap)) w w2) := HST.out.2.2.2.2.2.trans (Kept.of_below (F := No) hB2) (fun k hk => hk.elim)
      have r0 := fun n os => (HO2.grown n os).heap
      have hg := fun n os => (HO2.grown n os).get (k := m) (by rw [HST.out.2.2.1]; exact hmn)
      have s0 : ∀ n os, (grow (w2.drewN n) os).cell? ⟨g, m * 3, none⟩ = some (.int .i64 (hd H m).id) := fun n os => by obtain ⟨g', cap', e, _, _, h3, _⟩ := hg n os; injection e with e; injection e with e; injection e with e; subst e; exact h3
      have s1 : ∀ n os, (grow (w2.drewN n) os).cell? ⟨g, m * 3 + 1, none⟩ = some (.int .i64 (hd H m).pr) := fun n os => by obtain ⟨g', cap', e, _, _, _, h3, _⟩ := hg n os; injection e with e; injection e with e; injection e with e; subst e; exact h3
      have s2 : ∀ n os, (grow (w2.drewN n) os).cell? ⟨g, m * 3 + 2, none⟩ = some (.int .i64 (hd H m).pl) := fun n os => by obtain ⟨g', cap', e, _, _, _, _, h3, _⟩ := hg n os; injection e with e; injection e with e; injection e with e; subst e; exact h3
      have hq' : ∀ n os, (grow (w2.drewN n) os).heap[w.heap.size]? = some (.cells #[.int .i64 e.id, .int .i64 e.pr, .int .i64 e.pl] 57) := fun n os => (Kept.of_below (F := No) (below_grow w2 n os)).at' HQ2 (fun h => h)
      have t0 : ∀ n os, (grow (w2.drewN n) os).cell? ⟨w.heap.size, 0, none⟩ = some (.int .i64 e.id) := fun n os => cell_of_row (hq' n os) rfl
      have t1 : ∀ n os, (grow (w2.drewN n) os).cell? ⟨w.heap.size, 1, none⟩ = some (.int .i64 e.pr) := fun n os => cell_of_row (hq' n os) rfl
      have t2 : ∀ n os, (grow (w2.drewN n) os).cell? ⟨w.heap.size, 2, none⟩ = some (.int .i64 e.pl) := fun n os => cell_of_row (hq' n os) rfl
      have cE := fun W' => compare_any e (hd H m) W'
      have HC1 : Hid (cmpE e (hd H m) < 0 ↔ lt' e (hd H m)) := cmpE_lt
      have HHQ2 : Hid (∀ n os, (grow (w2.drewN n) os).heap[w.heap.size]? = some (.cells #[.int .i64 e.id, .int .i64 e.pr, .int .i64 e.pl] 57)) := hq'
      have HHO2 : Hid (Ol w2 b mb (.slice (some ⟨g, 0, none⟩) n cap) H M c nx mo) := HO2
      unfold En.v at cE
      generalize cmpE e (hd H m) = r at cE HC1
      obtain ⟨x, hx⟩ : ∃ x, x = hd H m := ⟨_, rfl⟩
      rw [← hx] at s0 s1 s2 cE HC1
      have HX : Hid (x = hd H m) := hx
      have hmix := follows_mixed
      have gd : ((m : Int) == (a' : Int)) = false := by simp; omega
      clear HO2 HQ2 hg hq' hx hB2 cB HHQ
      go_quiet_grown ((go_at_call 35; exact Calls.grown_of (cE _)))
      have HO3 := HHO2.out.grown nq osq
      have hq2 := HHQ2.out nq osq
      have hK3 : Kept (Fp b mb (.slice (some ⟨g, 0, none⟩) n cap)) w (grow (w2.drewN nq) osq) := HK2.out.trans (Kept.of_below (F := No) (below_grow w2 nq osq)) (fun k hk => hk.elim)
      replace r0 := r0 nq osq
      replace s0 := s0 nq osq
      replace s1 := s1 nq osq
      replace s2 := s2 nq osq
      clear t0 t1 t2
      change Exit.then _ _ _ _ (grow (w2.drewN nq) osq)
      generalize grow (w2.drewN nq) osq = w3 at *
      by_cases hr : r < 0
      · have HR : Hid (∃ a' : Nat, Ending.returned (.int .i64 a') = .returned (.int .i64 a')) := ⟨a', rfl⟩
        have HRES : Hid ((∃ H M c, Ol w3 b mb (.slice (some ⟨g, 0, none⟩) n cap) H M c nx mo ∧ Gap (hd H) n a' M e C ∧ H.length = n ∧ c + (if M e.id = none then 1 else 0) = n ∧ Low (hd H) n a' e) ∧ Kept (Fp b mb (.slice (some ⟨g, 0, none⟩) n cap)) w w3) := (by
          refine ⟨⟨H, M, c, HO3, HST.out.2.1, HST.out.2.2.1, HST.out.2.2.2.1, fun i i0 hi hp => ?_⟩, hK3⟩
          have hex : lt' e (hd H m) := by rw [← HX.out]; exact HC1.out.1 hr
          by_cases him : i = m
          · rw [him]; exact hex
          · exact hex.trans (HST.out.2.2.2.2.1 i i0 hi hp him))
        clear HO3 hK3 hq2
        go_wp2
        go_ret
        exact ⟨a', rfl, HRES.out⟩
      · have hR := HST.out.2.1.sink hmn hm0 HMP.out HST.out.2.2.2.2.1
        have cL := lay_moved HO3 HST.out.2.1 HST.out.2.2.1 HST.out.2.2.2.1 hmn (by omega) hR hn HHI.out
        rw [← HX.out] at cL
        unfold En.v at cL
        have HK : Hid (Kept (Fp b mb (.slice (some ⟨g, 0, none⟩) n cap)) w w3) := hK3
        have HQ3 : Hid (w3.heap[w.heap.size]? = some (.cells #[.int .i64 e.id, .int .i64 e.pr, .int .i64 e.pl] 57)) := hq2
        clear HO3 hK3 hq2 hR
        go_wp2_with (go_at_call 42; refine cL.mono ?_; rintro ex w4 ⟨rfl, hF, hK4⟩)
        go_roundw
        case rel =>
          obtain ⟨M', c', f1, f2, f3⟩ := hF
          exact ⟨m, rfl, ⟨_, M', c', f1, f2, by rw [List.length_set]; exact HST.out.2.2.1, f3⟩, HK.out.trans hK4 (fun k hk => .inl hk), hK4.at' HQ3.out (fun h => Nat.lt_irrefl _ (HFL.out _ h))⟩
        case measure => simp [intOf]; omega
end Go.Proofs.Yteiakmjdjaodlaa
