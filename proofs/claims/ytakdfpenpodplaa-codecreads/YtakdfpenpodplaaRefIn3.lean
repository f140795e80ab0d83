/-
  The document's reader In: Bool and Count.
-/
import Derived.Test.YtakdfpenpodplaaRefIn2
import Derived.Deep.DeepCutAuto
namespace Go.Proofs.Ytakdfpenpodplaa
open Go.RowKit
set_option linter.unusedVariables false

set_option maxHeartbeats 4000000 in
set_option maxRecDepth 100000 in
theorem inBool_any (F : Nat → Prop) (p : Nat) (xs : List Nat) (e : Int) (w : World) (h : Il w F p xs e) :
    Calls Try.prog 72 #[.pointer (some ⟨p, 0, none⟩)] w fun ex w' => ex = .returned (.bool (rbV xs e)) ∧ IlDid F p (rbRest xs e) (rbE xs e) w w' := by
  obtain ⟨a, n, c, bs, m, hv, hx, hN⟩ := h
  have hle := hv.le
  have hbl := hv.bs.len
  have hxl : xs.length = n - m := by rw [hx, List.length_drop, hbl]
  have c0 := hv.c0
  have c1 := hv.c1
  have c2 := hv.c2
  have f1 := hv.fz 1
  have HV : Hid (InV w F p a n c bs m e) := hv
  by_cases he : e = 0
  · subst he
    have cf := fun w0 (h : InV w0 F p a n c bs m 0) => failIn_any F p a n c bs m 20 w0 h
    cases xs with
    | nil =>
      have hmn : m = n := by simp at hxl; omega
      have HX : Hid (([] : List Nat) = bs.drop m) := hx
      have hd : decide ((n : Int) ≤ m) = true := by simp; omega
      clear hv hx hxl hbl
      go_enter Try.func72, Try.ntmps72
      go_wp2
      go_quiet (fail)
      go_wp2_with (go_at_call 100; refine (cf _ (HV.out.drewN _)).mono ?_; rintro ex w2 ⟨rfl, hi2, k2⟩)
      go_ret
      exact ⟨rfl, ⟨a, n, c, bs, m, hi2, HX.out, hN⟩, ((Kept.refl (fun k => k = p) w).drewN _).trans k2 (fun _ h => .inl h), hi2.c0.trans HV.out.c0.symm⟩
    | cons b t =>
      have hmn : m < n := by simp at hxl; omega
      obtain ⟨bk, o, hab, hF, hc0⟩ := hv.bs.at' m hmn
      subst hab
      have hbm : bs.getD m 0 = b := by
        have h1 : (bs.drop m)[0]? = some b := by rw [← hx]; rfl
        rw [List.getElem?_drop, Nat.add_zero] at h1
        simp [List.getD, h1]
      have hc : w.cell? ⟨bk, o + m, none⟩ = some (.int .u8 (b : Nat)) := by rw [← hbm]; exact hc0
      have HX : Hid (b :: t = bs.drop m) := hx
      have hd : decide ((n : Int) ≤ m) = false := by simp; omega
      have hm1 : (m : Int) < n := by omega
      have hne : ¬ bk = p := hF.2
      have HT : Hid (t = bs.drop (m + 1)) := (show t = bs.drop (m + 1) by rw [← List.drop_drop, ← hx]; rfl)
      clear hv hx hxl hbl hc0 hF hbm
      by_cases h1 : 1 < b
      · have e2 : rbV (b :: t) 0 = false := by simp [rbV]; omega
        have e3 : rbRest (b :: t) 0 = b :: t := by simp [rbRest, h1]
        have e4 : rbE (b :: t) 0 = 20 := by simp [rbE, h1]
        rw [e2, e3, e4]
        have hdb : decide ((1 : Int) < b) = true := by simp; omega
        clear e2 e3 e4
        go_enter Try.func72, Try.ntmps72
        go_wp2
        go_quiet (fail)
        go_wp2_with (go_at_call 100; refine (cf _ (HV.out.drewN _)).mono ?_; rintro ex w2 ⟨rfl, hi2, k2⟩)
        go_ret
        exact ⟨rfl, ⟨_, n, c, bs, m, hi2, HX.out, hN⟩, ((Kept.refl (fun k => k = p) w).drewN _).trans k2 (fun _ h => .inl h), hi2.c0.trans HV.out.c0.symm⟩
      · have e2 : rbV (b :: t) 0 = (b == 1) := by simp [rbV]
        have e3 : rbRest (b :: t) 0 = t := by simp [rbRest, h1]
        have e4 : rbE (b :: t) 0 = 0 := by simp [rbE, h1]
        rw [e2, e3, e4]
        have hdb : decide ((1 : Int) < b) = false := by simp; omega
        have HB1 : Hid ((b == 1) = ((b : Int) == 1)) := (show (b == 1) = ((b : Int) == 1) by
          have hb2 : b = 0 ∨ b = 1 := by omega
          rcases hb2 with rfl | rfl <;> rfl)
        have hw1 : wrap64 ((m : Int) + 1) = (m : Int) + 1 := by unfold wrap64; omega
        have hw2 : IntKind.i64.wrap ((m : Int) + 1 - 1) = (m : Int) := by rw [IntKind.wrap_i64]; omega
        clear e2 e3 e4 cf
        go_enter Try.func72, Try.ntmps72
        go_wp2
        go_quiet (fail)
        go_wp2
        obtain ⟨W7, hW7⟩ : ∃ W, W = (w.drewN nq).setCell ⟨p, 1, none⟩ (.int .i64 ((m : Int) + 1)) := ⟨_, rfl⟩
        have hv7 : InV W7 F p (some ⟨bk, o, none⟩) n c bs (m + 1) 0 := by
          rw [hW7]
          have := (HV.out.drewN nq).put1 (m + 1) hmn
          simpa using this
        have kp7 : Kept (fun k => k = p) w W7 := by rw [hW7]; exact ((Kept.refl (fun k => k = p) w).drewN nq).setCell (p := ⟨p, 1, none⟩) (.inl rfl) _
        have x0 := hv7.c0
        have x1 : W7.cell? ⟨p, 1, none⟩ = some (.int .i64 ((m : Int) + 1)) := by simpa using hv7.c1
        have xc : W7.cell? ⟨bk, o + m, none⟩ = some (.int .u8 (b : Nat)) := kp7.cell hc hne
        rw [← hW7]
        have HV7 : Hid (InV W7 F p (some ⟨bk, o, none⟩) n c bs (m + 1) 0) := hv7
        have HK7 : Hid (Kept (fun k => k = p) w W7) := kp7
        have hw3 : (m : Int) + 1 - 1 = m := by omega
        have hw4 : IntKind.i64.wrap (m : Int) = (m : Int) := by rw [IntKind.wrap_i64]; omega
        clear hv7 kp7 hW7 c0 c1 c2 f1 hc
        go_quiet (fail)
        go_wp2
        go_ret
        exact ⟨by rw [HB1.out]; rfl, ⟨_, n, c, bs, m + 1, HV7.out.drewN _, HT.out, hN⟩, HK7.out.drewN _, (HV7.out.drewN _).c0.trans HV.out.c0.symm⟩
  · have he2 : (e == 0) = false := by simpa using he
    rw [show rbV xs e = false by simp [rbV, he], show rbRest xs e = xs by simp [rbRest, he], show rbE xs e = e by simp [rbE, he]]
    have HX : Hid (xs = bs.drop m) := hx
    clear hv hx hxl hbl he
    go_enter Try.func72, Try.ntmps72
    go_wp2
    go_ret
    exact ⟨rfl, ⟨a, n, c, bs, m, HV.out, HX.out, hN⟩, Kept.refl _ _, rfl⟩

set_option maxHeartbeats 4000000 in
set_option maxRecDepth 100000 in
theorem inCount_any (F : Nat → Prop) (p : Nat) (xs : List Nat) (e most : Int) (w : World) (h : Il w F p xs e) :
    Calls Try.prog 75 #[.pointer (some ⟨p, 0, none⟩), .int .i64 most] w fun ex w' => ex = .returned (.int .i64 (cnN xs e most)) ∧ IlDid F p (cnRest xs e most) (cnE xs e most) w w' := by
  have c70 := inU32_any F p xs e w h
  obtain ⟨a, n, c, bs, m, hv, hx, hN⟩ := h
  have c1 := hv.c1
  have hle := hv.le
  have hlen := hv.bs.len
  have HV : Hid (InV w F p a n c bs m e) := hv
  have HX : Hid (xs = bs.drop m) := hx
  have hxl : xs.length = n - m := by rw [hx, List.length_drop, hlen]
  -- behind U32: the same bytes
  have after : ∀ (w1 : World) (ys : List Nat) (e1 : Int), IlDid F p ys e1 w w1 → ∃ m1, InV w1 F p a n c bs m1 e1 ∧ ys.length = n - m1 ∧ Kept (fun k => k = p) w w1 := by
    rintro w1 ys e1 ⟨⟨a1, n1, k1, bs1, m1, hv1, hx1, hN1⟩, kp, hc⟩
    have hcc := hv1.c0.symm.trans (hc.trans HV.out.c0)
    simp only [Option.some.injEq, Value.slice.injEq] at hcc
    obtain ⟨ea, en, ec⟩ := hcc
    subst ea en ec
    refine ⟨m1, ⟨hv1.obj, HV.out.bs.kept kp (fun b hb => hb.2), hv1.le, hv1.fp⟩, ?_, kp⟩
    rw [hx1, List.length_drop, hv1.bs.len]
  have AF : Hid (∀ (w1 : World) (ys : List Nat) (e1 : Int), IlDid F p ys e1 w w1 → ∃ m1, InV w1 F p a n c bs m1 e1 ∧ ys.length = n - m1 ∧ Kept (fun k => k = p) w w1) := after
  clear after hv hx hlen
  cases hk : tkOk xs e 4 with
  | false =>
    have hok : cnOk xs e most = false := by unfold cnOk; rw [hk]; rfl
    have hne : tkE xs e 4 ≠ 0 := by unfold tkE; rw [hk]; split <;> simp_all
    have e1 : cnN xs e most = 0 := by unfold cnN; rw [hok]; rfl
    have e2 : cnRest xs e most = tkRest xs e 4 := by unfold cnRest tkRest; rw [hok, hk]; rfl
    have e3 : cnE xs e most = tkE xs e 4 := by unfold cnE tkE; rw [hk]; rfl
    rw [e1, e2, e3]
    obtain ⟨E, hE⟩ : ∃ E, E = tkE xs e 4 := ⟨_, rfl⟩
    rw [← hE] at c70 hne ⊢
    have hne2 : (E == 0) = false := by simpa using hne
    clear hok hk e1 e2 e3 hE hxl
    go_enter Try.func75, Try.ntmps75
    go_wp2_with (go_at_call 70; refine c70.mono ?_; rintro ex w1 ⟨rfl, hd⟩; obtain ⟨m1, hv1, _, _⟩ := AF.out w1 _ _ hd; have d2 := hv1.c2; clear hv1)
    go_ret
    exact ⟨rfl, hd⟩
  | true =>
    have he0 : e = 0 := by unfold tkOk at hk; simp at hk; exact hk.1
    subst he0
    have h4 : 4 ≤ xs.length := by unfold tkOk at hk; simp at hk; omega
    have e1 : tkE xs 0 4 = 0 := by unfold tkE; rw [hk]; rfl
    have e2 : tkRest xs 0 4 = xs.drop 4 := by unfold tkRest; rw [hk]; rfl
    rw [e1, e2] at c70
    obtain ⟨N, hN2⟩ : ∃ N, N = rdN xs 0 4 := ⟨_, rfl⟩
    rw [← hN2] at c70
    clear e1 e2
    have cf : ∀ (w0 : World) (x : Int), InV w0 F p a n c bs m 0 → Calls Try.prog 100 #[.pointer (some ⟨p, 0, none⟩), .int .i64 x] w0 fun ex w' => ex = .returned (.tuple #[]) ∧ InV w' F p a n c bs m x ∧ Kept (fun k => k = p) w0 w' := fun w0 x h => failIn_any F p a n c bs m x w0 h
    by_cases h1 : most < N
    · have hok : cnOk xs 0 most = false := by unfold cnOk; rw [← hN2, decide_eq_false (show ¬ N ≤ most by omega)]; simp
      have e1 : cnN xs 0 most = 0 := by unfold cnN; rw [hok]; rfl
      have e2 : cnRest xs 0 most = xs := by unfold cnRest; rw [hok]; rfl
      have e3 : cnE xs 0 most = 1 := by unfold cnE; rw [← hN2, if_neg (by simp), hk, if_neg (by simp), if_pos h1]
      rw [e1, e2, e3]
      clear hok e1 e2 e3 hN2 hk
      go_enter Try.func75, Try.ntmps75
      go_wp2_with (first
        | (go_at_call 70; refine c70.mono ?_; rintro ex w1 ⟨rfl, hd⟩; obtain ⟨m1, hv1, _, kp1⟩ := AF.out w1 _ _ hd; have d2 := hv1.c2; have g1 := hv1.fz 1; have d1 := hv1.c1; have HV1 : Hid (InV w1 F p a n c bs m1 0) := hv1; have HK1 : Hid (Kept (fun k => k = p) w w1) := kp1; clear hv1 kp1 hd)
        | (go_at_call 100; refine (cf _ 1 (HV1.out.put1 m hle)).mono ?_; rintro ex w2 ⟨rfl, hi2, k2⟩))
      go_ret
      exact ⟨rfl, ⟨a, n, c, bs, m, hi2, HX.out, hN⟩, (HK1.out.setCell (p := ⟨p, 1, none⟩) (.inl rfl) _).trans k2 (fun _ h => .inl h), hi2.c0.trans HV.out.c0.symm⟩
    · have hmn : m + 4 ≤ n := by omega
      have HL : Hid ((xs.drop 4).length = n - m - 4) := (show (xs.drop 4).length = n - m - 4 by rw [List.length_drop]; omega)
      by_cases h2 : (xs.length : Int) - 4 < N
      · have hok : cnOk xs 0 most = false := by unfold cnOk; rw [← hN2, decide_eq_false (show ¬ N ≤ (xs.length : Int) - 4 by omega)]; simp
        have e1 : cnN xs 0 most = 0 := by unfold cnN; rw [hok]; rfl
        have e2 : cnRest xs 0 most = xs := by unfold cnRest; rw [hok]; rfl
        have e3 : cnE xs 0 most = 20 := by unfold cnE; rw [← hN2, if_neg (by simp), hk, if_neg (by simp), if_neg h1, if_pos h2]
        rw [e1, e2, e3]
        have h3 : (n : Int) - (m + 4) < N := by omega
        clear hok e1 e2 e3 hN2 hk h2 hxl
        go_enter Try.func75, Try.ntmps75
        go_upto_region 9 with (go_at_call 70; refine c70.mono ?_; rintro ex w1 ⟨rfl, hd⟩; obtain ⟨m1, hv1, hm1, kp1⟩ := AF.out w1 _ _ hd; have hm4 : m1 = m + 4 := (by have := HL.out; have := hv1.le; omega); subst hm4; have d2 := hv1.c2; have g1 := hv1.fz 1; have d1 : w1.cell? ⟨p, 1, none⟩ = some (.int .i64 ((m : Int) + 4)) := (by simpa using hv1.c1); have d0 := hv1.c0; have HV1 : Hid (InV w1 F p a n c bs (m + 4) 0) := hv1; have HK1 : Hid (Kept (fun k => k = p) w w1) := kp1; clear hv1 kp1 hd hm1)
        have hwr : IntKind.i64.wrap ((n : Int) - ((m : Int) + 4)) = (n : Int) - ((m : Int) + 4) := by rw [IntKind.wrap_i64]; omega
        have hdd : decide ((n : Int) - ((m : Int) + 4) < N) = true := by simpa using h3
        go_quiet (fail)
        go_wp2_with (go_at_call 100; refine (cf _ 20 ((HV1.out.drewN _).put1 m hle)).mono ?_; rintro ex w2 ⟨rfl, hi2, k2⟩)
        go_ret
        exact ⟨rfl, ⟨a, n, c, bs, m, hi2, HX.out, hN⟩, ((HK1.out.drewN _).setCell (p := ⟨p, 1, none⟩) (.inl rfl) _).trans k2 (fun _ h => .inl h), hi2.c0.trans HV.out.c0.symm⟩
      · have hok : cnOk xs 0 most = true := by unfold cnOk; rw [← hN2, hk, decide_eq_true (show N ≤ most by omega), decide_eq_true (show N ≤ (xs.length : Int) - 4 by omega)]; rfl
        have e1 : cnN xs 0 most = N := by unfold cnN; rw [hok]; exact hN2.symm
        have e2 : cnRest xs 0 most = xs.drop 4 := by unfold cnRest; rw [hok]; rfl
        have e3 : cnE xs 0 most = 0 := by unfold cnE; rw [← hN2, if_neg (by simp), hk, if_neg (by simp), if_neg h1, if_neg h2]
        rw [e1, e2, e3]
        have h3 : ¬ (n : Int) - (m + 4) < N := by omega
        clear hok e1 e2 e3 hN2 hk h2 hxl cf
        go_enter Try.func75, Try.ntmps75
        go_upto_region 9 with (go_at_call 70; refine c70.mono ?_; rintro ex w1 ⟨rfl, hd⟩; obtain ⟨m1, hv1, hm1, kp1⟩ := AF.out w1 _ _ hd; have hm4 : m1 = m + 4 := (by have := HL.out; have := hv1.le; omega); subst hm4; have d2 := hv1.c2; have d1 : w1.cell? ⟨p, 1, none⟩ = some (.int .i64 ((m : Int) + 4)) := (by simpa using hv1.c1); have d0 := hv1.c0; have HD : Hid (IlDid F p (xs.drop 4) 0 w w1) := hd; clear hv1 kp1 hd hm1)
        have hwr : IntKind.i64.wrap ((n : Int) - ((m : Int) + 4)) = (n : Int) - ((m : Int) + 4) := by rw [IntKind.wrap_i64]; omega
        have hdd : decide ((n : Int) - ((m : Int) + 4) < N) = false := by simpa using h3
        go_quiet (fail)
        go_wp2
        go_ret
        exact ⟨rfl, HD.out.1.drewN _, HD.out.2.1.drewN _, HD.out.2.2⟩

end Go.Proofs.Ytakdfpenpodplaa
