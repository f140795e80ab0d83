/-
  GetList by the closures of read and unread.
-/
import Derived.Test.YtakdfpenpodplaaSameInts
import Derived.Test.YtakdfpenpodplaaSame
import Derived.Test.YtakdfpenpodplaaGetList
namespace Go.Proofs.Ytakdfpenpodplaa
open Go.RowKit
set_option linter.unusedVariables false

theorem get74_any (F : Nat → Prop) (p : Nat) (xs : List Nat) (e : Int) (w : World) (h : Rd w F p xs e) :
    Calls Try.prog 74 #[.pointer (some ⟨p, 0, none⟩)] w fun ex w' => ex = .returned (.int .i64 (rdN xs e 2)) ∧ RdDid F p (tkRest xs e 2) (tkE xs e 2) w w' := by
  have cc := ru16_any F p xs e w h
  clear h
  go_enter Try.func74, Try.ntmps74
  go_wp2_with (go_at_call 25; refine cc.mono ?_; rintro ex w1 ⟨rfl, hd⟩)
  go_ret
  exact ⟨rfl, hd⟩

set_option maxHeartbeats 2000000 in
theorem getList74_any (F : Nat → Prop) (p : Nat) (xs : List Nat) (e most : Int) (w : World) (h : Rd w F p xs e) (hsz : xs.length ≤ 140737488351232) :
    Calls Try.prog 30 #[.pointer (some ⟨p, 0, none⟩), .int .i64 most, .func (.func 74) #[] #[]] w fun ex w' => ∃ v, ex = .returned v ∧ w'.ownsRow w.heap.size 3 1 v (glX xs e most).length ((glX xs e most).map iv) ∧ RdDid F p (glRest xs e most) (glE xs e most) w w' := by
  obtain ⟨i0, hi, hz0, hz1, hz2⟩ := info_parts Try.info3
  have c60 := count_any F p xs e most w h
  have hflt : ∀ k, F k → k < w.heap.size := by obtain ⟨a, n, c, hv⟩ := h; exact hv.flt
  have HFL : Hid (∀ k, F k → k < w.heap.size) := hflt
  have hxl := h.lt
  have HXL : Hid (∀ x ∈ xs, x < 256) := hxl
  clear h hflt hxl
  cases hok : cnOk xs e most with
  | false =>
    have hne := cnE_ne xs e most hok
    have e1 : cnN xs e most = 0 := by unfold cnN; rw [hok]; rfl
    have e2 : cnRest xs e most = xs := by unfold cnRest; rw [hok]; rfl
    have hg : glOk xs e most = false := by unfold glOk; rw [hok]; rfl
    have e3 : glX xs e most = [] := by unfold glX; rw [hg]; rfl
    have e4 : glRest xs e most = xs := by unfold glRest; rw [hg, hok]; rfl
    have e5 : glE xs e most = cnE xs e most := by unfold glE; rw [hok]; rfl
    rw [e3, e4, e5]
    rw [e1, e2] at c60
    clear e1 e2 e3 e4 e5 hg hok hne
    go_enter Try.func30, Try.ntmps30
    go_wp2_with (go_at_call 60; refine c60.mono ?_; rintro ex w1 ⟨rfl, hd⟩)
    go_loopw [7, 12] (fun l i wr => i = .int .i64 0 ∧ l = .slice none 0 0 ∧ wr = w1) (fun _ _ _ => 0)
    case atStart => exact ⟨rfl, rfl, rfl⟩
    case round =>
      obtain ⟨rfl, rfl, rfl⟩ := hrel
      go_wp2
      go_ret
      exact ⟨_, rfl, World.ownsRow_nil _ _ _ _, hd⟩
  | true =>
    obtain ⟨hE0, he0⟩ := cnE_ok xs e most hok
    subst he0
    have hN := rdN_lt 0 4 HXL.out
    have hN2 : rdN xs 0 4 ≤ (xs.length : Int) - 4 := by unfold cnOk at hok; simp only [Bool.and_eq_true, decide_eq_true_eq] at hok; exact hok.2
    obtain ⟨N, hNN⟩ : ∃ N : Nat, (N : Int) = rdN xs 0 4 := ⟨(rdN xs 0 4).toNat, Int.toNat_of_nonneg hN.1⟩
    have e1 : cnN xs 0 most = (N : Int) := by unfold cnN; rw [hok]; exact hNN.symm
    have e2 : cnRest xs 0 most = xs.drop 4 := by unfold cnRest; rw [hok]; rfl
    rw [e1, e2, hE0] at c60
    have hrl : (xs.drop 4).length = xs.length - 4 := List.length_drop
    have hNl : N ≤ xs.length - 4 := by omega
    have hx4 : 4 ≤ xs.length := by omega
    have e3 : glX xs 0 most = if 2 * N ≤ xs.length - 4 then glEls (xs.drop 4) N else [] := by
      unfold glX glOk; rw [hok, ← hNN, Int.toNat_natCast]
      by_cases h : 2 * N ≤ xs.length - 4
      · rw [if_pos h, decide_eq_true (by omega)]; rfl
      · rw [if_neg h, decide_eq_false (by omega)]; rfl
    have e4 : glRest xs 0 most = if 2 * N ≤ xs.length - 4 then (xs.drop 4).drop (2 * N) else (xs.drop 4).drop (2 * ((xs.length - 4) / 2)) := by
      unfold glRest glOk; rw [hok, ← hNN, Int.toNat_natCast]
      by_cases h : 2 * N ≤ xs.length - 4
      · rw [if_pos h, decide_eq_true (by omega)]; rfl
      · rw [if_neg h, decide_eq_false (by omega)]; rfl
    have e5 : glE xs 0 most = if 2 * N ≤ xs.length - 4 then 0 else 20 := by
      unfold glE glOk; rw [hok, ← hNN]
      by_cases h : 2 * N ≤ xs.length - 4
      · rw [if_pos h, decide_eq_true (by omega)]; rfl
      · rw [if_neg h, decide_eq_false (by omega)]; rfl
    rw [e3, e4, e5]
    obtain ⟨r, hr⟩ : ∃ r, r = xs.drop 4 := ⟨_, rfl⟩
    rw [← hr] at c60 hrl ⊢
    obtain ⟨L, hL⟩ : ∃ L, L = xs.length - 4 := ⟨_, rfl⟩
    rw [← hL] at hrl hNl ⊢
    have hLs : L ≤ 140737488351232 := by omega
    have hNS : N ≤ 4294967295 := by have := hN.2; omega
    have HRL : Hid (r.length = L) := hrl
    obtain ⟨gX, hgX⟩ : ∃ gX, gX = (if 2 * N ≤ L then glEls r N else []) := ⟨_, rfl⟩
    obtain ⟨gR, hgR⟩ : ∃ gR, gR = (if 2 * N ≤ L then r.drop (2 * N) else r.drop (2 * (L / 2))) := ⟨_, rfl⟩
    obtain ⟨gE, hgE⟩ : ∃ gE : Int, gE = (if 2 * N ≤ L then 0 else 20) := ⟨_, rfl⟩
    rw [← hgX, ← hgR, ← hgE]
    have HGX : Hid (gX = (if 2 * N ≤ L then glEls r N else [])) := hgX
    have HGR : Hid (gR = (if 2 * N ≤ L then r.drop (2 * N) else r.drop (2 * (L / 2)))) := hgR
    have HGE : Hid (gE = (if 2 * N ≤ L then 0 else 20)) := hgE
    clear hgX hgR hgE
    clear e1 e2 e3 e4 e5 hok hE0 hN hN2 hNN hr hL hrl hx4 hsz
    go_enter Try.func30, Try.ntmps30
    go_wp2_with (go_at_call 60; refine c60.mono ?_; rintro ex w1 ⟨rfl, hd⟩)
    have HD : Hid (RdDid F p r 0 w w1) := hd
    clear hd c60
    go_loopw [7, 12] (fun l i wr => ∃ k : Nat, k ≤ N ∧ 2 * k ≤ L ∧ i = .int .i64 k ∧ wr.ownsRow w.heap.size 3 1 l k ((glEls r k).map iv) ∧ RdDid F p (r.drop (2 * k)) 0 w wr) (fun _ i _ => N - (intOf i).toNat)
    case atStart => exact ⟨0, by omega, by omega, rfl, World.ownsRow_nil _ _ _ _, by simpa using HD.out⟩
    case round =>
      obtain ⟨k, hk, hkL, rfl, hown, hdr⟩ := hrel
      by_cases hlt : k < N
      · have hdl : (r.drop (2 * k)).length = L - 2 * k := by rw [List.length_drop, HRL.out]
        have cg := get74_any F p (r.drop (2 * k)) 0 wr hdr.1
        have HOW : Hid (wr.ownsRow w.heap.size 3 1 u7 k ((glEls r k).map iv)) := hown
        have HDR : Hid (RdDid F p (r.drop (2 * k)) 0 w wr) := hdr
        have hszr := hdr.2.size
        by_cases h2 : 2 * k + 2 ≤ L
        · obtain ⟨t1, t2, t3⟩ := tk2_yes (r.drop (2 * k)) (by omega)
          rw [t1, t2, t3, List.drop_drop] at cg
          obtain ⟨y, hy⟩ : ∃ y, y = val ((r.drop (2 * k)).take 2) := ⟨_, rfl⟩
          rw [← hy] at cg
          have HY : Hid (y = val ((r.drop (2 * k)).take 2)) := hy
          clear t1 t2 t3 hy hown hdr hdl
          go_upto_region 7 with (go_at_call 74; refine cg.mono ?_; rintro ex w2 ⟨rfl, hd2⟩; obtain ⟨a2, n2, k2, hv2⟩ := hd2.1; have d1 := hv2.c1)
          have hov2 : w2.ownsRow w.heap.size 3 1 u7 k ((glEls r k).map iv) := hd2.2.owns HOW.out (fun g hg e => by have := (HOW.out.lt g hg).1; have h3 := HFL.out p hv2.fp; omega)
          have hk2 : Kept (fun k => k = p) w w2 := HDR.out.2.trans hd2.2 (fun _ h => .inl h)
          have HOV2 : Hid (w2.ownsRow w.heap.size 3 1 u7 k ((glEls r k).map iv)) := hov2
          have HK2 : Hid (Kept (fun k => k = p) w w2) := hk2
          have HR2 : Hid (Rd w2 F p (r.drop (2 * k + 2)) 0) := hd2.1
          have hsz2 := hk2.size
          clear hov2 hk2 hd2 hv2 d1 cg
          go_wp2_with (at_builtin; refine wpList_append_own _ rfl _ _ 41 rfl w.heap.size 3 i0 (.int .i64 0) 1 8 Try.underlying41 hi hz0 hz1 hz2 rfl (by decide) _ _ _ rfl (HOV2.out.alloc _) ⟨w2.heap.size, 0, none⟩ 1 1 [.int .i64 (y : Nat)] rfl rfl (cell_one_new _ _ _) (one_one _ _) (by unfold maxLen; omega) (by omega) (by simp; omega) ?_; intro v3 w3 own3 grow3 _)
          have hk3 : Kept (fun k => k = p) w w3 := (HK2.out.alloc _).grown grow3 (fun k hk => .inr (HOV2.out.lt k hk).1)
          have hr3 : Rd w3 F p (r.drop (2 * (k + 1))) 0 := by
            refine HR2.out.kept (G := fun k => u7.ownBlock = some k) (((Kept.refl (fun k => u7.ownBlock = some k) w2).alloc _).grown grow3 (fun k hk => .inl hk)) (fun b hb hu => ?_)
            have h3 := HFL.out b hb
            have h4 := (HOV2.out.lt b hu).1
            omega
          have own4 : w3.ownsRow w.heap.size 3 1 v3 (k + 1) ((glEls r (k + 1)).map iv) := by
            rw [glEls_succ, List.map_append, ← HY.out]; exact own3
          clear grow3 own3
          go_wp2
          go_roundw
          case rel => exact ⟨k + 1, by omega, by omega, by go_num, own4, hr3, hk3⟩
          case measure => simp [intOf]; omega
        · obtain ⟨t2, t3⟩ := tk2_no (r.drop (2 * k)) (by omega)
          rw [t2, t3] at cg
          have hkL2 : L / 2 = k := by omega
          have x1 : gX = [] := HGX.out.trans (if_neg (by omega))
          have x2 : gR = r.drop (2 * k) := HGR.out.trans ((if_neg (by omega)).trans (by rw [hkL2]))
          have x3 : gE = 20 := HGE.out.trans (if_neg (by omega))
          have X : Hid (gX = [] ∧ gR = r.drop (2 * k) ∧ gE = 20) := ⟨x1, x2, x3⟩
          clear t2 t3 hown hdr hdl hkL2 x1 x2 x3
          go_wp2_with (go_at_call 74; refine cg.mono ?_; rintro ex w2 ⟨rfl, hd2⟩; obtain ⟨a2, n2, k2, hv2⟩ := hd2.1; have d1 := hv2.c1)
          go_ret
          obtain ⟨x1, x2, x3⟩ := X.out
          rw [x1, x2, x3]
          exact ⟨_, rfl, World.ownsRow_nil _ _ _ _, hd2.1, HDR.out.2.trans hd2.2 (fun _ h => .inl h)⟩
      · have hkN : k = N := by omega
        subst hkN
        have X : Hid (gX = glEls r k ∧ gR = r.drop (2 * k) ∧ gE = 0) := ⟨HGX.out.trans (if_pos hkL), HGR.out.trans (if_pos hkL), HGE.out.trans (if_pos hkL)⟩
        have HOW : Hid (wr.ownsRow w.heap.size 3 1 u7 k ((glEls r k).map iv)) := hown
        have HDR : Hid (RdDid F p (r.drop (2 * k)) 0 w wr) := hdr
        clear hown hdr
        go_wp2
        go_ret
        obtain ⟨x1, x2, x3⟩ := X.out
        rw [x1, x2, x3]
        refine ⟨_, rfl, ?_, HDR.out⟩
        rw [glEls_length]; exact HOW.out

theorem get78_any (F : Nat → Prop) (p : Nat) (xs : List Nat) (e : Int) (w : World) (h : Rd w F p xs e) :
    Calls Try.prog 78 #[.pointer (some ⟨p, 0, none⟩)] w fun ex w' => ex = .returned (.int .i64 (rdN xs e 2)) ∧ RdDid F p (tkRest xs e 2) (tkE xs e 2) w w' := by
  have cc := ru16_any F p xs e w h
  clear h
  go_enter Try.func78, Try.ntmps78
  go_wp2_with (go_at_call 25; refine cc.mono ?_; rintro ex w1 ⟨rfl, hd⟩)
  go_ret
  exact ⟨rfl, hd⟩

set_option maxHeartbeats 2000000 in
theorem getList78_any (F : Nat → Prop) (p : Nat) (xs : List Nat) (e most : Int) (w : World) (h : Rd w F p xs e) (hsz : xs.length ≤ 140737488351232) :
    Calls Try.prog 30 #[.pointer (some ⟨p, 0, none⟩), .int .i64 most, .func (.func 78) #[] #[]] w fun ex w' => ∃ v, ex = .returned v ∧ w'.ownsRow w.heap.size 3 1 v (glX xs e most).length ((glX xs e most).map iv) ∧ RdDid F p (glRest xs e most) (glE xs e most) w w' := by
  obtain ⟨i0, hi, hz0, hz1, hz2⟩ := info_parts Try.info3
  have c60 := count_any F p xs e most w h
  have hflt : ∀ k, F k → k < w.heap.size := by obtain ⟨a, n, c, hv⟩ := h; exact hv.flt
  have HFL : Hid (∀ k, F k → k < w.heap.size) := hflt
  have hxl := h.lt
  have HXL : Hid (∀ x ∈ xs, x < 256) := hxl
  clear h hflt hxl
  cases hok : cnOk xs e most with
  | false =>
    have hne := cnE_ne xs e most hok
    have e1 : cnN xs e most = 0 := by unfold cnN; rw [hok]; rfl
    have e2 : cnRest xs e most = xs := by unfold cnRest; rw [hok]; rfl
    have hg : glOk xs e most = false := by unfold glOk; rw [hok]; rfl
    have e3 : glX xs e most = [] := by unfold glX; rw [hg]; rfl
    have e4 : glRest xs e most = xs := by unfold glRest; rw [hg, hok]; rfl
    have e5 : glE xs e most = cnE xs e most := by unfold glE; rw [hok]; rfl
    rw [e3, e4, e5]
    rw [e1, e2] at c60
    clear e1 e2 e3 e4 e5 hg hok hne
    go_enter Try.func30, Try.ntmps30
    go_wp2_with (go_at_call 60; refine c60.mono ?_; rintro ex w1 ⟨rfl, hd⟩)
    go_loopw [7, 12] (fun l i wr => i = .int .i64 0 ∧ l = .slice none 0 0 ∧ wr = w1) (fun _ _ _ => 0)
    case atStart => exact ⟨rfl, rfl, rfl⟩
    case round =>
      obtain ⟨rfl, rfl, rfl⟩ := hrel
      go_wp2
      go_ret
      exact ⟨_, rfl, World.ownsRow_nil _ _ _ _, hd⟩
  | true =>
    obtain ⟨hE0, he0⟩ := cnE_ok xs e most hok
    subst he0
    have hN := rdN_lt 0 4 HXL.out
    have hN2 : rdN xs 0 4 ≤ (xs.length : Int) - 4 := by unfold cnOk at hok; simp only [Bool.and_eq_true, decide_eq_true_eq] at hok; exact hok.2
    obtain ⟨N, hNN⟩ : ∃ N : Nat, (N : Int) = rdN xs 0 4 := ⟨(rdN xs 0 4).toNat, Int.toNat_of_nonneg hN.1⟩
    have e1 : cnN xs 0 most = (N : Int) := by unfold cnN; rw [hok]; exact hNN.symm
    have e2 : cnRest xs 0 most = xs.drop 4 := by unfold cnRest; rw [hok]; rfl
    rw [e1, e2, hE0] at c60
    have hrl : (xs.drop 4).length = xs.length - 4 := List.length_drop
    have hNl : N ≤ xs.length - 4 := by omega
    have hx4 : 4 ≤ xs.length := by omega
    have e3 : glX xs 0 most = if 2 * N ≤ xs.length - 4 then glEls (xs.drop 4) N else [] := by
      unfold glX glOk; rw [hok, ← hNN, Int.toNat_natCast]
      by_cases h : 2 * N ≤ xs.length - 4
      · rw [if_pos h, decide_eq_true (by omega)]; rfl
      · rw [if_neg h, decide_eq_false (by omega)]; rfl
    have e4 : glRest xs 0 most = if 2 * N ≤ xs.length - 4 then (xs.drop 4).drop (2 * N) else (xs.drop 4).drop (2 * ((xs.length - 4) / 2)) := by
      unfold glRest glOk; rw [hok, ← hNN, Int.toNat_natCast]
      by_cases h : 2 * N ≤ xs.length - 4
      · rw [if_pos h, decide_eq_true (by omega)]; rfl
      · rw [if_neg h, decide_eq_false (by omega)]; rfl
    have e5 : glE xs 0 most = if 2 * N ≤ xs.length - 4 then 0 else 20 := by
      unfold glE glOk; rw [hok, ← hNN]
      by_cases h : 2 * N ≤ xs.length - 4
      · rw [if_pos h, decide_eq_true (by omega)]; rfl
      · rw [if_neg h, decide_eq_false (by omega)]; rfl
    rw [e3, e4, e5]
    obtain ⟨r, hr⟩ : ∃ r, r = xs.drop 4 := ⟨_, rfl⟩
    rw [← hr] at c60 hrl ⊢
    obtain ⟨L, hL⟩ : ∃ L, L = xs.length - 4 := ⟨_, rfl⟩
    rw [← hL] at hrl hNl ⊢
    have hLs : L ≤ 140737488351232 := by omega
    have hNS : N ≤ 4294967295 := by have := hN.2; omega
    have HRL : Hid (r.length = L) := hrl
    obtain ⟨gX, hgX⟩ : ∃ gX, gX = (if 2 * N ≤ L then glEls r N else []) := ⟨_, rfl⟩
    obtain ⟨gR, hgR⟩ : ∃ gR, gR = (if 2 * N ≤ L then r.drop (2 * N) else r.drop (2 * (L / 2))) := ⟨_, rfl⟩
    obtain ⟨gE, hgE⟩ : ∃ gE : Int, gE = (if 2 * N ≤ L then 0 else 20) := ⟨_, rfl⟩
    rw [← hgX, ← hgR, ← hgE]
    have HGX : Hid (gX = (if 2 * N ≤ L then glEls r N else [])) := hgX
    have HGR : Hid (gR = (if 2 * N ≤ L then r.drop (2 * N) else r.drop (2 * (L / 2)))) := hgR
    have HGE : Hid (gE = (if 2 * N ≤ L then 0 else 20)) := hgE
    clear hgX hgR hgE
    clear e1 e2 e3 e4 e5 hok hE0 hN hN2 hNN hr hL hrl hx4 hsz
    go_enter Try.func30, Try.ntmps30
    go_wp2_with (go_at_call 60; refine c60.mono ?_; rintro ex w1 ⟨rfl, hd⟩)
    have HD : Hid (RdDid F p r 0 w w1) := hd
    clear hd c60
    go_loopw [7, 12] (fun l i wr => ∃ k : Nat, k ≤ N ∧ 2 * k ≤ L ∧ i = .int .i64 k ∧ wr.ownsRow w.heap.size 3 1 l k ((glEls r k).map iv) ∧ RdDid F p (r.drop (2 * k)) 0 w wr) (fun _ i _ => N - (intOf i).toNat)
    case atStart => exact ⟨0, by omega, by omega, rfl, World.ownsRow_nil _ _ _ _, by simpa using HD.out⟩
    case round =>
      obtain ⟨k, hk, hkL, rfl, hown, hdr⟩ := hrel
      by_cases hlt : k < N
      · have hdl : (r.drop (2 * k)).length = L - 2 * k := by rw [List.length_drop, HRL.out]
        have cg := get78_any F p (r.drop (2 * k)) 0 wr hdr.1
        have HOW : Hid (wr.ownsRow w.heap.size 3 1 u7 k ((glEls r k).map iv)) := hown
        have HDR : Hid (RdDid F p (r.drop (2 * k)) 0 w wr) := hdr
        have hszr := hdr.2.size
        by_cases h2 : 2 * k + 2 ≤ L
        · obtain ⟨t1, t2, t3⟩ := tk2_yes (r.drop (2 * k)) (by omega)
          rw [t1, t2, t3, List.drop_drop] at cg
          obtain ⟨y, hy⟩ : ∃ y, y = val ((r.drop (2 * k)).take 2) := ⟨_, rfl⟩
          rw [← hy] at cg
          have HY : Hid (y = val ((r.drop (2 * k)).take 2)) := hy
          clear t1 t2 t3 hy hown hdr hdl
          go_upto_region 7 with (go_at_call 78; refine cg.mono ?_; rintro ex w2 ⟨rfl, hd2⟩; obtain ⟨a2, n2, k2, hv2⟩ := hd2.1; have d1 := hv2.c1)
          have hov2 : w2.ownsRow w.heap.size 3 1 u7 k ((glEls r k).map iv) := hd2.2.owns HOW.out (fun g hg e => by have := (HOW.out.lt g hg).1; have h3 := HFL.out p hv2.fp; omega)
          have hk2 : Kept (fun k => k = p) w w2 := HDR.out.2.trans hd2.2 (fun _ h => .inl h)
          have HOV2 : Hid (w2.ownsRow w.heap.size 3 1 u7 k ((glEls r k).map iv)) := hov2
          have HK2 : Hid (Kept (fun k => k = p) w w2) := hk2
          have HR2 : Hid (Rd w2 F p (r.drop (2 * k + 2)) 0) := hd2.1
          have hsz2 := hk2.size
          clear hov2 hk2 hd2 hv2 d1 cg
          go_wp2_with (at_builtin; refine wpList_append_own _ rfl _ _ 41 rfl w.heap.size 3 i0 (.int .i64 0) 1 8 Try.underlying41 hi hz0 hz1 hz2 rfl (by decide) _ _ _ rfl (HOV2.out.alloc _) ⟨w2.heap.size, 0, none⟩ 1 1 [.int .i64 (y : Nat)] rfl rfl (cell_one_new _ _ _) (one_one _ _) (by unfold maxLen; omega) (by omega) (by simp; omega) ?_; intro v3 w3 own3 grow3 _)
          have hk3 : Kept (fun k => k = p) w w3 := (HK2.out.alloc _).grown grow3 (fun k hk => .inr (HOV2.out.lt k hk).1)
          have hr3 : Rd w3 F p (r.drop (2 * (k + 1))) 0 := by
            refine HR2.out.kept (G := fun k => u7.ownBlock = some k) (((Kept.refl (fun k => u7.ownBlock = some k) w2).alloc _).grown grow3 (fun k hk => .inl hk)) (fun b hb hu => ?_)
            have h3 := HFL.out b hb
            have h4 := (HOV2.out.lt b hu).1
            omega
          have own4 : w3.ownsRow w.heap.size 3 1 v3 (k + 1) ((glEls r (k + 1)).map iv) := by
            rw [glEls_succ, List.map_append, ← HY.out]; exact own3
          clear grow3 own3
          go_wp2
          go_roundw
          case rel => exact ⟨k + 1, by omega, by omega, by go_num, own4, hr3, hk3⟩
          case measure => simp [intOf]; omega
        · obtain ⟨t2, t3⟩ := tk2_no (r.drop (2 * k)) (by omega)
          rw [t2, t3] at cg
          have hkL2 : L / 2 = k := by omega
          have x1 : gX = [] := HGX.out.trans (if_neg (by omega))
          have x2 : gR = r.drop (2 * k) := HGR.out.trans ((if_neg (by omega)).trans (by rw [hkL2]))
          have x3 : gE = 20 := HGE.out.trans (if_neg (by omega))
          have X : Hid (gX = [] ∧ gR = r.drop (2 * k) ∧ gE = 20) := ⟨x1, x2, x3⟩
          clear t2 t3 hown hdr hdl hkL2 x1 x2 x3
          go_wp2_with (go_at_call 78; refine cg.mono ?_; rintro ex w2 ⟨rfl, hd2⟩; obtain ⟨a2, n2, k2, hv2⟩ := hd2.1; have d1 := hv2.c1)
          go_ret
          obtain ⟨x1, x2, x3⟩ := X.out
          rw [x1, x2, x3]
          exact ⟨_, rfl, World.ownsRow_nil _ _ _ _, hd2.1, HDR.out.2.trans hd2.2 (fun _ h => .inl h)⟩
      · have hkN : k = N := by omega
        subst hkN
        have X : Hid (gX = glEls r k ∧ gR = r.drop (2 * k) ∧ gE = 0) := ⟨HGX.out.trans (if_pos hkL), HGR.out.trans (if_pos hkL), HGE.out.trans (if_pos hkL)⟩
        have HOW : Hid (wr.ownsRow w.heap.size 3 1 u7 k ((glEls r k).map iv)) := hown
        have HDR : Hid (RdDid F p (r.drop (2 * k)) 0 w wr) := hdr
        clear hown hdr
        go_wp2
        go_ret
        obtain ⟨x1, x2, x3⟩ := X.out
        rw [x1, x2, x3]
        refine ⟨_, rfl, ?_, HDR.out⟩
        rw [glEls_length]; exact HOW.out

theorem get79_any (F : Nat → Prop) (p : Nat) (xs : List Nat) (e : Int) (w : World) (h : Rd w F p xs e) :
    Calls Try.prog 79 #[.pointer (some ⟨p, 0, none⟩)] w fun ex w' => ex = .returned (.int .i64 (rdN xs e 2)) ∧ RdDid F p (tkRest xs e 2) (tkE xs e 2) w w' := by
  have cc := ru16_any F p xs e w h
  clear h
  go_enter Try.func79, Try.ntmps79
  go_wp2_with (go_at_call 25; refine cc.mono ?_; rintro ex w1 ⟨rfl, hd⟩)
  go_ret
  exact ⟨rfl, hd⟩

set_option maxHeartbeats 2000000 in
theorem getList79_any (F : Nat → Prop) (p : Nat) (xs : List Nat) (e most : Int) (w : World) (h : Rd w F p xs e) (hsz : xs.length ≤ 140737488351232) :
    Calls Try.prog 30 #[.pointer (some ⟨p, 0, none⟩), .int .i64 most, .func (.func 79) #[] #[]] w fun ex w' => ∃ v, ex = .returned v ∧ w'.ownsRow w.heap.size 3 1 v (glX xs e most).length ((glX xs e most).map iv) ∧ RdDid F p (glRest xs e most) (glE xs e most) w w' := by
  obtain ⟨i0, hi, hz0, hz1, hz2⟩ := info_parts Try.info3
  have c60 := count_any F p xs e most w h
  have hflt : ∀ k, F k → k < w.heap.size := by obtain ⟨a, n, c, hv⟩ := h; exact hv.flt
  have HFL : Hid (∀ k, F k → k < w.heap.size) := hflt
  have hxl := h.lt
  have HXL : Hid (∀ x ∈ xs, x < 256) := hxl
  clear h hflt hxl
  cases hok : cnOk xs e most with
  | false =>
    have hne := cnE_ne xs e most hok
    have e1 : cnN xs e most = 0 := by unfold cnN; rw [hok]; rfl
    have e2 : cnRest xs e most = xs := by unfold cnRest; rw [hok]; rfl
    have hg : glOk xs e most = false := by unfold glOk; rw [hok]; rfl
    have e3 : glX xs e most = [] := by unfold glX; rw [hg]; rfl
    have e4 : glRest xs e most = xs := by unfold glRest; rw [hg, hok]; rfl
    have e5 : glE xs e most = cnE xs e most := by unfold glE; rw [hok]; rfl
    rw [e3, e4, e5]
    rw [e1, e2] at c60
    clear e1 e2 e3 e4 e5 hg hok hne
    go_enter Try.func30, Try.ntmps30
    go_wp2_with (go_at_call 60; refine c60.mono ?_; rintro ex w1 ⟨rfl, hd⟩)
    go_loopw [7, 12] (fun l i wr => i = .int .i64 0 ∧ l = .slice none 0 0 ∧ wr = w1) (fun _ _ _ => 0)
    case atStart => exact ⟨rfl, rfl, rfl⟩
    case round =>
      obtain ⟨rfl, rfl, rfl⟩ := hrel
      go_wp2
      go_ret
      exact ⟨_, rfl, World.ownsRow_nil _ _ _ _, hd⟩
  | true =>
    obtain ⟨hE0, he0⟩ := cnE_ok xs e most hok
    subst he0
    have hN := rdN_lt 0 4 HXL.out
    have hN2 : rdN xs 0 4 ≤ (xs.length : Int) - 4 := by unfold cnOk at hok; simp only [Bool.and_eq_true, decide_eq_true_eq] at hok; exact hok.2
    obtain ⟨N, hNN⟩ : ∃ N : Nat, (N : Int) = rdN xs 0 4 := ⟨(rdN xs 0 4).toNat, Int.toNat_of_nonneg hN.1⟩
    have e1 : cnN xs 0 most = (N : Int) := by unfold cnN; rw [hok]; exact hNN.symm
    have e2 : cnRest xs 0 most = xs.drop 4 := by unfold cnRest; rw [hok]; rfl
    rw [e1, e2, hE0] at c60
    have hrl : (xs.drop 4).length = xs.length - 4 := List.length_drop
    have hNl : N ≤ xs.length - 4 := by omega
    have hx4 : 4 ≤ xs.length := by omega
    have e3 : glX xs 0 most = if 2 * N ≤ xs.length - 4 then glEls (xs.drop 4) N else [] := by
      unfold glX glOk; rw [hok, ← hNN, Int.toNat_natCast]
      by_cases h : 2 * N ≤ xs.length - 4
      · rw [if_pos h, decide_eq_true (by omega)]; rfl
      · rw [if_neg h, decide_eq_false (by omega)]; rfl
    have e4 : glRest xs 0 most = if 2 * N ≤ xs.length - 4 then (xs.drop 4).drop (2 * N) else (xs.drop 4).drop (2 * ((xs.length - 4) / 2)) := by
      unfold glRest glOk; rw [hok, ← hNN, Int.toNat_natCast]
      by_cases h : 2 * N ≤ xs.length - 4
      · rw [if_pos h, decide_eq_true (by omega)]; rfl
      · rw [if_neg h, decide_eq_false (by omega)]; rfl
    have e5 : glE xs 0 most = if 2 * N ≤ xs.length - 4 then 0 else 20 := by
      unfold glE glOk; rw [hok, ← hNN]
      by_cases h : 2 * N ≤ xs.length - 4
      · rw [if_pos h, decide_eq_true (by omega)]; rfl
      · rw [if_neg h, decide_eq_false (by omega)]; rfl
    rw [e3, e4, e5]
    obtain ⟨r, hr⟩ : ∃ r, r = xs.drop 4 := ⟨_, rfl⟩
    rw [← hr] at c60 hrl ⊢
    obtain ⟨L, hL⟩ : ∃ L, L = xs.length - 4 := ⟨_, rfl⟩
    rw [← hL] at hrl hNl ⊢
    have hLs : L ≤ 140737488351232 := by omega
    have hNS : N ≤ 4294967295 := by have := hN.2; omega
    have HRL : Hid (r.length = L) := hrl
    obtain ⟨gX, hgX⟩ : ∃ gX, gX = (if 2 * N ≤ L then glEls r N else []) := ⟨_, rfl⟩
    obtain ⟨gR, hgR⟩ : ∃ gR, gR = (if 2 * N ≤ L then r.drop (2 * N) else r.drop (2 * (L / 2))) := ⟨_, rfl⟩
    obtain ⟨gE, hgE⟩ : ∃ gE : Int, gE = (if 2 * N ≤ L then 0 else 20) := ⟨_, rfl⟩
    rw [← hgX, ← hgR, ← hgE]
    have HGX : Hid (gX = (if 2 * N ≤ L then glEls r N else [])) := hgX
    have HGR : Hid (gR = (if 2 * N ≤ L then r.drop (2 * N) else r.drop (2 * (L / 2)))) := hgR
    have HGE : Hid (gE = (if 2 * N ≤ L then 0 else 20)) := hgE
    clear hgX hgR hgE
    clear e1 e2 e3 e4 e5 hok hE0 hN hN2 hNN hr hL hrl hx4 hsz
    go_enter Try.func30, Try.ntmps30
    go_wp2_with (go_at_call 60; refine c60.mono ?_; rintro ex w1 ⟨rfl, hd⟩)
    have HD : Hid (RdDid F p r 0 w w1) := hd
    clear hd c60
    go_loopw [7, 12] (fun l i wr => ∃ k : Nat, k ≤ N ∧ 2 * k ≤ L ∧ i = .int .i64 k ∧ wr.ownsRow w.heap.size 3 1 l k ((glEls r k).map iv) ∧ RdDid F p (r.drop (2 * k)) 0 w wr) (fun _ i _ => N - (intOf i).toNat)
    case atStart => exact ⟨0, by omega, by omega, rfl, World.ownsRow_nil _ _ _ _, by simpa using HD.out⟩
    case round =>
      obtain ⟨k, hk, hkL, rfl, hown, hdr⟩ := hrel
      by_cases hlt : k < N
      · have hdl : (r.drop (2 * k)).length = L - 2 * k := by rw [List.length_drop, HRL.out]
        have cg := get79_any F p (r.drop (2 * k)) 0 wr hdr.1
        have HOW : Hid (wr.ownsRow w.heap.size 3 1 u7 k ((glEls r k).map iv)) := hown
        have HDR : Hid (RdDid F p (r.drop (2 * k)) 0 w wr) := hdr
        have hszr := hdr.2.size
        by_cases h2 : 2 * k + 2 ≤ L
        · obtain ⟨t1, t2, t3⟩ := tk2_yes (r.drop (2 * k)) (by omega)
          rw [t1, t2, t3, List.drop_drop] at cg
          obtain ⟨y, hy⟩ : ∃ y, y = val ((r.drop (2 * k)).take 2) := ⟨_, rfl⟩
          rw [← hy] at cg
          have HY : Hid (y = val ((r.drop (2 * k)).take 2)) := hy
          clear t1 t2 t3 hy hown hdr hdl
          go_upto_region 7 with (go_at_call 79; refine cg.mono ?_; rintro ex w2 ⟨rfl, hd2⟩; obtain ⟨a2, n2, k2, hv2⟩ := hd2.1; have d1 := hv2.c1)
          have hov2 : w2.ownsRow w.heap.size 3 1 u7 k ((glEls r k).map iv) := hd2.2.owns HOW.out (fun g hg e => by have := (HOW.out.lt g hg).1; have h3 := HFL.out p hv2.fp; omega)
          have hk2 : Kept (fun k => k = p) w w2 := HDR.out.2.trans hd2.2 (fun _ h => .inl h)
          have HOV2 : Hid (w2.ownsRow w.heap.size 3 1 u7 k ((glEls r k).map iv)) := hov2
          have HK2 : Hid (Kept (fun k => k = p) w w2) := hk2
          have HR2 : Hid (Rd w2 F p (r.drop (2 * k + 2)) 0) := hd2.1
          have hsz2 := hk2.size
          clear hov2 hk2 hd2 hv2 d1 cg
          go_wp2_with (at_builtin; refine wpList_append_own _ rfl _ _ 41 rfl w.heap.size 3 i0 (.int .i64 0) 1 8 Try.underlying41 hi hz0 hz1 hz2 rfl (by decide) _ _ _ rfl (HOV2.out.alloc _) ⟨w2.heap.size, 0, none⟩ 1 1 [.int .i64 (y : Nat)] rfl rfl (cell_one_new _ _ _) (one_one _ _) (by unfold maxLen; omega) (by omega) (by simp; omega) ?_; intro v3 w3 own3 grow3 _)
          have hk3 : Kept (fun k => k = p) w w3 := (HK2.out.alloc _).grown grow3 (fun k hk => .inr (HOV2.out.lt k hk).1)
          have hr3 : Rd w3 F p (r.drop (2 * (k + 1))) 0 := by
            refine HR2.out.kept (G := fun k => u7.ownBlock = some k) (((Kept.refl (fun k => u7.ownBlock = some k) w2).alloc _).grown grow3 (fun k hk => .inl hk)) (fun b hb hu => ?_)
            have h3 := HFL.out b hb
            have h4 := (HOV2.out.lt b hu).1
            omega
          have own4 : w3.ownsRow w.heap.size 3 1 v3 (k + 1) ((glEls r (k + 1)).map iv) := by
            rw [glEls_succ, List.map_append, ← HY.out]; exact own3
          clear grow3 own3
          go_wp2
          go_roundw
          case rel => exact ⟨k + 1, by omega, by omega, by go_num, own4, hr3, hk3⟩
          case measure => simp [intOf]; omega
        · obtain ⟨t2, t3⟩ := tk2_no (r.drop (2 * k)) (by omega)
          rw [t2, t3] at cg
          have hkL2 : L / 2 = k := by omega
          have x1 : gX = [] := HGX.out.trans (if_neg (by omega))
          have x2 : gR = r.drop (2 * k) := HGR.out.trans ((if_neg (by omega)).trans (by rw [hkL2]))
          have x3 : gE = 20 := HGE.out.trans (if_neg (by omega))
          have X : Hid (gX = [] ∧ gR = r.drop (2 * k) ∧ gE = 20) := ⟨x1, x2, x3⟩
          clear t2 t3 hown hdr hdl hkL2 x1 x2 x3
          go_wp2_with (go_at_call 79; refine cg.mono ?_; rintro ex w2 ⟨rfl, hd2⟩; obtain ⟨a2, n2, k2, hv2⟩ := hd2.1; have d1 := hv2.c1)
          go_ret
          obtain ⟨x1, x2, x3⟩ := X.out
          rw [x1, x2, x3]
          exact ⟨_, rfl, World.ownsRow_nil _ _ _ _, hd2.1, HDR.out.2.trans hd2.2 (fun _ h => .inl h)⟩
      · have hkN : k = N := by omega
        subst hkN
        have X : Hid (gX = glEls r k ∧ gR = r.drop (2 * k) ∧ gE = 0) := ⟨HGX.out.trans (if_pos hkL), HGR.out.trans (if_pos hkL), HGE.out.trans (if_pos hkL)⟩
        have HOW : Hid (wr.ownsRow w.heap.size 3 1 u7 k ((glEls r k).map iv)) := hown
        have HDR : Hid (RdDid F p (r.drop (2 * k)) 0 w wr) := hdr
        clear hown hdr
        go_wp2
        go_ret
        obtain ⟨x1, x2, x3⟩ := X.out
        rw [x1, x2, x3]
        refine ⟨_, rfl, ?_, HDR.out⟩
        rw [glEls_length]; exact HOW.out

end Go.Proofs.Ytakdfpenpodplaa
