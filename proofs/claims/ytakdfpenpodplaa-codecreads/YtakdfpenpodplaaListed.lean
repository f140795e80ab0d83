/-
  A list of numbers, by the document.
-/
import Derived.Test.YtakdfpenpodplaaRefIn3
import Derived.Test.YtakdfpenpodplaaGetList
namespace Go.Proofs.Ytakdfpenpodplaa
open Go.RowKit
set_option linter.unusedVariables false

theorem Il.plt {w : World} {F : Nat → Prop} {p : Nat} {xs : List Nat} {e : Int} (h : Il w F p xs e) : p < w.heap.size := by
  obtain ⟨a, n, c, bs, m, hv, _⟩ := h; exact hv.plt
theorem Il.c2 {w : World} {F : Nat → Prop} {p : Nat} {xs : List Nat} {e : Int} (h : Il w F p xs e) : w.cell? ⟨p, 2, none⟩ = some (.int .i64 e) := by
  obtain ⟨a, n, c, bs, m, hv, _⟩ := h; exact hv.c2
theorem IlDid.trans {F : Nat → Prop} {p : Nat} {xs ys : List Nat} {e e' : Int} {w w1 w2 : World} (h : IlDid F p xs e w w1) (k : IlDid F p ys e' w1 w2) : IlDid F p ys e' w w2 :=
  ⟨k.1, h.2.1.trans k.2.1 (fun _ h => .inl h), k.2.2.trans h.2.2⟩

/-- how far the list has come: k numbers, or a fault at the last -/
def Come (F : Nat → Prop) (p : Nat) (r : List Nat) (L k : Nat) (v : Value) (w wr : World) : Prop :=
  (2 * k ≤ L ∧ wr.ownsRow w.heap.size 3 1 v k ((glEls r k).map iv) ∧ IlDid F p (r.drop (2 * k)) 0 w wr) ∨
  (L < 2 * k ∧ (∃ ys : List Int, wr.ownsRow w.heap.size 3 1 v k (ys.map iv)) ∧ IlDid F p (r.drop (2 * (L / 2))) 20 w wr)

/-- the answers, by the numbers N and L -/
theorem gl_parts (xs : List Nat) (most : Int) (N L : Nat) (hok : cnOk xs 0 most = true) (hNN : (N : Int) = rdN xs 0 4) (hL : L = xs.length - 4) (h4 : 4 ≤ xs.length) :
    glX xs 0 most = (if 2 * N ≤ L then glEls (xs.drop 4) N else []) ∧ glRest xs 0 most = (if 2 * N ≤ L then (xs.drop 4).drop (2 * N) else (xs.drop 4).drop (2 * (L / 2))) ∧ glE xs 0 most = (if 2 * N ≤ L then 0 else 20) := by
  subst hL
  refine ⟨?_, ?_, ?_⟩
  · unfold glX glOk; rw [hok, ← hNN, Int.toNat_natCast]
    by_cases h : 2 * N ≤ xs.length - 4
    · rw [if_pos h, decide_eq_true (by omega)]; rfl
    · rw [if_neg h, decide_eq_false (by omega)]; rfl
  · unfold glRest glOk; rw [hok, ← hNN, Int.toNat_natCast]
    by_cases h : 2 * N ≤ xs.length - 4
    · rw [if_pos h, decide_eq_true (by omega)]; rfl
    · rw [if_neg h, decide_eq_false (by omega)]; rfl
  · unfold glE glOk; rw [hok, ← hNN]
    by_cases h : 2 * N ≤ xs.length - 4
    · rw [if_pos h, decide_eq_true (by omega)]; rfl
    · rw [if_neg h, decide_eq_false (by omega)]; rfl

/-- one number more -/
theorem come_more {F : Nat → Prop} {p : Nat} {r : List Nat} {L k : Nat} {v : Value} {w wr : World} (hr : r.length = L) (h2 : 2 * k ≤ L) (hown : wr.ownsRow w.heap.size 3 1 v k ((glEls r k).map iv)) (hd : IlDid F p (r.drop (2 * k)) 0 w wr) (hF : ∀ b, F b → b < w.heap.size) :
    ∃ y : Int, Calls Try.prog 69 #[.pointer (some ⟨p, 0, none⟩)] wr fun ex w2 => ex = .returned (.int .i64 y) ∧ w2.ownsRow w.heap.size 3 1 v k ((glEls r k).map iv) ∧ w.heap.size ≤ w2.heap.size ∧
      (∀ v3 w3, w3.ownsRow w.heap.size 3 1 v3 (k + 1) ((glEls r k).map iv ++ [iv y]) → w2.heap.size ≤ w3.heap.size → Kept (fun g => v.ownBlock = some g) w2 w3 → Come F p r L (k + 1) v3 w w3) := by
  have c := inU16_any F p (r.drop (2 * k)) 0 wr hd.1
  have hsz := hd.2.1.size
  have hrl : (r.drop (2 * k)).length = L - 2 * k := by rw [List.length_drop, hr]
  have stay : ∀ (w2 w3 : World) (ys : List Nat) (E : Int), IlDid F p ys E wr w2 → Kept (fun g => v.ownBlock = some g) w2 w3 → IlDid F p ys E w w3 := by
    intro w2 w3 ys E h2 hk
    have h3 := hd.trans h2
    have hne : ∀ b, F b → ¬ v.ownBlock = some b := fun b hb e => by have := (hown.lt b e).1; have := hF b hb; omega
    refine ⟨h3.1.kept hk hne, h3.2.1.trans hk (fun g hg => .inr (hown.lt g hg).1), ?_⟩
    have hc := h3.1
    obtain ⟨a, n, cc, bs, m, hv, _⟩ := hc
    rw [hk.cell hv.c0 (hne p hv.fp), ← hv.c0]
    exact h3.2.2
  have hfp : F p := by obtain ⟨⟨a, n, cc, bs, m, hv, _⟩, _⟩ := hd; exact hv.fp
  have hnp : ∀ g, v.ownBlock = some g → ¬ g = p := fun g hg e => by have := (hown.lt g hg).1; have := hF p hfp; omega
  by_cases h22 : 2 * k + 2 ≤ L
  · obtain ⟨t1, t2, t3⟩ := tk2_yes (r.drop (2 * k)) (by omega)
    rw [t1, t2, t3, List.drop_drop] at c
    refine ⟨(val ((r.drop (2 * k)).take 2) : Int), c.mono ?_⟩
    rintro ex w2 ⟨rfl, hd2⟩
    refine ⟨rfl, hd2.2.1.owns hown hnp, Nat.le_trans hsz hd2.2.1.size, fun v3 w3 own3 hs hk => .inl ⟨by omega, ?_, ?_⟩⟩
    · rw [glEls_succ, List.map_append]; exact own3
    · have := stay w2 w3 _ 0 hd2 hk
      rwa [show 2 * (k + 1) = 2 * k + 2 by omega]
  · obtain ⟨t2, t3⟩ := tk2_no (r.drop (2 * k)) (by omega)
    rw [t2, t3] at c
    refine ⟨rdN (r.drop (2 * k)) 0 2, c.mono ?_⟩
    rintro ex w2 ⟨rfl, hd2⟩
    refine ⟨rfl, hd2.2.1.owns hown hnp, Nat.le_trans hsz hd2.2.1.size, fun v3 w3 own3 hs hk => .inr ⟨by omega, ⟨glEls r k ++ [rdN (r.drop (2 * k)) 0 2], ?_⟩, ?_⟩⟩
    · rw [List.map_append]; exact own3
    · have := stay w2 w3 _ 20 hd2 hk
      rwa [show L / 2 = k by omega]

set_option maxHeartbeats 4000000 in
set_option maxRecDepth 100000 in
theorem listed_any (F : Nat → Prop) (p : Nat) (xs : List Nat) (e most : Int) (w : World) (h : Il w F p xs e) (hF : ∀ b, F b → b < w.heap.size) (hsz : xs.length ≤ 140737488351232) :
    Calls Try.prog 76 #[.pointer (some ⟨p, 0, none⟩), .int .i64 most] w fun ex w' => ∃ v, ex = .returned v ∧ w'.ownsRow w.heap.size 3 1 v (glX xs e most).length ((glX xs e most).map iv) ∧ IlDid F p (glRest xs e most) (glE xs e most) w w' := by
  obtain ⟨i0, hi, hz0, hz1, hz2⟩ := info_parts Try.info3
  have c75 := inCount_any F p xs e most w h
  have hxl := h.lt
  have HXL : Hid (∀ x ∈ xs, x < 256) := hxl
  have HF : Hid (∀ b, F b → b < w.heap.size) := hF
  clear h hxl hF
  cases hok : cnOk xs e most with
  | false =>
    have hne := cnE_ne xs e most hok
    have e1 : cnN xs e most = 0 := by unfold cnN; rw [hok]; rfl
    have e2 : cnRest xs e most = xs := by unfold cnRest; rw [hok]; rfl
    have hg : glOk xs e most = false := by unfold glOk; rw [hok]; rfl
    have e3 : glX xs e most = [] := by unfold glX; rw [hg]; rfl
    have e4 : glRest xs e most = xs := by unfold glRest; rw [hg, hok]; rfl
    have e5 : glE xs e most = cnE xs e most := by unfold glE; rw [hok]; rfl
    rw [e3, e4, e5]
    rw [e1, e2] at c75
    obtain ⟨E, hE⟩ : ∃ E, E = cnE xs e most := ⟨_, rfl⟩
    rw [← hE] at c75 hne ⊢
    have hne2 : (E == 0) = false := by simpa using hne
    clear e1 e2 e3 e4 e5 hg hok hne hE
    go_enter Try.func76, Try.ntmps76
    go_wp2_with (go_at_call 75; refine c75.mono ?_; rintro ex w1 ⟨rfl, hd⟩; have d2 := hd.1.c2)
    go_loopw [5, 7] (fun l i wr => i = .int .i64 0 ∧ l = .slice none 0 0 ∧ wr = w1) (fun _ _ _ => 0)
    case atStart => exact ⟨rfl, rfl, rfl⟩
    case round =>
      obtain ⟨rfl, rfl, rfl⟩ := hrel
      go_wp2
      go_ret
      exact ⟨_, rfl, World.ownsRow_nil _ _ _ _, hd⟩
  | true =>
    obtain ⟨hE0, he0⟩ := cnE_ok xs e most hok
    subst he0
    have hN := rdN_lt 0 4 HXL.out
    have hN2 : rdN xs 0 4 ≤ (xs.length : Int) - 4 := by unfold cnOk at hok; simp only [Bool.and_eq_true, decide_eq_true_eq] at hok; exact hok.2
    obtain ⟨N, hNN⟩ : ∃ N : Nat, (N : Int) = rdN xs 0 4 := ⟨(rdN xs 0 4).toNat, Int.toNat_of_nonneg hN.1⟩
    have e1 : cnN xs 0 most = (N : Int) := by unfold cnN; rw [hok]; exact hNN.symm
    have e2 : cnRest xs 0 most = xs.drop 4 := by unfold cnRest; rw [hok]; rfl
    rw [e1, e2, hE0] at c75
    have h4 : 4 ≤ xs.length := by omega
    obtain ⟨L, hL⟩ : ∃ L, L = xs.length - 4 := ⟨_, rfl⟩
    obtain ⟨p1, p2, p3⟩ := gl_parts xs most N L hok hNN hL h4
    obtain ⟨gX, hgX⟩ : ∃ gX, gX = glX xs 0 most := ⟨_, rfl⟩
    obtain ⟨gR, hgR⟩ : ∃ gR, gR = glRest xs 0 most := ⟨_, rfl⟩
    obtain ⟨gE, hgE⟩ : ∃ gE, gE = glE xs 0 most := ⟨_, rfl⟩
    rw [← hgX] at p1 ⊢
    rw [← hgR] at p2 ⊢
    rw [← hgE] at p3 ⊢
    obtain ⟨r, hr⟩ : ∃ r, r = xs.drop 4 := ⟨_, rfl⟩
    rw [← hr] at c75 p1 p2
    have HR : Hid (r.length = L) := (show r.length = L by rw [hr, List.length_drop, hL])
    have HGX : Hid (gX = (if 2 * N ≤ L then glEls r N else [])) := p1
    have HGR : Hid (gR = (if 2 * N ≤ L then r.drop (2 * N) else r.drop (2 * (L / 2)))) := p2
    have HGE : Hid (gE = (if 2 * N ≤ L then 0 else 20)) := p3
    have hLs : L ≤ 140737488351232 := by omega
    have hNS : N ≤ 4294967295 := by have := hN.2; omega
    have hNL : N ≤ L := by omega
    clear hok hE0 hN hN2 hNN e1 e2 h4 hL p1 p2 p3 hgX hgR hgE hr hsz
    go_enter Try.func76, Try.ntmps76
    go_wp2_with (go_at_call 75; refine c75.mono ?_; rintro ex w1 ⟨rfl, hd⟩; have HD : Hid (IlDid F p r 0 w w1) := hd; clear hd)
    clear c75
    go_loopw [5, 7] (fun l i wr => ∃ k : Nat, k ≤ N ∧ i = .int .i64 k ∧ Come F p r L k l w wr) (fun _ i _ => N - (intOf i).toNat)
    case atStart => exact ⟨0, by omega, rfl, .inl ⟨by omega, World.ownsRow_nil _ _ _ _, by simpa using HD.out⟩⟩
    case round =>
      obtain ⟨k, hk, rfl, hcome⟩ := hrel
      rcases hcome with ⟨h2, hown, hdr⟩ | ⟨h2, ⟨ys, hown⟩, hdr⟩
      · have d2 := hdr.1.c2
        by_cases hlt : k < N
        · obtain ⟨y, cu⟩ := come_more HR.out h2 hown hdr HF.out
          have HOW : Hid (wr.ownsRow w.heap.size 3 1 u5 k ((glEls r k).map iv)) := hown
          clear hown hdr
          go_wp2_with (first
            | (go_at_call 69; refine cu.mono ?_; rintro ex w2 ⟨rfl, own2, hs2, more⟩; have HM : Hid (∀ v3 w3, w3.ownsRow w.heap.size 3 1 v3 (k + 1) ((glEls r k).map iv ++ [iv y]) → w2.heap.size ≤ w3.heap.size → Kept (fun g => u5.ownBlock = some g) w2 w3 → Come F p r L (k + 1) v3 w w3) := more; have HO2 : Hid (w2.ownsRow w.heap.size 3 1 u5 k ((glEls r k).map iv)) := own2; clear more own2)
            | (at_builtin; refine wpList_append_own _ rfl _ _ 41 rfl w.heap.size 3 i0 (.int .i64 0) 1 8 Try.underlying41 hi hz0 hz1 hz2 rfl (by decide) _ _ _ rfl (HO2.out.alloc _) ⟨w2.heap.size, 0, none⟩ 1 1 [.int .i64 y] rfl rfl (cell_one_new _ _ _) (one_one _ _) (by unfold maxLen; omega) (by omega) (by simp; omega) ?_; intro v3 w3 own3 grow3 _; have hc3 := HM.out v3 w3 own3 (by have := grow3.size; simp at this; omega) (((Kept.refl (fun g => u5.ownBlock = some g) w2).alloc _).grown grow3 (fun g hg => .inl hg)); clear own3 grow3))
          go_roundw
          case rel => exact ⟨k + 1, by omega, by go_num, hc3⟩
          case measure => simp [intOf]; omega
        · have hkN : k = N := by omega
          subst hkN
          have HOW : Hid (wr.ownsRow w.heap.size 3 1 u5 k ((glEls r k).map iv)) := hown
          have HDR : Hid (IlDid F p (r.drop (2 * k)) 0 w wr) := hdr
          clear hown hdr
          go_wp2
          go_ret
          refine ⟨_, rfl, ?_, ?_⟩
          · rw [HGX.out, if_pos h2, glEls_length]; exact HOW.out
          · rw [HGR.out, HGE.out, if_pos h2, if_pos h2]; exact HDR.out
      · have d2 := hdr.1.c2
        have HDR : Hid (IlDid F p (r.drop (2 * (L / 2))) 20 w wr) := hdr
        have hn2 : ¬ 2 * N ≤ L := by omega
        clear hown hdr
        by_cases hlt : k < N
        · go_wp2
          go_ret
          refine ⟨_, rfl, ?_, ?_⟩
          · rw [HGX.out, if_neg hn2]; exact World.ownsRow_nil _ _ _ _
          · rw [HGR.out, HGE.out, if_neg hn2, if_neg hn2]; exact HDR.out
        · go_wp2
          go_ret
          refine ⟨_, rfl, ?_, ?_⟩
          · rw [HGX.out, if_neg hn2]; exact World.ownsRow_nil _ _ _ _
          · rw [HGR.out, HGE.out, if_neg hn2, if_neg hn2]; exact HDR.out

end Go.Proofs.Ytakdfpenpodplaa
