/-
  'listed'.
-/
import Derived.Test.YteiakmjdjaodlaaRRef5
namespace Go.Proofs.Yteiakmjdjaodlaa
open Go.Shelf Go.RowKit Go.Lib Go.Sort
set_option linter.unusedVariables false
set_option maxRecDepth 100000

/-- a number laid into a row -/
theorem owns_layI {w : World} {B g n cap j : Nat} {xs : List Int} (h : w.ownsRow B 3 1 (.slice (some ⟨g, 0, none⟩) n cap) n (xs.map iv)) (x : Int) : (w.setCell ⟨g, j, none⟩ (.int .i64 x)).ownsRow B 3 1 (.slice (some ⟨g, 0, none⟩) n cap) n ((xs.set j x).map iv) := by
  obtain ⟨hl, ⟨h0, _⟩ | ⟨g', cap', cur, hv, hb, hg, hn, hm, hs, ht⟩⟩ := h
  · cases h0
  · injection hv with h1 h2 h3
    injection h1 with h1
    injection h1 with h1 _ _
    subst h1 h3
    refine ⟨by simpa using hl, .inr ⟨g, cap, cur.setIfInBounds j (.int .i64 x), rfl, hb, heap_setCell_eq hg _, hn, hm, by simpa using hs, ?_⟩⟩
    simp only [Array.toList_setIfInBounds, List.take_set, ht]
    rw [List.map_set]
    rfl
/-- while a list is spoilt -/
structure Lq (w0 : World) (a u : Value) (m : Nat) (w : World) : Prop where
  kept : Kept (fun k => a.ownBlock = some k) w0 w
  row : ∃ ys : List Int, ys.length = m ∧ w.ownsRow 0 3 1 u m (ys.map iv)
  at' : ∀ g, u.ownBlock = some g → a.ownBlock = some g ∨ w0.heap.size ≤ g
theorem Lq.more {w0 w w' : World} {a u v : Value} {m : Nat} {ys : List Int} {x : Int} (h : Lq w0 a u m w) (hm : ys.length = m) (own : w'.ownsRow 0 3 1 v (m + 1) (ys.map iv ++ [.int .i64 x])) (gr : (w.alloc (.cells #[.int .i64 x] 3)).grownBy w' u.ownBlock) (at' : v.ownBlock = u.ownBlock ∨ v.ownBlock = some (w.alloc (.cells #[.int .i64 x] 3)).heap.size) : Lq w0 a v (m + 1) w' := by
  refine ⟨(h.kept.alloc _).grown gr (fun k e => h.at' k e), ⟨ys ++ [x], by simp [hm], by rw [List.map_append]; exact own⟩, fun g hg => ?_⟩
  rcases at' with e | e
  · exact h.at' g (e ▸ hg)
  · rw [e] at hg; injection hg with hg; right; have := h.kept.size; rw [World.size_alloc] at hg; omega
theorem same_eqB (xs : List Int) (u v : Value) (n : Nat) (w : World) (h : w.ownsRow 0 3 1 u n (xs.map iv)) (h' : w.ownsRow 0 3 1 v n (xs.map iv)) : Calls Try.prog 19 #[u, v] w fun ex w' => ex = .returned (.bool true) ∧ Below w.heap.size w w' := by
  refine (same_eq xs u v n w h h').mono ?_
  rintro ex w' ⟨rfl, q, rfl⟩
  exact ⟨rfl, ⟨rfl, rfl, rfl, Nat.le_refl _, fun _ _ => rfl⟩⟩
/-- three lists and where they lie -/
structure Three (W w : World) (xs : List Int) (n B2 B3 : Nat) (wu au bu : Value) : Prop where
  bel : Below W.heap.size W w
  rw' : w.ownsRow 0 3 1 wu n (xs.map iv)
  ra : w.ownsRow B2 3 1 au n (xs.map iv)
  rb : w.ownsRow B3 3 1 bu n (xs.map iv)
theorem Three.below {W w w' : World} {xs : List Int} {n B2 B3 : Nat} {wu au bu : Value} (h : Three W w xs n B2 B3 wu au bu) (k : Below w.heap.size w w') : Three W w' xs n B2 B3 wu au bu := by
  have kk := Kept.of_below (F := No) k
  exact ⟨h.bel.trans (k.mono h.bel.size), kk.owns h.rw' (fun _ _ h => h), kk.owns h.ra (fun _ _ h => h), kk.owns h.rb (fun _ _ h => h)⟩
section
variable {W : World} {F : Nat → Prop} {b mo nx N t : Nat} {v : Value} {T S : List En} {n : Nat}
set_option maxHeartbeats 8000000 in
theorem listed_any (hL : Ln W F b mo nx S) (hF : ∀ k, F k → k < W.heap.size) (hv : W.ownsRow 0 77 3 v n (rcL T)) (hp : T.Perm S) : Calls Try.prog 18 #[.pointer (some ⟨b, 0, none⟩), rv N v t] W fun ex w' => ex = .returned (.bool true) ∧ Below W.heap.size W w' := by
  obtain ⟨hl, a, c, rfl, hc1, hc2, -⟩ := owns_ref hv
  have hSn : S.length = n := by rw [← hp.length_eq]; exact hl
  have hfew : n ≤ 65536 := by have := hL.2.1.few; have := hL.1; omega
  have HL : Hid (Ln W F b mo nx S ∧ (∀ k, F k → k < W.heap.size)) := ⟨hL, hF⟩
  have HOK : Hid (Okl mo nx S) := hL.2.1
  have HSN : Hid (S.length = n) := hSn
  have Q1 := heap_last W (.cells #[.int .i64 N, .slice a n c, .int .i64 t] 42)
  have q0 := cell_of_row (k := 0) (v := .int .i64 N) Q1 rfl
  have q1 := cell_of_row (k := 1) (v := .slice a n c) Q1 rfl
  have q2 := cell_of_row (k := 2) (v := .int .i64 t) Q1 rfl
  have B1 : Hid (Below W.heap.size W (W.alloc (.cells #[.int .i64 N, .slice a n c, .int .i64 t] 42))) := (Below.refl _ W).alloc (Nat.le_refl _) _
  have cW := rlist_any (N := N) (t := t) (hv.alloc (.cells #[.int .i64 N, .slice a n c, .int .i64 t] 42)) (by omega) hp HOK.out
  obtain ⟨i0, hz, hz0, hz1, hz2⟩ := info_parts info3
  rw [hSn] at cW
  unfold rv at cW ⊢
  clear hv hl hp hSn hL hF Q1
  go_enter Try.func18, Try.ntmps18
  go_upto_region 1 with fail
  generalize W.alloc (.cells #[.int .i64 N, .slice a n c, .int .i64 t] 42) = w1 at *
  go_upto_region 2 with (go_at_call 32; refine cW.mono ?_; rintro ex w2 ⟨wu, rfl, own2, hb2⟩)
  have B2 : Hid (Below W.heap.size W w2) := B1.out.trans (hb2.mono B1.out.size)
  have cA := list_any (HL.out.1.below B2.out)
  rw [HSN.out] at cA
  have HO2 : Hid (w2.ownsRow 0 3 1 wu n ((idL S).map iv)) := owns_base own2 (Nat.zero_le _)
  clear own2 hb2 cW q0 q1 q2
  go_upto_region 3 with (go_at_call 7; refine cA.mono ?_; rintro ex w3 ⟨au, rfl, own3, hb3⟩)
  have B3 : Hid (Below W.heap.size W w3) := B2.out.trans (hb3.mono B2.out.size)
  have cB := list_any (HL.out.1.below B3.out)
  rw [HSN.out] at cB
  have HO3 : Hid (w3.ownsRow 0 3 1 wu n ((idL S).map iv) ∧ w3.ownsRow w2.heap.size 3 1 au n ((idL S).map iv)) := ⟨(Kept.of_below (F := No) hb3).owns HO2.out (fun _ _ h => h), own3⟩
  have HWA : Hid (∀ g, wu.ownBlock = some g → g < w2.heap.size) := (fun g hg => (HO2.out.lt g hg).2)
  have HS23 : Hid (w2.heap.size ≤ w3.heap.size) := hb3.size
  clear own3 hb3 cA HO2
  go_upto_region 4 with (go_at_call 7; refine cB.mono ?_; rintro ex w4 ⟨bu, rfl, own4, hb4⟩)
  have B4 : Hid (Below W.heap.size W w4) := B3.out.trans (hb4.mono B3.out.size)
  have HO4 : Hid (w4.ownsRow 0 3 1 wu n ((idL S).map iv) ∧ w4.ownsRow w2.heap.size 3 1 au n ((idL S).map iv) ∧ w4.ownsRow w3.heap.size 3 1 bu n ((idL S).map iv)) := ⟨(Kept.of_below (F := No) hb4).owns HO3.out.1 (fun _ _ h => h), (Kept.of_below (F := No) hb4).owns HO3.out.2 (fun _ _ h => h), own4⟩
  have HAB : Hid (∀ g, au.ownBlock = some g → w2.heap.size ≤ g ∧ g < w3.heap.size) := (fun g hg => HO3.out.2.lt g hg)
  have hW2 : W.heap.size ≤ w2.heap.size := B2.out.size
  have h23 : w2.heap.size ≤ w3.heap.size := HS23.out
  clear own4 hb4 cB HO3
  obtain ⟨-, wa, wc, hwu, -⟩ := owns_ints HO4.out.1
  obtain ⟨-, aa, ac, hau, hac1, hac2, -⟩ := owns_ints HO4.out.2.1
  obtain ⟨-, ba, bc, hbu, -⟩ := owns_ints HO4.out.2.2
  subst hwu hau hbu
  have HT4 : Hid (Three W w4 (idL S) n w2.heap.size w3.heap.size (.slice wa n wc) (.slice aa n ac) (.slice ba n bc)) := ⟨B4.out, HO4.out.1, HO4.out.2.1, HO4.out.2.2⟩
  have cS1 := same_eqB (idL S) (.slice aa n ac) (.slice wa n wc) n w4 (owns_base HT4.out.ra (Nat.zero_le _)) HT4.out.rw'
  clear HO4
  go_upto_region 6 with (first
    | (go_at_call 19; refine cS1.mono ?_; rintro ex w5 ⟨rfl, hb5⟩; have HT5 := HT4.out.below hb5; have cS2 := same_eqB (idL S) (.slice ba n bc) (.slice wa n wc) n w5 (owns_base HT5.rb (Nat.zero_le _)) HT5.rw'; clear cS1 hb5)
    | (go_at_call 19; refine cS2.mono ?_; rintro ex w6 ⟨rfl, hb6⟩; have HT6 : Hid (Three W w6 (idL S) n w2.heap.size w3.heap.size (.slice wa n wc) (.slice aa n ac) (.slice ba n bc)) := HT5.below hb6; have cN := len_any (HL.out.1.below HT6.out.bel); rw [HSN.out] at cN; clear cS2 hb6 HT5)
    | (go_at_call 25; refine cN.mono ?_; rintro ex w7 ⟨rfl, hw7⟩; obtain rfl := hw7.symm; clear cN))
  have HQ0 : Hid (Lq w6 (.slice aa n ac) (.slice aa n ac) n w6) := ⟨Kept.refl _ _, ⟨idL S, by rw [idL_len]; exact HSN.out, owns_base HT6.out.ra (Nat.zero_le _)⟩, fun g hg => .inl hg⟩
  have HEND : Hid (∀ wr, Kept (fun k => (Value.slice aa n ac).ownBlock = some k) w6 wr → Ln wr F b mo nx S ∧ wr.ownsRow 0 3 1 (.slice wa n wc) n ((idL S).map iv) ∧ wr.ownsRow 0 3 1 (.slice ba n bc) n ((idL S).map iv) ∧ Below W.heap.size W wr) := (fun wr hk => by
    refine ⟨(HL.out.1.below HT6.out.bel).kept hk (fun j hj e => ?_), hk.owns HT6.out.rw' (fun g hg e => ?_), hk.owns (owns_base HT6.out.rb (Nat.zero_le _)) (fun g hg e => ?_), HT6.out.bel.trans (hk.below (fun k e => ?_) HT6.out.bel.size)⟩
    · have h1 := HL.out.2 j hj
      have h2 := (HAB.out j e).1
      omega
    · have h1 := HWA.out g hg
      have h2 := (HAB.out g e).1
      omega
    · have h1 := (HT6.out.rb.lt g hg).1
      have h2 := (HAB.out g e).2
      omega
    · have h2 := (HAB.out k e).1
      omega)
  clear HT4 B1 B2 B3 B4
  go_wp2
  go_loopw [8] (fun d wr => ∃ j : Nat, j ≤ n ∧ d = .int .i64 j ∧ Lq w6 (.slice aa n ac) (.slice aa n ac) n wr) (fun d _ => n - (intOf d).toNat)
  case atStart => exact ⟨0, Nat.zero_le _, rfl, HQ0.out⟩
  case round =>
    clear HQ0
    obtain ⟨j, hj, rfl, hq⟩ := hrel
    have HQ : Hid (Lq w6 (.slice aa n ac) (.slice aa n ac) n wr) := hq
    by_cases hlt : j < n
    · obtain ⟨ys, hys, hrow⟩ := hq.row
      obtain ⟨y, hy⟩ : ∃ y, ys[j]? = some y := ⟨_, List.getElem?_eq_getElem (by rw [hys]; exact hlt)⟩
      obtain ⟨g, hg, r0, rf⟩ : ∃ g, aa = some ⟨g, 0, none⟩ ∧ wr.cell? ⟨g, j, none⟩ = some (.int .i64 y) ∧ wr.frozen? ⟨g, j, none⟩ = false := by
        obtain ⟨_, a', c', e, _, _, h3⟩ := owns_ints hrow
        injection e with e1 _ _
        subst e1
        exact h3 j y hy
      subst hg
      have HN2 : Hid (Lq w6 (.slice (some ⟨g, 0, none⟩) n ac) (.slice (some ⟨g, 0, none⟩) n ac) n (wr.setCell ⟨g, j, none⟩ (.int .i64 (-5)))) := ⟨Kept.setCell (p := ⟨g, j, none⟩) HQ.out.kept (.inl rfl) _, ⟨ys.set j (-5), by simp [hys], owns_layI hrow (-5)⟩, fun g hg => .inl hg⟩
      clear hq hrow hy hys
      go_wp2
      go_roundw
      case rel => exact ⟨j + 1, by omega, by go_num, HN2.out⟩
      case measure => simp [intOf]; omega
    · clear hq
      go_wp2
      go_loopw [9, 10] (fun u d wr => ∃ k : Nat, k ≤ 64 ∧ d = .int .i64 k ∧ Lq w6 (.slice aa n ac) u (n + k) wr) (fun _ d _ => 64 - (intOf d).toNat)
      case atStart => exact ⟨0, by omega, rfl, HQ.out⟩
      case round =>
        clear HQ
        obtain ⟨k, hk, rfl, hq⟩ := hrel
        have HQ : Hid (Lq w6 (.slice aa n ac) u9 (n + k) wr) := hq
        obtain ⟨ys, hys, hrow⟩ := hq.row
        obtain ⟨m, hm⟩ : ∃ m, m = n + k := ⟨_, rfl⟩
        rw [← hm] at hrow hys
        have HM : Hid (m = n + k) := hm
        have hmb : m ≤ 70000 := by omega
        by_cases hlt2 : k < 64
        · have HROW : Hid (wr.ownsRow 0 3 1 u9 m (ys.map iv) ∧ ys.length = m) := ⟨hrow, hys⟩
          clear hq hrow hys hm
          go_wp2_with (at_builtin; refine wpList_append_own_at _ rfl _ _ 29 rfl 0 3 i0 (.int .i64 0) 1 8 Try.underlying29 hz hz0 hz1 hz2 rfl (by decide) _ _ _ rfl (HROW.out.1.alloc _) ⟨wr.heap.size, 0, none⟩ 1 1 [.int .i64 (-6)] rfl rfl (cell_one_new _ _ _) (one_one _ _) (by unfold maxLen; omega) (by omega) (Nat.zero_le _) ?_; intro v1 w8 own1 grow1 _ at1; have HQ2 : Hid (Lq w6 (.slice aa n ac) v1 (m + 1) w8) := (by have h0 := HQ.out; rw [← HM.out] at h0; exact h0.more HROW.out.2 own1 grow1 at1); clear own1 grow1 at1)
          go_roundw
          case rel => exact ⟨k + 1, by omega, by go_num, by have h0 := HQ2.out; rw [HM.out] at h0; exact h0⟩
          case measure => simp [intOf]; omega
        · have hk64 : k = 64 := by omega
          subst hk64
          obtain ⟨-, ua, uc, hu9, -⟩ := owns_ints hrow
          subst hu9
          obtain ⟨e1, e2, e3, e4⟩ := HEND.out wr hq.kept
          have HE : Hid (Ln wr F b mo nx S ∧ wr.ownsRow 0 3 1 (.slice wa n wc) n ((idL S).map iv) ∧ Below W.heap.size W wr) := ⟨e1, e2, e4⟩
          have cS := same_eqB (idL S) (.slice ba n bc) (.slice wa n wc) n wr e3 e2
          have emn : (m : Int) = (n : Int) + 64 := by omega
          clear hq hrow hys hm e1 e2 e3 e4
          go_wp2_with (first
            | (go_at_call 19; refine cS.mono ?_; rintro ex w8 ⟨rfl, hb8⟩; have B8 : Hid (Below W.heap.size W w8) := HE.out.2.2.trans (hb8.mono HE.out.2.2.size); have r8 : Hid (w8.ownsRow 0 3 1 (.slice wa n wc) n ((idL S).map iv)) := (Kept.of_below (F := No) hb8).owns HE.out.2.1 (fun _ _ h => h); have cL := list_any (HE.out.1.below hb8); rw [HSN.out] at cL; clear cS hb8)
            | (go_at_call 7; refine cL.mono ?_; rintro ex w9 ⟨lu, rfl, own9, hb9⟩; have B9 : Hid (Below W.heap.size W w9) := B8.out.trans (hb9.mono B8.out.size); have cZ := same_eqB (idL S) lu (.slice wa n wc) n w9 (owns_base own9 (Nat.zero_le _)) ((Kept.of_below (F := No) hb9).owns r8.out (fun _ _ h => h)); clear cL hb9 own9)
            | (go_at_call 19; refine cZ.mono ?_; rintro ex w10 ⟨rfl, hb10⟩))
          go_ret
          exact ⟨rfl, B9.out.trans (hb10.mono B9.out.size)⟩
end
end Go.Proofs.Yteiakmjdjaodlaa
