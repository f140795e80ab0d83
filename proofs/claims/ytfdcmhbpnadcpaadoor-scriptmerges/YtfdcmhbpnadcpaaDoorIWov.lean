/-
  The law's woven.
-/
import Derived.Test.YtfdcmhbpnadcpaaDoorISame
namespace Go.Proofs.YtfdcmhbpnadcpaaDoor
open Go.RowKit
set_option linter.unusedVariables false
set_option linter.unusedSimpArgs false
set_option maxRecDepth 100000

theorem split_le {ms xs ys : List Inp} {n i k : Nat} {x y : Inp} (hd : ms.drop n = mrg (xs.drop i) (ys.drop k)) (hx : xs[i]? = some x) (hy : ys[k]? = some y) (h : x.tk ≤ y.tk) : ms[n]? = some x ∧ ms.drop (n + 1) = mrg (xs.drop (i + 1)) (ys.drop k) := by
  rw [drop_cons hx, drop_cons hy, mrg_le _ _ h, ← drop_cons hy] at hd
  exact at_drop hd
theorem split_gt {ms xs ys : List Inp} {n i k : Nat} {x y : Inp} (hd : ms.drop n = mrg (xs.drop i) (ys.drop k)) (hx : xs[i]? = some x) (hy : ys[k]? = some y) (h : ¬ x.tk ≤ y.tk) : ms[n]? = some y ∧ ms.drop (n + 1) = mrg (xs.drop i) (ys.drop (k + 1)) := by
  rw [drop_cons hx, drop_cons hy, mrg_gt _ _ h, ← drop_cons hx] at hd
  exact at_drop hd
theorem split_a {ms xs ys : List Inp} {n i k : Nat} {x : Inp} (hd : ms.drop n = mrg (xs.drop i) (ys.drop k)) (hx : xs[i]? = some x) (hy : ys.length ≤ k) : ms[n]? = some x ∧ ms.drop (n + 1) = mrg (xs.drop (i + 1)) (ys.drop k) := by
  rw [drop_nil hy, mrg_nil_r, drop_cons hx] at hd
  rw [drop_nil hy, mrg_nil_r]
  exact at_drop hd
theorem split_b {ms xs ys : List Inp} {n i k : Nat} {y : Inp} (hd : ms.drop n = mrg (xs.drop i) (ys.drop k)) (hx : xs.length ≤ i) (hy : ys[k]? = some y) : ms[n]? = some y ∧ ms.drop (n + 1) = mrg (xs.drop i) (ys.drop (k + 1)) := by
  rw [drop_nil hx, mrg_nil_l, drop_cons hy] at hd
  rw [drop_nil hx, mrg_nil_l]
  exact at_drop hd
set_option maxHeartbeats 16000000 in
theorem woven_yes {F G K : Nat → Prop} {am aa ab : Option Addr} {nm cm na ca nb cb : Nat} {xs ys : List Inp} (w : World) (hm : Il w F am nm cm (mrg xs ys)) (ha : Il w G aa na ca xs) (hb : Il w K ab nb cb ys) (hs : nm ≤ 1048576) :
    Calls Tryd.prog 17 #[.slice am nm cm, .slice aa na ca, .slice ab nb cb] w fun r w' => r = .returned (.bool true) ∧ Kept No w w' := by
  have q1 := hm.cap
  have q2 := hm.max
  have q3 := ha.cap
  have q4 := ha.max
  have q5 := hb.cap
  have q6 := hb.max
  have l1 : (mrg xs ys).length = nm := hm.len
  have l2 := ha.len
  have l3 := hb.len
  have L0 : Hid (nm = na + nb) := by show nm = na + nb; rw [← l1, ← l2, ← l3, mrg_len]
  have HH := hid (And.intro hm (And.intro ha hb))
  clear hm ha hb
  go_enter Tryd.func17, Tryd.ntmps17
  go_upto_region 3 with fail
  go_wp2
  go_loopw [7, 8, 9] (fun u7 u8 u9 wr => ∃ (i k : Nat), i ≤ na ∧ k ≤ nb ∧ u7 = .int .i64 i ∧ u8 = .int .i64 k ∧ u9 = .int .i64 ((i + k : Nat) : Int) ∧ (mrg xs ys).drop (i + k) = mrg (xs.drop i) (ys.drop k) ∧ Kept No w wr) (fun _ _ u9 _ => nm - (intOf u9).toNat)
  case atStart => exact ⟨0, 0, by omega, by omega, rfl, rfl, rfl, rfl, Kept.refl _ _⟩
  case round =>
    obtain ⟨i, k, hia, hkb, rfl, rfl, rfl, hd, kr⟩ := hrel
    obtain ⟨n, en⟩ : ∃ n, i + k = n := ⟨_, rfl⟩
    rw [en] at hd ⊢
    have KR := hid kr
    clear kr
    by_cases hlt : n < nm
    · have hltz : (n : Int) < (nm : Int) := by omega
      obtain ⟨z, hz⟩ : ∃ z, (mrg xs ys)[n]? = some z := ⟨_, List.getElem?_eq_getElem (by omega)⟩
      obtain ⟨bm, om, zd, zc, rfl, _, c0, ir0⟩ := HH.out.1.at' n z hz
      have LM : Hid (∀ W, Kept No w W → (Instr.loadAt 28 (.pointer (some ⟨bm, om + n * 4, none⟩))).run Tryd.prog W = .ok (.agg (z.val zd zc)) W) := fun W q => ldI (fun j v hv => q.cell (c0 j v hv) (fun e => e))
      by_cases hi : i < na
      · obtain ⟨x, hx⟩ : ∃ x, xs[i]? = some x := ⟨_, List.getElem?_eq_getElem (by omega)⟩
        by_cases hk : k < nb
        · obtain ⟨y, hy⟩ : ∃ y, ys[k]? = some y := ⟨_, List.getElem?_eq_getElem (by omega)⟩
          obtain ⟨ba, oa, xd, xc, rfl, _, c1, ir1⟩ := HH.out.2.1.at' i x hx
          have LA : Hid (∀ W, Kept No w W → (Instr.loadAt 28 (.pointer (some ⟨ba, oa + i * 4, none⟩))).run Tryd.prog W = .ok (.agg (x.val xd xc)) W) := fun W q => ldI (fun j v hv => q.cell (c1 j v hv) (fun e => e))
          have TA : Hid (∀ W, Kept No w W → W.cell? ⟨ba, oa + i * 4, none⟩ = some (.int .i64 x.tk)) := fun W q => q.cell (c1 0 _ rfl) (fun e => e)
          obtain ⟨bb, ob, yd, yc, rfl, _, c2, ir2⟩ := HH.out.2.2.at' k y hy
          have LB : Hid (∀ W, Kept No w W → (Instr.loadAt 28 (.pointer (some ⟨bb, ob + k * 4, none⟩))).run Tryd.prog W = .ok (.agg (y.val yd yc)) W) := fun W q => ldI (fun j v hv => q.cell (c2 j v hv) (fun e => e))
          have TB : Hid (∀ W, Kept No w W → W.cell? ⟨bb, ob + k * 4, none⟩ = some (.int .i64 y.tk)) := fun W q => q.cell (c2 0 _ rfl) (fun e => e)
          by_cases hle : x.tk ≤ y.tk
          · obtain ⟨h1, h2⟩ := split_le hd hx hy hle
            obtain rfl : z = x := by rw [h1] at hz; injection hz with hz; exact hz.symm
            have CA : Hid (∀ W, Kept No w W → Calls Tryd.prog 30 #[.agg (z.val zd zc), .agg (z.val xd xc)] W fun e w'' => e = .returned (.bool true) ∧ Kept No w w'') := fun W q => (sameIn_yes W (ir0.keep q) (ir1.keep q) rfl).mono (fun r w'' h => ⟨h.1, q.trans h.2 (fun _ e => e.elim)⟩)
            have ED : Hid ((mrg xs ys).drop (i + 1 + k) = mrg (xs.drop (i + 1)) (ys.drop k)) := by show (mrg xs ys).drop (i + 1 + k) = _; rw [show i + 1 + k = n + 1 by omega]; exact h2
            clear h1 h2 hd hz hx hy c0 c1 c2 ir0 ir1 ir2
            go_upto_region 6 with fail
            go_cut [49] (fun u wd => u = .bool true ∧ Kept No w wd)
            case first =>
              refine wp_region_held_drew (S := fun W => Kept No w W) (by kernel_rfl) (KR.out.drew) (fun hS => ?_)
              refine d_take 0 16 rfl rfl (by kernel_rfl) (by kernel_rfl) (by kernel_rfl) (fun _ _ _ h => h) rfl (fun w' hw' => er_mv _ rfl (.int .i64 (i : Int)) rfl) hS ?_
              simp only [Act.put, List.setIfInBounds_toArray, List.set_cons_zero, List.set_cons_succ]
              refine d_take 1 17 rfl rfl (by kernel_rfl) (by kernel_rfl) (by kernel_rfl) (fun _ _ _ h => h) rfl (fun w' hw' => er_mv _ rfl (.slice (some ⟨ba, oa, none⟩) na ca) rfl) hS ?_
              simp only [Act.put, List.setIfInBounds_toArray, List.set_cons_zero, List.set_cons_succ]
              refine d_take 2 18 rfl rfl (by kernel_rfl) (by kernel_rfl) (by kernel_rfl) (fun _ _ _ h => h) rfl (fun w' hw' => er_len 22 _ rfl (some ⟨ba, oa, none⟩) na ca rfl (by kernel_rfl)) hS ?_
              simp only [Act.put, List.setIfInBounds_toArray, List.set_cons_zero, List.set_cons_succ]
              refine d_take 3 19 rfl rfl (by kernel_rfl) (by kernel_rfl) (by kernel_rfl) (fun _ _ _ h => h) rfl (fun w' hw' => er_lssI _ _ rfl (i : Int) (na : Int) true rfl rfl (decide_eq_true (by omega))) hS ?_
              simp only [Act.put, List.setIfInBounds_toArray, List.set_cons_zero, List.set_cons_succ]
              refine d_take 4 20 rfl rfl (by kernel_rfl) (by kernel_rfl) (by kernel_rfl) (fun _ _ _ h => h) rfl (fun w' hw' => er_mv _ rfl (.bool true) rfl) hS ?_
              simp only [Act.put, List.setIfInBounds_toArray, List.set_cons_zero, List.set_cons_succ]
              refine d_take 5 21 rfl rfl (by kernel_rfl) (by kernel_rfl) (by kernel_rfl) (fun _ _ _ h => h) rfl (fun w' hw' => er_mv _ rfl (.slice (some ⟨bm, om, none⟩) nm cm) rfl) hS ?_
              simp only [Act.put, List.setIfInBounds_toArray, List.set_cons_zero, List.set_cons_succ]
              refine d_take 6 22 rfl rfl (by kernel_rfl) (by kernel_rfl) (by kernel_rfl) (fun _ _ _ h => h) rfl (fun w' hw' => er_mv _ rfl (.int .i64 (n : Int)) rfl) hS ?_
              simp only [Act.put, List.setIfInBounds_toArray, List.set_cons_zero, List.set_cons_succ]
              refine d_take 7 23 rfl rfl (by kernel_rfl) (by kernel_rfl) (by kernel_rfl) (fun _ _ _ h => h) rfl (fun w' hw' => er_ixN _ _ rfl bm om n nm cm rfl rfl hlt) hS ?_
              simp only [Act.put, List.setIfInBounds_toArray, List.set_cons_zero, List.set_cons_succ]
              refine d_take 8 24 rfl rfl (by kernel_rfl) (by kernel_rfl) (by kernel_rfl) (fun _ _ _ h => h) rfl (fun w' hw' => er_ldX 28 _ rfl (.pointer (some ⟨bm, om + n * 4, none⟩)) (.agg (z.val zd zc)) rfl (LM.out w' hw')) hS ?_
              simp only [Act.put, List.setIfInBounds_toArray, List.set_cons_zero, List.set_cons_succ]
              refine d_take 9 25 rfl rfl (by kernel_rfl) (by kernel_rfl) (by kernel_rfl) (fun _ _ _ h => h) rfl (fun w' hw' => er_mv _ rfl (.slice (some ⟨ba, oa, none⟩) na ca) rfl) hS ?_
              simp only [Act.put, List.setIfInBounds_toArray, List.set_cons_zero, List.set_cons_succ]
              refine d_take 10 26 rfl rfl (by kernel_rfl) (by kernel_rfl) (by kernel_rfl) (fun _ _ _ h => h) rfl (fun w' hw' => er_mv _ rfl (.int .i64 (i : Int)) rfl) hS ?_
              simp only [Act.put, List.setIfInBounds_toArray, List.set_cons_zero, List.set_cons_succ]
              refine d_take 11 27 rfl rfl (by kernel_rfl) (by kernel_rfl) (by kernel_rfl) (fun _ _ _ h => h) rfl (fun w' hw' => er_ixN _ _ rfl ba oa i na ca rfl rfl hi) hS ?_
              simp only [Act.put, List.setIfInBounds_toArray, List.set_cons_zero, List.set_cons_succ]
              refine d_take 12 28 rfl rfl (by kernel_rfl) (by kernel_rfl) (by kernel_rfl) (fun _ _ _ h => h) rfl (fun w' hw' => er_ldX 28 _ rfl (.pointer (some ⟨ba, oa + i * 4, none⟩)) (.agg (z.val xd xc)) rfl (LA.out w' hw')) hS ?_
              simp only [Act.put, List.setIfInBounds_toArray, List.set_cons_zero, List.set_cons_succ]
              refine d_call 13 29 (by kernel_rfl) rfl rfl rfl (er_cSame _ _ _ _ rfl (.agg (z.val zd zc)) (.agg (z.val xd xc)) rfl rfl) (CA.out _ hS) (fun w' hS => ?_)
              simp only [Act.put, List.setIfInBounds_toArray, List.set_cons_zero, List.set_cons_succ]
              refine d_take 14 30 rfl rfl (by kernel_rfl) (by kernel_rfl) (by kernel_rfl) (fun _ _ _ h => h) rfl (fun w' hw' => er_pk _ _ _ rfl true (.bool true) rfl rfl) hS ?_
              simp only [Act.put, List.setIfInBounds_toArray, List.set_cons_zero, List.set_cons_succ]
              refine d_take 15 31 rfl rfl (by kernel_rfl) (by kernel_rfl) (by kernel_rfl) (fun _ _ _ h => h) rfl (fun w' hw' => er_mv _ rfl (.bool true) rfl) hS ?_
              simp only [Act.put, List.setIfInBounds_toArray, List.set_cons_zero, List.set_cons_succ]
              refine d_take 16 32 rfl rfl (by kernel_rfl) (by kernel_rfl) (by kernel_rfl) (fun _ _ _ h => h) rfl (fun w' hw' => er_mv _ rfl (.int .i64 (k : Int)) rfl) hS ?_
              simp only [Act.put, List.setIfInBounds_toArray, List.set_cons_zero, List.set_cons_succ]
              refine d_take 17 33 rfl rfl (by kernel_rfl) (by kernel_rfl) (by kernel_rfl) (fun _ _ _ h => h) rfl (fun w' hw' => er_mv _ rfl (.slice (some ⟨bb, ob, none⟩) nb cb) rfl) hS ?_
              simp only [Act.put, List.setIfInBounds_toArray, List.set_cons_zero, List.set_cons_succ]
              refine d_take 18 34 rfl rfl (by kernel_rfl) (by kernel_rfl) (by kernel_rfl) (fun _ _ _ h => h) rfl (fun w' hw' => er_len 22 _ rfl (some ⟨bb, ob, none⟩) nb cb rfl (by kernel_rfl)) hS ?_
              simp only [Act.put, List.setIfInBounds_toArray, List.set_cons_zero, List.set_cons_succ]
              refine d_take 19 35 rfl rfl (by kernel_rfl) (by kernel_rfl) (by kernel_rfl) (fun _ _ _ h => h) rfl (fun w' hw' => er_geq _ _ rfl (k : Int) (nb : Int) false rfl rfl (decide_eq_false (by omega))) hS ?_
              simp only [Act.put, List.setIfInBounds_toArray, List.set_cons_zero, List.set_cons_succ]
              refine d_take 20 36 rfl rfl (by kernel_rfl) (by kernel_rfl) (by kernel_rfl) (fun _ _ _ h => h) rfl (fun w' hw' => er_mv _ rfl (.bool false) rfl) hS ?_
              simp only [Act.put, List.setIfInBounds_toArray, List.set_cons_zero, List.set_cons_succ]
              refine d_take 21 37 rfl rfl (by kernel_rfl) (by kernel_rfl) (by kernel_rfl) (fun _ _ _ h => h) rfl (fun w' hw' => er_mv _ rfl (.slice (some ⟨ba, oa, none⟩) na ca) rfl) hS ?_
              simp only [Act.put, List.setIfInBounds_toArray, List.set_cons_zero, List.set_cons_succ]
              refine d_take 22 38 rfl rfl (by kernel_rfl) (by kernel_rfl) (by kernel_rfl) (fun _ _ _ h => h) rfl (fun w' hw' => er_mv _ rfl (.int .i64 (i : Int)) rfl) hS ?_
              simp only [Act.put, List.setIfInBounds_toArray, List.set_cons_zero, List.set_cons_succ]
              refine d_take 23 39 rfl rfl (by kernel_rfl) (by kernel_rfl) (by kernel_rfl) (fun _ _ _ h => h) rfl (fun w' hw' => er_ixN _ _ rfl ba oa i na ca rfl rfl hi) hS ?_
              simp only [Act.put, List.setIfInBounds_toArray, List.set_cons_zero, List.set_cons_succ]
              refine d_take 24 40 rfl rfl (by kernel_rfl) (by kernel_rfl) (by kernel_rfl) (fun _ _ _ h => h) rfl (fun w' hw' => er_fT _ rfl ba (oa + i * 4) rfl) hS ?_
              simp only [Act.put, List.setIfInBounds_toArray, List.set_cons_zero, List.set_cons_succ]
              refine d_take 25 41 rfl rfl (by kernel_rfl) (by kernel_rfl) (by kernel_rfl) (fun _ _ _ h => h) rfl (fun w' hw' => er_ldi _ rfl ba (oa + i * 4) (.int .i64 z.tk) rfl (TA.out w' hw')) hS ?_
              simp only [Act.put, List.setIfInBounds_toArray, List.set_cons_zero, List.set_cons_succ]
              refine d_take 26 42 rfl rfl (by kernel_rfl) (by kernel_rfl) (by kernel_rfl) (fun _ _ _ h => h) rfl (fun w' hw' => er_mv _ rfl (.slice (some ⟨bb, ob, none⟩) nb cb) rfl) hS ?_
              simp only [Act.put, List.setIfInBounds_toArray, List.set_cons_zero, List.set_cons_succ]
              refine d_take 27 43 rfl rfl (by kernel_rfl) (by kernel_rfl) (by kernel_rfl) (fun _ _ _ h => h) rfl (fun w' hw' => er_mv _ rfl (.int .i64 (k : Int)) rfl) hS ?_
              simp only [Act.put, List.setIfInBounds_toArray, List.set_cons_zero, List.set_cons_succ]
              refine d_take 28 44 rfl rfl (by kernel_rfl) (by kernel_rfl) (by kernel_rfl) (fun _ _ _ h => h) rfl (fun w' hw' => er_ixN _ _ rfl bb ob k nb cb rfl rfl hk) hS ?_
              simp only [Act.put, List.setIfInBounds_toArray, List.set_cons_zero, List.set_cons_succ]
              refine d_take 29 45 rfl rfl (by kernel_rfl) (by kernel_rfl) (by kernel_rfl) (fun _ _ _ h => h) rfl (fun w' hw' => er_fT _ rfl bb (ob + k * 4) rfl) hS ?_
              simp only [Act.put, List.setIfInBounds_toArray, List.set_cons_zero, List.set_cons_succ]
              refine d_take 30 46 rfl rfl (by kernel_rfl) (by kernel_rfl) (by kernel_rfl) (fun _ _ _ h => h) rfl (fun w' hw' => er_ldi _ rfl bb (ob + k * 4) (.int .i64 y.tk) rfl (TB.out w' hw')) hS ?_
              simp only [Act.put, List.setIfInBounds_toArray, List.set_cons_zero, List.set_cons_succ]
              refine d_take 31 47 rfl rfl (by kernel_rfl) (by kernel_rfl) (by kernel_rfl) (fun _ _ _ h => h) rfl (fun w' hw' => er_leq _ _ rfl z.tk y.tk true rfl rfl (decide_eq_true hle)) hS ?_
              simp only [Act.put, List.setIfInBounds_toArray, List.set_cons_zero, List.set_cons_succ]
              refine d_take 32 48 rfl rfl (by kernel_rfl) (by kernel_rfl) (by kernel_rfl) (fun _ _ _ h => h) rfl (fun w' hw' => er_pk _ _ _ rfl false (.bool true) rfl rfl) hS ?_
              simp only [Act.put, List.setIfInBounds_toArray, List.set_cons_zero, List.set_cons_succ]
              refine d_take 33 49 rfl rfl (by kernel_rfl) (by kernel_rfl) (by kernel_rfl) (fun _ _ _ h => h) rfl (fun w' hw' => er_pk _ _ _ rfl true (.bool true) rfl rfl) hS ?_
              simp only [Act.put, List.setIfInBounds_toArray, List.set_cons_zero, List.set_cons_succ]
              refine wpAnyH_done (by kernel_rfl) ?_ _
              have KD := hid hS
              clear hS
              go_wp2
              go_meet
              exact ⟨rfl, KD.out⟩
            case rest =>
            rename World => w6
            obtain ⟨rfl, k6⟩ := hcut
            have K6 := hid k6
            clear k6
            go_wp2
            refine ⟨⟨i + 1, k, by omega, by omega, by go_num, rfl, by rw [← en]; go_num, ED.out, K6.out⟩, ?_⟩
            simp [intOf]; omega
          · obtain ⟨h1, h2⟩ := split_gt hd hx hy hle
            obtain rfl : z = y := by rw [h1] at hz; injection hz with hz; exact hz.symm
            have CA : Hid (∀ W, Kept No w W → Calls Tryd.prog 30 #[.agg (z.val zd zc), .agg (x.val xd xc)] W fun e w'' => e = .returned (.bool false) ∧ Kept No w w'') := fun W q => (sameIn_no W (by omega)).mono (fun r w'' h => ⟨h.1, q.trans h.2 (fun _ e => e.elim)⟩)
            have CB : Hid (∀ W, Kept No w W → Calls Tryd.prog 30 #[.agg (z.val zd zc), .agg (z.val yd yc)] W fun e w'' => e = .returned (.bool true) ∧ Kept No w w'') := fun W q => (sameIn_yes W (ir0.keep q) (ir2.keep q) rfl).mono (fun r w'' h => ⟨h.1, q.trans h.2 (fun _ e => e.elim)⟩)
            have ED : Hid ((mrg xs ys).drop (i + (k + 1)) = mrg (xs.drop i) (ys.drop (k + 1))) := by show (mrg xs ys).drop (i + (k + 1)) = _; rw [show i + (k + 1) = n + 1 by omega]; exact h2
            clear h1 h2 hd hz hx hy c0 c1 c2 ir0 ir1 ir2
            go_upto_region 6 with fail
            go_cut [49] (fun u wd => u = .bool false ∧ Kept No w wd)
            case first =>
              refine wp_region_held_drew (S := fun W => Kept No w W) (by kernel_rfl) (KR.out.drew) (fun hS => ?_)
              refine d_take 0 16 rfl rfl (by kernel_rfl) (by kernel_rfl) (by kernel_rfl) (fun _ _ _ h => h) rfl (fun w' hw' => er_mv _ rfl (.int .i64 (i : Int)) rfl) hS ?_
              simp only [Act.put, List.setIfInBounds_toArray, List.set_cons_zero, List.set_cons_succ]
              refine d_take 1 17 rfl rfl (by kernel_rfl) (by kernel_rfl) (by kernel_rfl) (fun _ _ _ h => h) rfl (fun w' hw' => er_mv _ rfl (.slice (some ⟨ba, oa, none⟩) na ca) rfl) hS ?_
              simp only [Act.put, List.setIfInBounds_toArray, List.set_cons_zero, List.set_cons_succ]
              refine d_take 2 18 rfl rfl (by kernel_rfl) (by kernel_rfl) (by kernel_rfl) (fun _ _ _ h => h) rfl (fun w' hw' => er_len 22 _ rfl (some ⟨ba, oa, none⟩) na ca rfl (by kernel_rfl)) hS ?_
              simp only [Act.put, List.setIfInBounds_toArray, List.set_cons_zero, List.set_cons_succ]
              refine d_take 3 19 rfl rfl (by kernel_rfl) (by kernel_rfl) (by kernel_rfl) (fun _ _ _ h => h) rfl (fun w' hw' => er_lssI _ _ rfl (i : Int) (na : Int) true rfl rfl (decide_eq_true (by omega))) hS ?_
              simp only [Act.put, List.setIfInBounds_toArray, List.set_cons_zero, List.set_cons_succ]
              refine d_take 4 20 rfl rfl (by kernel_rfl) (by kernel_rfl) (by kernel_rfl) (fun _ _ _ h => h) rfl (fun w' hw' => er_mv _ rfl (.bool true) rfl) hS ?_
              simp only [Act.put, List.setIfInBounds_toArray, List.set_cons_zero, List.set_cons_succ]
              refine d_take 5 21 rfl rfl (by kernel_rfl) (by kernel_rfl) (by kernel_rfl) (fun _ _ _ h => h) rfl (fun w' hw' => er_mv _ rfl (.slice (some ⟨bm, om, none⟩) nm cm) rfl) hS ?_
              simp only [Act.put, List.setIfInBounds_toArray, List.set_cons_zero, List.set_cons_succ]
              refine d_take 6 22 rfl rfl (by kernel_rfl) (by kernel_rfl) (by kernel_rfl) (fun _ _ _ h => h) rfl (fun w' hw' => er_mv _ rfl (.int .i64 (n : Int)) rfl) hS ?_
              simp only [Act.put, List.setIfInBounds_toArray, List.set_cons_zero, List.set_cons_succ]
              refine d_take 7 23 rfl rfl (by kernel_rfl) (by kernel_rfl) (by kernel_rfl) (fun _ _ _ h => h) rfl (fun w' hw' => er_ixN _ _ rfl bm om n nm cm rfl rfl hlt) hS ?_
              simp only [Act.put, List.setIfInBounds_toArray, List.set_cons_zero, List.set_cons_succ]
              refine d_take 8 24 rfl rfl (by kernel_rfl) (by kernel_rfl) (by kernel_rfl) (fun _ _ _ h => h) rfl (fun w' hw' => er_ldX 28 _ rfl (.pointer (some ⟨bm, om + n * 4, none⟩)) (.agg (z.val zd zc)) rfl (LM.out w' hw')) hS ?_
              simp only [Act.put, List.setIfInBounds_toArray, List.set_cons_zero, List.set_cons_succ]
              refine d_take 9 25 rfl rfl (by kernel_rfl) (by kernel_rfl) (by kernel_rfl) (fun _ _ _ h => h) rfl (fun w' hw' => er_mv _ rfl (.slice (some ⟨ba, oa, none⟩) na ca) rfl) hS ?_
              simp only [Act.put, List.setIfInBounds_toArray, List.set_cons_zero, List.set_cons_succ]
              refine d_take 10 26 rfl rfl (by kernel_rfl) (by kernel_rfl) (by kernel_rfl) (fun _ _ _ h => h) rfl (fun w' hw' => er_mv _ rfl (.int .i64 (i : Int)) rfl) hS ?_
              simp only [Act.put, List.setIfInBounds_toArray, List.set_cons_zero, List.set_cons_succ]
              refine d_take 11 27 rfl rfl (by kernel_rfl) (by kernel_rfl) (by kernel_rfl) (fun _ _ _ h => h) rfl (fun w' hw' => er_ixN _ _ rfl ba oa i na ca rfl rfl hi) hS ?_
              simp only [Act.put, List.setIfInBounds_toArray, List.set_cons_zero, List.set_cons_succ]
              refine d_take 12 28 rfl rfl (by kernel_rfl) (by kernel_rfl) (by kernel_rfl) (fun _ _ _ h => h) rfl (fun w' hw' => er_ldX 28 _ rfl (.pointer (some ⟨ba, oa + i * 4, none⟩)) (.agg (x.val xd xc)) rfl (LA.out w' hw')) hS ?_
              simp only [Act.put, List.setIfInBounds_toArray, List.set_cons_zero, List.set_cons_succ]
              refine d_call 13 29 (by kernel_rfl) rfl rfl rfl (er_cSame _ _ _ _ rfl (.agg (z.val zd zc)) (.agg (x.val xd xc)) rfl rfl) (CA.out _ hS) (fun w' hS => ?_)
              simp only [Act.put, List.setIfInBounds_toArray, List.set_cons_zero, List.set_cons_succ]
              refine d_take 14 30 rfl rfl (by kernel_rfl) (by kernel_rfl) (by kernel_rfl) (fun _ _ _ h => h) rfl (fun w' hw' => er_pk _ _ _ rfl true (.bool false) rfl rfl) hS ?_
              simp only [Act.put, List.setIfInBounds_toArray, List.set_cons_zero, List.set_cons_succ]
              refine d_take 15 31 rfl rfl (by kernel_rfl) (by kernel_rfl) (by kernel_rfl) (fun _ _ _ h => h) rfl (fun w' hw' => er_mv _ rfl (.bool false) rfl) hS ?_
              simp only [Act.put, List.setIfInBounds_toArray, List.set_cons_zero, List.set_cons_succ]
              refine d_skip 16 32 rfl rfl (by kernel_rfl) (by kernel_rfl) (by kernel_rfl) (fun _ _ _ h => h) rfl hS ?_
              simp only [Act.put, List.setIfInBounds_toArray, List.set_cons_zero, List.set_cons_succ]
              refine d_skip 17 33 rfl rfl (by kernel_rfl) (by kernel_rfl) (by kernel_rfl) (fun _ _ _ h => h) rfl hS ?_
              simp only [Act.put, List.setIfInBounds_toArray, List.set_cons_zero, List.set_cons_succ]
              refine d_skip 18 34 rfl rfl (by kernel_rfl) (by kernel_rfl) (by kernel_rfl) (fun _ _ _ h => h) rfl hS ?_
              simp only [Act.put, List.setIfInBounds_toArray, List.set_cons_zero, List.set_cons_succ]
              refine d_skip 19 35 rfl rfl (by kernel_rfl) (by kernel_rfl) (by kernel_rfl) (fun _ _ _ h => h) rfl hS ?_
              simp only [Act.put, List.setIfInBounds_toArray, List.set_cons_zero, List.set_cons_succ]
              refine d_skip 20 36 rfl rfl (by kernel_rfl) (by kernel_rfl) (by kernel_rfl) (fun _ _ _ h => h) rfl hS ?_
              simp only [Act.put, List.setIfInBounds_toArray, List.set_cons_zero, List.set_cons_succ]
              refine d_skip 21 37 rfl rfl (by kernel_rfl) (by kernel_rfl) (by kernel_rfl) (fun _ _ _ h => h) rfl hS ?_
              simp only [Act.put, List.setIfInBounds_toArray, List.set_cons_zero, List.set_cons_succ]
              refine d_skip 22 38 rfl rfl (by kernel_rfl) (by kernel_rfl) (by kernel_rfl) (fun _ _ _ h => h) rfl hS ?_
              simp only [Act.put, List.setIfInBounds_toArray, List.set_cons_zero, List.set_cons_succ]
              refine d_skip 23 39 rfl rfl (by kernel_rfl) (by kernel_rfl) (by kernel_rfl) (fun _ _ _ h => h) rfl hS ?_
              simp only [Act.put, List.setIfInBounds_toArray, List.set_cons_zero, List.set_cons_succ]
              refine d_skip 24 40 rfl rfl (by kernel_rfl) (by kernel_rfl) (by kernel_rfl) (fun _ _ _ h => h) rfl hS ?_
              simp only [Act.put, List.setIfInBounds_toArray, List.set_cons_zero, List.set_cons_succ]
              refine d_skip 25 41 rfl rfl (by kernel_rfl) (by kernel_rfl) (by kernel_rfl) (fun _ _ _ h => h) rfl hS ?_
              simp only [Act.put, List.setIfInBounds_toArray, List.set_cons_zero, List.set_cons_succ]
              refine d_skip 26 42 rfl rfl (by kernel_rfl) (by kernel_rfl) (by kernel_rfl) (fun _ _ _ h => h) rfl hS ?_
              simp only [Act.put, List.setIfInBounds_toArray, List.set_cons_zero, List.set_cons_succ]
              refine d_skip 27 43 rfl rfl (by kernel_rfl) (by kernel_rfl) (by kernel_rfl) (fun _ _ _ h => h) rfl hS ?_
              simp only [Act.put, List.setIfInBounds_toArray, List.set_cons_zero, List.set_cons_succ]
              refine d_skip 28 44 rfl rfl (by kernel_rfl) (by kernel_rfl) (by kernel_rfl) (fun _ _ _ h => h) rfl hS ?_
              simp only [Act.put, List.setIfInBounds_toArray, List.set_cons_zero, List.set_cons_succ]
              refine d_skip 29 45 rfl rfl (by kernel_rfl) (by kernel_rfl) (by kernel_rfl) (fun _ _ _ h => h) rfl hS ?_
              simp only [Act.put, List.setIfInBounds_toArray, List.set_cons_zero, List.set_cons_succ]
              refine d_skip 30 46 rfl rfl (by kernel_rfl) (by kernel_rfl) (by kernel_rfl) (fun _ _ _ h => h) rfl hS ?_
              simp only [Act.put, List.setIfInBounds_toArray, List.set_cons_zero, List.set_cons_succ]
              refine d_skip 31 47 rfl rfl (by kernel_rfl) (by kernel_rfl) (by kernel_rfl) (fun _ _ _ h => h) rfl hS ?_
              simp only [Act.put, List.setIfInBounds_toArray, List.set_cons_zero, List.set_cons_succ]
              refine d_skip 32 48 rfl rfl (by kernel_rfl) (by kernel_rfl) (by kernel_rfl) (fun _ _ _ h => h) rfl hS ?_
              simp only [Act.put, List.setIfInBounds_toArray, List.set_cons_zero, List.set_cons_succ]
              refine d_take 33 49 rfl rfl (by kernel_rfl) (by kernel_rfl) (by kernel_rfl) (fun _ _ _ h => h) rfl (fun w' hw' => er_pk _ _ _ rfl false (.bool false) rfl rfl) hS ?_
              simp only [Act.put, List.setIfInBounds_toArray, List.set_cons_zero, List.set_cons_succ]
              refine wpAnyH_done (by kernel_rfl) ?_ _
              have KD := hid hS
              clear hS
              go_wp2
              go_meet
              exact ⟨rfl, KD.out⟩
            case rest =>
            rename World => w6
            obtain ⟨rfl, k6⟩ := hcut
            have K6 := hid k6
            clear k6
            go_upto_region 8 with fail
            refine wp_region_held_drew (S := fun W => Kept No w W) (by kernel_rfl) (K6.out.drew) (fun hS => ?_)
            refine d_take 0 52 rfl rfl (by kernel_rfl) (by kernel_rfl) (by kernel_rfl) (fun _ _ _ h => h) rfl (fun w' hw' => er_mv _ rfl (.int .i64 (k : Int)) rfl) hS ?_
            simp only [Act.put, List.setIfInBounds_toArray, List.set_cons_zero, List.set_cons_succ]
            refine d_take 1 53 rfl rfl (by kernel_rfl) (by kernel_rfl) (by kernel_rfl) (fun _ _ _ h => h) rfl (fun w' hw' => er_mv _ rfl (.slice (some ⟨bb, ob, none⟩) nb cb) rfl) hS ?_
            simp only [Act.put, List.setIfInBounds_toArray, List.set_cons_zero, List.set_cons_succ]
            refine d_take 2 54 rfl rfl (by kernel_rfl) (by kernel_rfl) (by kernel_rfl) (fun _ _ _ h => h) rfl (fun w' hw' => er_len 22 _ rfl (some ⟨bb, ob, none⟩) nb cb rfl (by kernel_rfl)) hS ?_
            simp only [Act.put, List.setIfInBounds_toArray, List.set_cons_zero, List.set_cons_succ]
            refine d_take 3 55 rfl rfl (by kernel_rfl) (by kernel_rfl) (by kernel_rfl) (fun _ _ _ h => h) rfl (fun w' hw' => er_lssI _ _ rfl (k : Int) (nb : Int) true rfl rfl (decide_eq_true (by omega))) hS ?_
            simp only [Act.put, List.setIfInBounds_toArray, List.set_cons_zero, List.set_cons_succ]
            refine d_take 4 56 rfl rfl (by kernel_rfl) (by kernel_rfl) (by kernel_rfl) (fun _ _ _ h => h) rfl (fun w' hw' => er_mv _ rfl (.bool true) rfl) hS ?_
            simp only [Act.put, List.setIfInBounds_toArray, List.set_cons_zero, List.set_cons_succ]
            refine d_take 5 57 rfl rfl (by kernel_rfl) (by kernel_rfl) (by kernel_rfl) (fun _ _ _ h => h) rfl (fun w' hw' => er_mv _ rfl (.slice (some ⟨bm, om, none⟩) nm cm) rfl) hS ?_
            simp only [Act.put, List.setIfInBounds_toArray, List.set_cons_zero, List.set_cons_succ]
            refine d_take 6 58 rfl rfl (by kernel_rfl) (by kernel_rfl) (by kernel_rfl) (fun _ _ _ h => h) rfl (fun w' hw' => er_mv _ rfl (.int .i64 (n : Int)) rfl) hS ?_
            simp only [Act.put, List.setIfInBounds_toArray, List.set_cons_zero, List.set_cons_succ]
            refine d_take 7 59 rfl rfl (by kernel_rfl) (by kernel_rfl) (by kernel_rfl) (fun _ _ _ h => h) rfl (fun w' hw' => er_ixN _ _ rfl bm om n nm cm rfl rfl hlt) hS ?_
            simp only [Act.put, List.setIfInBounds_toArray, List.set_cons_zero, List.set_cons_succ]
            refine d_take 8 60 rfl rfl (by kernel_rfl) (by kernel_rfl) (by kernel_rfl) (fun _ _ _ h => h) rfl (fun w' hw' => er_ldX 28 _ rfl (.pointer (some ⟨bm, om + n * 4, none⟩)) (.agg (z.val zd zc)) rfl (LM.out w' hw')) hS ?_
            simp only [Act.put, List.setIfInBounds_toArray, List.set_cons_zero, List.set_cons_succ]
            refine d_take 9 61 rfl rfl (by kernel_rfl) (by kernel_rfl) (by kernel_rfl) (fun _ _ _ h => h) rfl (fun w' hw' => er_mv _ rfl (.slice (some ⟨bb, ob, none⟩) nb cb) rfl) hS ?_
            simp only [Act.put, List.setIfInBounds_toArray, List.set_cons_zero, List.set_cons_succ]
            refine d_take 10 62 rfl rfl (by kernel_rfl) (by kernel_rfl) (by kernel_rfl) (fun _ _ _ h => h) rfl (fun w' hw' => er_mv _ rfl (.int .i64 (k : Int)) rfl) hS ?_
            simp only [Act.put, List.setIfInBounds_toArray, List.set_cons_zero, List.set_cons_succ]
            refine d_take 11 63 rfl rfl (by kernel_rfl) (by kernel_rfl) (by kernel_rfl) (fun _ _ _ h => h) rfl (fun w' hw' => er_ixN _ _ rfl bb ob k nb cb rfl rfl hk) hS ?_
            simp only [Act.put, List.setIfInBounds_toArray, List.set_cons_zero, List.set_cons_succ]
            refine d_take 12 64 rfl rfl (by kernel_rfl) (by kernel_rfl) (by kernel_rfl) (fun _ _ _ h => h) rfl (fun w' hw' => er_ldX 28 _ rfl (.pointer (some ⟨bb, ob + k * 4, none⟩)) (.agg (z.val yd yc)) rfl (LB.out w' hw')) hS ?_
            simp only [Act.put, List.setIfInBounds_toArray, List.set_cons_zero, List.set_cons_succ]
            refine d_call 13 65 (by kernel_rfl) rfl rfl rfl (er_cSame _ _ _ _ rfl (.agg (z.val zd zc)) (.agg (z.val yd yc)) rfl rfl) (CB.out _ hS) (fun w' hS => ?_)
            simp only [Act.put, List.setIfInBounds_toArray, List.set_cons_zero, List.set_cons_succ]
            refine d_take 14 66 rfl rfl (by kernel_rfl) (by kernel_rfl) (by kernel_rfl) (fun _ _ _ h => h) rfl (fun w' hw' => er_pk _ _ _ rfl true (.bool true) rfl rfl) hS ?_
            simp only [Act.put, List.setIfInBounds_toArray, List.set_cons_zero, List.set_cons_succ]
            refine wpAnyH_done (by kernel_rfl) ?_ _
            have KD := hid hS
            clear hS
            go_wp2
            refine ⟨⟨i, k + 1, by omega, by omega, rfl, by go_num, by rw [← en]; go_num, ED.out, KD.out⟩, ?_⟩
            simp [intOf]; omega
        · have hkn : nb ≤ k := by omega
          obtain ⟨ba, oa, xd, xc, rfl, _, c1, ir1⟩ := HH.out.2.1.at' i x hx
          have LA : Hid (∀ W, Kept No w W → (Instr.loadAt 28 (.pointer (some ⟨ba, oa + i * 4, none⟩))).run Tryd.prog W = .ok (.agg (x.val xd xc)) W) := fun W q => ldI (fun j v hv => q.cell (c1 j v hv) (fun e => e))
          have TA : Hid (∀ W, Kept No w W → W.cell? ⟨ba, oa + i * 4, none⟩ = some (.int .i64 x.tk)) := fun W q => q.cell (c1 0 _ rfl) (fun e => e)
          obtain ⟨h1, h2⟩ := split_a hd hx (by omega)
          obtain rfl : z = x := by rw [h1] at hz; injection hz with hz; exact hz.symm
          have CA : Hid (∀ W, Kept No w W → Calls Tryd.prog 30 #[.agg (z.val zd zc), .agg (z.val xd xc)] W fun e w'' => e = .returned (.bool true) ∧ Kept No w w'') := fun W q => (sameIn_yes W (ir0.keep q) (ir1.keep q) rfl).mono (fun r w'' h => ⟨h.1, q.trans h.2 (fun _ e => e.elim)⟩)
          have ED : Hid ((mrg xs ys).drop (i + 1 + k) = mrg (xs.drop (i + 1)) (ys.drop k)) := by show (mrg xs ys).drop (i + 1 + k) = _; rw [show i + 1 + k = n + 1 by omega]; exact h2
          clear h1 h2 hd hz hx c0 c1 ir0 ir1
          go_upto_region 6 with fail
          go_cut [49] (fun u wd => u = .bool true ∧ Kept No w wd)
          case first =>
            refine wp_region_held_drew (S := fun W => Kept No w W) (by kernel_rfl) (KR.out.drew) (fun hS => ?_)
            refine d_take 0 16 rfl rfl (by kernel_rfl) (by kernel_rfl) (by kernel_rfl) (fun _ _ _ h => h) rfl (fun w' hw' => er_mv _ rfl (.int .i64 (i : Int)) rfl) hS ?_
            simp only [Act.put, List.setIfInBounds_toArray, List.set_cons_zero, List.set_cons_succ]
            refine d_take 1 17 rfl rfl (by kernel_rfl) (by kernel_rfl) (by kernel_rfl) (fun _ _ _ h => h) rfl (fun w' hw' => er_mv _ rfl (.slice (some ⟨ba, oa, none⟩) na ca) rfl) hS ?_
            simp only [Act.put, List.setIfInBounds_toArray, List.set_cons_zero, List.set_cons_succ]
            refine d_take 2 18 rfl rfl (by kernel_rfl) (by kernel_rfl) (by kernel_rfl) (fun _ _ _ h => h) rfl (fun w' hw' => er_len 22 _ rfl (some ⟨ba, oa, none⟩) na ca rfl (by kernel_rfl)) hS ?_
            simp only [Act.put, List.setIfInBounds_toArray, List.set_cons_zero, List.set_cons_succ]
            refine d_take 3 19 rfl rfl (by kernel_rfl) (by kernel_rfl) (by kernel_rfl) (fun _ _ _ h => h) rfl (fun w' hw' => er_lssI _ _ rfl (i : Int) (na : Int) true rfl rfl (decide_eq_true (by omega))) hS ?_
            simp only [Act.put, List.setIfInBounds_toArray, List.set_cons_zero, List.set_cons_succ]
            refine d_take 4 20 rfl rfl (by kernel_rfl) (by kernel_rfl) (by kernel_rfl) (fun _ _ _ h => h) rfl (fun w' hw' => er_mv _ rfl (.bool true) rfl) hS ?_
            simp only [Act.put, List.setIfInBounds_toArray, List.set_cons_zero, List.set_cons_succ]
            refine d_take 5 21 rfl rfl (by kernel_rfl) (by kernel_rfl) (by kernel_rfl) (fun _ _ _ h => h) rfl (fun w' hw' => er_mv _ rfl (.slice (some ⟨bm, om, none⟩) nm cm) rfl) hS ?_
            simp only [Act.put, List.setIfInBounds_toArray, List.set_cons_zero, List.set_cons_succ]
            refine d_take 6 22 rfl rfl (by kernel_rfl) (by kernel_rfl) (by kernel_rfl) (fun _ _ _ h => h) rfl (fun w' hw' => er_mv _ rfl (.int .i64 (n : Int)) rfl) hS ?_
            simp only [Act.put, List.setIfInBounds_toArray, List.set_cons_zero, List.set_cons_succ]
            refine d_take 7 23 rfl rfl (by kernel_rfl) (by kernel_rfl) (by kernel_rfl) (fun _ _ _ h => h) rfl (fun w' hw' => er_ixN _ _ rfl bm om n nm cm rfl rfl hlt) hS ?_
            simp only [Act.put, List.setIfInBounds_toArray, List.set_cons_zero, List.set_cons_succ]
            refine d_take 8 24 rfl rfl (by kernel_rfl) (by kernel_rfl) (by kernel_rfl) (fun _ _ _ h => h) rfl (fun w' hw' => er_ldX 28 _ rfl (.pointer (some ⟨bm, om + n * 4, none⟩)) (.agg (z.val zd zc)) rfl (LM.out w' hw')) hS ?_
            simp only [Act.put, List.setIfInBounds_toArray, List.set_cons_zero, List.set_cons_succ]
            refine d_take 9 25 rfl rfl (by kernel_rfl) (by kernel_rfl) (by kernel_rfl) (fun _ _ _ h => h) rfl (fun w' hw' => er_mv _ rfl (.slice (some ⟨ba, oa, none⟩) na ca) rfl) hS ?_
            simp only [Act.put, List.setIfInBounds_toArray, List.set_cons_zero, List.set_cons_succ]
            refine d_take 10 26 rfl rfl (by kernel_rfl) (by kernel_rfl) (by kernel_rfl) (fun _ _ _ h => h) rfl (fun w' hw' => er_mv _ rfl (.int .i64 (i : Int)) rfl) hS ?_
            simp only [Act.put, List.setIfInBounds_toArray, List.set_cons_zero, List.set_cons_succ]
            refine d_take 11 27 rfl rfl (by kernel_rfl) (by kernel_rfl) (by kernel_rfl) (fun _ _ _ h => h) rfl (fun w' hw' => er_ixN _ _ rfl ba oa i na ca rfl rfl hi) hS ?_
            simp only [Act.put, List.setIfInBounds_toArray, List.set_cons_zero, List.set_cons_succ]
            refine d_take 12 28 rfl rfl (by kernel_rfl) (by kernel_rfl) (by kernel_rfl) (fun _ _ _ h => h) rfl (fun w' hw' => er_ldX 28 _ rfl (.pointer (some ⟨ba, oa + i * 4, none⟩)) (.agg (z.val xd xc)) rfl (LA.out w' hw')) hS ?_
            simp only [Act.put, List.setIfInBounds_toArray, List.set_cons_zero, List.set_cons_succ]
            refine d_call 13 29 (by kernel_rfl) rfl rfl rfl (er_cSame _ _ _ _ rfl (.agg (z.val zd zc)) (.agg (z.val xd xc)) rfl rfl) (CA.out _ hS) (fun w' hS => ?_)
            simp only [Act.put, List.setIfInBounds_toArray, List.set_cons_zero, List.set_cons_succ]
            refine d_take 14 30 rfl rfl (by kernel_rfl) (by kernel_rfl) (by kernel_rfl) (fun _ _ _ h => h) rfl (fun w' hw' => er_pk _ _ _ rfl true (.bool true) rfl rfl) hS ?_
            simp only [Act.put, List.setIfInBounds_toArray, List.set_cons_zero, List.set_cons_succ]
            refine d_take 15 31 rfl rfl (by kernel_rfl) (by kernel_rfl) (by kernel_rfl) (fun _ _ _ h => h) rfl (fun w' hw' => er_mv _ rfl (.bool true) rfl) hS ?_
            simp only [Act.put, List.setIfInBounds_toArray, List.set_cons_zero, List.set_cons_succ]
            refine d_take 16 32 rfl rfl (by kernel_rfl) (by kernel_rfl) (by kernel_rfl) (fun _ _ _ h => h) rfl (fun w' hw' => er_mv _ rfl (.int .i64 (k : Int)) rfl) hS ?_
            simp only [Act.put, List.setIfInBounds_toArray, List.set_cons_zero, List.set_cons_succ]
            refine d_take 17 33 rfl rfl (by kernel_rfl) (by kernel_rfl) (by kernel_rfl) (fun _ _ _ h => h) rfl (fun w' hw' => er_mv _ rfl (.slice ab nb cb) rfl) hS ?_
            simp only [Act.put, List.setIfInBounds_toArray, List.set_cons_zero, List.set_cons_succ]
            refine d_take 18 34 rfl rfl (by kernel_rfl) (by kernel_rfl) (by kernel_rfl) (fun _ _ _ h => h) rfl (fun w' hw' => er_len 22 _ rfl ab nb cb rfl (by kernel_rfl)) hS ?_
            simp only [Act.put, List.setIfInBounds_toArray, List.set_cons_zero, List.set_cons_succ]
            refine d_take 19 35 rfl rfl (by kernel_rfl) (by kernel_rfl) (by kernel_rfl) (fun _ _ _ h => h) rfl (fun w' hw' => er_geq _ _ rfl (k : Int) (nb : Int) true rfl rfl (decide_eq_true (by omega))) hS ?_
            simp only [Act.put, List.setIfInBounds_toArray, List.set_cons_zero, List.set_cons_succ]
            refine d_take 20 36 rfl rfl (by kernel_rfl) (by kernel_rfl) (by kernel_rfl) (fun _ _ _ h => h) rfl (fun w' hw' => er_mv _ rfl (.bool true) rfl) hS ?_
            simp only [Act.put, List.setIfInBounds_toArray, List.set_cons_zero, List.set_cons_succ]
            refine d_skip 21 37 rfl rfl (by kernel_rfl) (by kernel_rfl) (by kernel_rfl) (fun _ _ _ h => h) rfl hS ?_
            simp only [Act.put, List.setIfInBounds_toArray, List.set_cons_zero, List.set_cons_succ]
            refine d_skip 22 38 rfl rfl (by kernel_rfl) (by kernel_rfl) (by kernel_rfl) (fun _ _ _ h => h) rfl hS ?_
            simp only [Act.put, List.setIfInBounds_toArray, List.set_cons_zero, List.set_cons_succ]
            refine d_skip 23 39 rfl rfl (by kernel_rfl) (by kernel_rfl) (by kernel_rfl) (fun _ _ _ h => h) rfl hS ?_
            simp only [Act.put, List.setIfInBounds_toArray, List.set_cons_zero, List.set_cons_succ]
            refine d_skip 24 40 rfl rfl (by kernel_rfl) (by kernel_rfl) (by kernel_rfl) (fun _ _ _ h => h) rfl hS ?_
            simp only [Act.put, List.setIfInBounds_toArray, List.set_cons_zero, List.set_cons_succ]
            refine d_skip 25 41 rfl rfl (by kernel_rfl) (by kernel_rfl) (by kernel_rfl) (fun _ _ _ h => h) rfl hS ?_
            simp only [Act.put, List.setIfInBounds_toArray, List.set_cons_zero, List.set_cons_succ]
            refine d_skip 26 42 rfl rfl (by kernel_rfl) (by kernel_rfl) (by kernel_rfl) (fun _ _ _ h => h) rfl hS ?_
            simp only [Act.put, List.setIfInBounds_toArray, List.set_cons_zero, List.set_cons_succ]
            refine d_skip 27 43 rfl rfl (by kernel_rfl) (by kernel_rfl) (by kernel_rfl) (fun _ _ _ h => h) rfl hS ?_
            simp only [Act.put, List.setIfInBounds_toArray, List.set_cons_zero, List.set_cons_succ]
            refine d_skip 28 44 rfl rfl (by kernel_rfl) (by kernel_rfl) (by kernel_rfl) (fun _ _ _ h => h) rfl hS ?_
            simp only [Act.put, List.setIfInBounds_toArray, List.set_cons_zero, List.set_cons_succ]
            refine d_skip 29 45 rfl rfl (by kernel_rfl) (by kernel_rfl) (by kernel_rfl) (fun _ _ _ h => h) rfl hS ?_
            simp only [Act.put, List.setIfInBounds_toArray, List.set_cons_zero, List.set_cons_succ]
            refine d_skip 30 46 rfl rfl (by kernel_rfl) (by kernel_rfl) (by kernel_rfl) (fun _ _ _ h => h) rfl hS ?_
            simp only [Act.put, List.setIfInBounds_toArray, List.set_cons_zero, List.set_cons_succ]
            refine d_skip 31 47 rfl rfl (by kernel_rfl) (by kernel_rfl) (by kernel_rfl) (fun _ _ _ h => h) rfl hS ?_
            simp only [Act.put, List.setIfInBounds_toArray, List.set_cons_zero, List.set_cons_succ]
            refine d_take 32 48 rfl rfl (by kernel_rfl) (by kernel_rfl) (by kernel_rfl) (fun _ _ _ h => h) rfl (fun w' hw' => er_pk _ _ _ rfl true (.bool true) rfl rfl) hS ?_
            simp only [Act.put, List.setIfInBounds_toArray, List.set_cons_zero, List.set_cons_succ]
            refine d_take 33 49 rfl rfl (by kernel_rfl) (by kernel_rfl) (by kernel_rfl) (fun _ _ _ h => h) rfl (fun w' hw' => er_pk _ _ _ rfl true (.bool true) rfl rfl) hS ?_
            simp only [Act.put, List.setIfInBounds_toArray, List.set_cons_zero, List.set_cons_succ]
            refine wpAnyH_done (by kernel_rfl) ?_ _
            have KD := hid hS
            clear hS
            go_wp2
            go_meet
            exact ⟨rfl, KD.out⟩
          case rest =>
          rename World => w6
          obtain ⟨rfl, k6⟩ := hcut
          have K6 := hid k6
          clear k6
          go_wp2
          refine ⟨⟨i + 1, k, by omega, by omega, by go_num, rfl, by rw [← en]; go_num, ED.out, K6.out⟩, ?_⟩
          simp [intOf]; omega
      · have hin : na ≤ i := by omega
        have hk : k < nb := by have l0 := L0.out; omega
        obtain ⟨y, hy⟩ : ∃ y, ys[k]? = some y := ⟨_, List.getElem?_eq_getElem (by omega)⟩
        obtain ⟨bb, ob, yd, yc, rfl, _, c2, ir2⟩ := HH.out.2.2.at' k y hy
        have LB : Hid (∀ W, Kept No w W → (Instr.loadAt 28 (.pointer (some ⟨bb, ob + k * 4, none⟩))).run Tryd.prog W = .ok (.agg (y.val yd yc)) W) := fun W q => ldI (fun j v hv => q.cell (c2 j v hv) (fun e => e))
        have TB : Hid (∀ W, Kept No w W → W.cell? ⟨bb, ob + k * 4, none⟩ = some (.int .i64 y.tk)) := fun W q => q.cell (c2 0 _ rfl) (fun e => e)
        obtain ⟨h1, h2⟩ := split_b hd (by omega) hy
        obtain rfl : z = y := by rw [h1] at hz; injection hz with hz; exact hz.symm
        have CB : Hid (∀ W, Kept No w W → Calls Tryd.prog 30 #[.agg (z.val zd zc), .agg (z.val yd yc)] W fun e w'' => e = .returned (.bool true) ∧ Kept No w w'') := fun W q => (sameIn_yes W (ir0.keep q) (ir2.keep q) rfl).mono (fun r w'' h => ⟨h.1, q.trans h.2 (fun _ e => e.elim)⟩)
        have ED : Hid ((mrg xs ys).drop (i + (k + 1)) = mrg (xs.drop i) (ys.drop (k + 1))) := by show (mrg xs ys).drop (i + (k + 1)) = _; rw [show i + (k + 1) = n + 1 by omega]; exact h2
        clear h1 h2 hd hz hy c0 c2 ir0 ir2
        go_upto_region 6 with fail
        go_cut [49] (fun u wd => u = .bool false ∧ Kept No w wd)
        case first =>
          refine wp_region_held_drew (S := fun W => Kept No w W) (by kernel_rfl) (KR.out.drew) (fun hS => ?_)
          refine d_take 0 16 rfl rfl (by kernel_rfl) (by kernel_rfl) (by kernel_rfl) (fun _ _ _ h => h) rfl (fun w' hw' => er_mv _ rfl (.int .i64 (i : Int)) rfl) hS ?_
          simp only [Act.put, List.setIfInBounds_toArray, List.set_cons_zero, List.set_cons_succ]
          refine d_take 1 17 rfl rfl (by kernel_rfl) (by kernel_rfl) (by kernel_rfl) (fun _ _ _ h => h) rfl (fun w' hw' => er_mv _ rfl (.slice aa na ca) rfl) hS ?_
          simp only [Act.put, List.setIfInBounds_toArray, List.set_cons_zero, List.set_cons_succ]
          refine d_take 2 18 rfl rfl (by kernel_rfl) (by kernel_rfl) (by kernel_rfl) (fun _ _ _ h => h) rfl (fun w' hw' => er_len 22 _ rfl aa na ca rfl (by kernel_rfl)) hS ?_
          simp only [Act.put, List.setIfInBounds_toArray, List.set_cons_zero, List.set_cons_succ]
          refine d_take 3 19 rfl rfl (by kernel_rfl) (by kernel_rfl) (by kernel_rfl) (fun _ _ _ h => h) rfl (fun w' hw' => er_lssI _ _ rfl (i : Int) (na : Int) false rfl rfl (decide_eq_false (by omega))) hS ?_
          simp only [Act.put, List.setIfInBounds_toArray, List.set_cons_zero, List.set_cons_succ]
          refine d_take 4 20 rfl rfl (by kernel_rfl) (by kernel_rfl) (by kernel_rfl) (fun _ _ _ h => h) rfl (fun w' hw' => er_mv _ rfl (.bool false) rfl) hS ?_
          simp only [Act.put, List.setIfInBounds_toArray, List.set_cons_zero, List.set_cons_succ]
          refine d_skip 5 21 rfl rfl (by kernel_rfl) (by kernel_rfl) (by kernel_rfl) (fun _ _ _ h => h) rfl hS ?_
          simp only [Act.put, List.setIfInBounds_toArray, List.set_cons_zero, List.set_cons_succ]
          refine d_skip 6 22 rfl rfl (by kernel_rfl) (by kernel_rfl) (by kernel_rfl) (fun _ _ _ h => h) rfl hS ?_
          simp only [Act.put, List.setIfInBounds_toArray, List.set_cons_zero, List.set_cons_succ]
          refine d_skip 7 23 rfl rfl (by kernel_rfl) (by kernel_rfl) (by kernel_rfl) (fun _ _ _ h => h) rfl hS ?_
          simp only [Act.put, List.setIfInBounds_toArray, List.set_cons_zero, List.set_cons_succ]
          refine d_skip 8 24 rfl rfl (by kernel_rfl) (by kernel_rfl) (by kernel_rfl) (fun _ _ _ h => h) rfl hS ?_
          simp only [Act.put, List.setIfInBounds_toArray, List.set_cons_zero, List.set_cons_succ]
          refine d_skip 9 25 rfl rfl (by kernel_rfl) (by kernel_rfl) (by kernel_rfl) (fun _ _ _ h => h) rfl hS ?_
          simp only [Act.put, List.setIfInBounds_toArray, List.set_cons_zero, List.set_cons_succ]
          refine d_skip 10 26 rfl rfl (by kernel_rfl) (by kernel_rfl) (by kernel_rfl) (fun _ _ _ h => h) rfl hS ?_
          simp only [Act.put, List.setIfInBounds_toArray, List.set_cons_zero, List.set_cons_succ]
          refine d_skip 11 27 rfl rfl (by kernel_rfl) (by kernel_rfl) (by kernel_rfl) (fun _ _ _ h => h) rfl hS ?_
          simp only [Act.put, List.setIfInBounds_toArray, List.set_cons_zero, List.set_cons_succ]
          refine d_skip 12 28 rfl rfl (by kernel_rfl) (by kernel_rfl) (by kernel_rfl) (fun _ _ _ h => h) rfl hS ?_
          simp only [Act.put, List.setIfInBounds_toArray, List.set_cons_zero, List.set_cons_succ]
          refine d_skip 13 29 rfl rfl (by kernel_rfl) (by kernel_rfl) (by kernel_rfl) (fun _ _ _ h => h) rfl hS ?_
          simp only [Act.put, List.setIfInBounds_toArray, List.set_cons_zero, List.set_cons_succ]
          refine d_take 14 30 rfl rfl (by kernel_rfl) (by kernel_rfl) (by kernel_rfl) (fun _ _ _ h => h) rfl (fun w' hw' => er_pk _ _ _ rfl false (.bool false) rfl rfl) hS ?_
          simp only [Act.put, List.setIfInBounds_toArray, List.set_cons_zero, List.set_cons_succ]
          refine d_take 15 31 rfl rfl (by kernel_rfl) (by kernel_rfl) (by kernel_rfl) (fun _ _ _ h => h) rfl (fun w' hw' => er_mv _ rfl (.bool false) rfl) hS ?_
          simp only [Act.put, List.setIfInBounds_toArray, List.set_cons_zero, List.set_cons_succ]
          refine d_skip 16 32 rfl rfl (by kernel_rfl) (by kernel_rfl) (by kernel_rfl) (fun _ _ _ h => h) rfl hS ?_
          simp only [Act.put, List.setIfInBounds_toArray, List.set_cons_zero, List.set_cons_succ]
          refine d_skip 17 33 rfl rfl (by kernel_rfl) (by kernel_rfl) (by kernel_rfl) (fun _ _ _ h => h) rfl hS ?_
          simp only [Act.put, List.setIfInBounds_toArray, List.set_cons_zero, List.set_cons_succ]
          refine d_skip 18 34 rfl rfl (by kernel_rfl) (by kernel_rfl) (by kernel_rfl) (fun _ _ _ h => h) rfl hS ?_
          simp only [Act.put, List.setIfInBounds_toArray, List.set_cons_zero, List.set_cons_succ]
          refine d_skip 19 35 rfl rfl (by kernel_rfl) (by kernel_rfl) (by kernel_rfl) (fun _ _ _ h => h) rfl hS ?_
          simp only [Act.put, List.setIfInBounds_toArray, List.set_cons_zero, List.set_cons_succ]
          refine d_skip 20 36 rfl rfl (by kernel_rfl) (by kernel_rfl) (by kernel_rfl) (fun _ _ _ h => h) rfl hS ?_
          simp only [Act.put, List.setIfInBounds_toArray, List.set_cons_zero, List.set_cons_succ]
          refine d_skip 21 37 rfl rfl (by kernel_rfl) (by kernel_rfl) (by kernel_rfl) (fun _ _ _ h => h) rfl hS ?_
          simp only [Act.put, List.setIfInBounds_toArray, List.set_cons_zero, List.set_cons_succ]
          refine d_skip 22 38 rfl rfl (by kernel_rfl) (by kernel_rfl) (by kernel_rfl) (fun _ _ _ h => h) rfl hS ?_
          simp only [Act.put, List.setIfInBounds_toArray, List.set_cons_zero, List.set_cons_succ]
          refine d_skip 23 39 rfl rfl (by kernel_rfl) (by kernel_rfl) (by kernel_rfl) (fun _ _ _ h => h) rfl hS ?_
          simp only [Act.put, List.setIfInBounds_toArray, List.set_cons_zero, List.set_cons_succ]
          refine d_skip 24 40 rfl rfl (by kernel_rfl) (by kernel_rfl) (by kernel_rfl) (fun _ _ _ h => h) rfl hS ?_
          simp only [Act.put, List.setIfInBounds_toArray, List.set_cons_zero, List.set_cons_succ]
          refine d_skip 25 41 rfl rfl (by kernel_rfl) (by kernel_rfl) (by kernel_rfl) (fun _ _ _ h => h) rfl hS ?_
          simp only [Act.put, List.setIfInBounds_toArray, List.set_cons_zero, List.set_cons_succ]
          refine d_skip 26 42 rfl rfl (by kernel_rfl) (by kernel_rfl) (by kernel_rfl) (fun _ _ _ h => h) rfl hS ?_
          simp only [Act.put, List.setIfInBounds_toArray, List.set_cons_zero, List.set_cons_succ]
          refine d_skip 27 43 rfl rfl (by kernel_rfl) (by kernel_rfl) (by kernel_rfl) (fun _ _ _ h => h) rfl hS ?_
          simp only [Act.put, List.setIfInBounds_toArray, List.set_cons_zero, List.set_cons_succ]
          refine d_skip 28 44 rfl rfl (by kernel_rfl) (by kernel_rfl) (by kernel_rfl) (fun _ _ _ h => h) rfl hS ?_
          simp only [Act.put, List.setIfInBounds_toArray, List.set_cons_zero, List.set_cons_succ]
          refine d_skip 29 45 rfl rfl (by kernel_rfl) (by kernel_rfl) (by kernel_rfl) (fun _ _ _ h => h) rfl hS ?_
          simp only [Act.put, List.setIfInBounds_toArray, List.set_cons_zero, List.set_cons_succ]
          refine d_skip 30 46 rfl rfl (by kernel_rfl) (by kernel_rfl) (by kernel_rfl) (fun _ _ _ h => h) rfl hS ?_
          simp only [Act.put, List.setIfInBounds_toArray, List.set_cons_zero, List.set_cons_succ]
          refine d_skip 31 47 rfl rfl (by kernel_rfl) (by kernel_rfl) (by kernel_rfl) (fun _ _ _ h => h) rfl hS ?_
          simp only [Act.put, List.setIfInBounds_toArray, List.set_cons_zero, List.set_cons_succ]
          refine d_skip 32 48 rfl rfl (by kernel_rfl) (by kernel_rfl) (by kernel_rfl) (fun _ _ _ h => h) rfl hS ?_
          simp only [Act.put, List.setIfInBounds_toArray, List.set_cons_zero, List.set_cons_succ]
          refine d_take 33 49 rfl rfl (by kernel_rfl) (by kernel_rfl) (by kernel_rfl) (fun _ _ _ h => h) rfl (fun w' hw' => er_pk _ _ _ rfl false (.bool false) rfl rfl) hS ?_
          simp only [Act.put, List.setIfInBounds_toArray, List.set_cons_zero, List.set_cons_succ]
          refine wpAnyH_done (by kernel_rfl) ?_ _
          have KD := hid hS
          clear hS
          go_wp2
          go_meet
          exact ⟨rfl, KD.out⟩
        case rest =>
        rename World => w6
        obtain ⟨rfl, k6⟩ := hcut
        have K6 := hid k6
        clear k6
        go_upto_region 8 with fail
        refine wp_region_held_drew (S := fun W => Kept No w W) (by kernel_rfl) (K6.out.drew) (fun hS => ?_)
        refine d_take 0 52 rfl rfl (by kernel_rfl) (by kernel_rfl) (by kernel_rfl) (fun _ _ _ h => h) rfl (fun w' hw' => er_mv _ rfl (.int .i64 (k : Int)) rfl) hS ?_
        simp only [Act.put, List.setIfInBounds_toArray, List.set_cons_zero, List.set_cons_succ]
        refine d_take 1 53 rfl rfl (by kernel_rfl) (by kernel_rfl) (by kernel_rfl) (fun _ _ _ h => h) rfl (fun w' hw' => er_mv _ rfl (.slice (some ⟨bb, ob, none⟩) nb cb) rfl) hS ?_
        simp only [Act.put, List.setIfInBounds_toArray, List.set_cons_zero, List.set_cons_succ]
        refine d_take 2 54 rfl rfl (by kernel_rfl) (by kernel_rfl) (by kernel_rfl) (fun _ _ _ h => h) rfl (fun w' hw' => er_len 22 _ rfl (some ⟨bb, ob, none⟩) nb cb rfl (by kernel_rfl)) hS ?_
        simp only [Act.put, List.setIfInBounds_toArray, List.set_cons_zero, List.set_cons_succ]
        refine d_take 3 55 rfl rfl (by kernel_rfl) (by kernel_rfl) (by kernel_rfl) (fun _ _ _ h => h) rfl (fun w' hw' => er_lssI _ _ rfl (k : Int) (nb : Int) true rfl rfl (decide_eq_true (by omega))) hS ?_
        simp only [Act.put, List.setIfInBounds_toArray, List.set_cons_zero, List.set_cons_succ]
        refine d_take 4 56 rfl rfl (by kernel_rfl) (by kernel_rfl) (by kernel_rfl) (fun _ _ _ h => h) rfl (fun w' hw' => er_mv _ rfl (.bool true) rfl) hS ?_
        simp only [Act.put, List.setIfInBounds_toArray, List.set_cons_zero, List.set_cons_succ]
        refine d_take 5 57 rfl rfl (by kernel_rfl) (by kernel_rfl) (by kernel_rfl) (fun _ _ _ h => h) rfl (fun w' hw' => er_mv _ rfl (.slice (some ⟨bm, om, none⟩) nm cm) rfl) hS ?_
        simp only [Act.put, List.setIfInBounds_toArray, List.set_cons_zero, List.set_cons_succ]
        refine d_take 6 58 rfl rfl (by kernel_rfl) (by kernel_rfl) (by kernel_rfl) (fun _ _ _ h => h) rfl (fun w' hw' => er_mv _ rfl (.int .i64 (n : Int)) rfl) hS ?_
        simp only [Act.put, List.setIfInBounds_toArray, List.set_cons_zero, List.set_cons_succ]
        refine d_take 7 59 rfl rfl (by kernel_rfl) (by kernel_rfl) (by kernel_rfl) (fun _ _ _ h => h) rfl (fun w' hw' => er_ixN _ _ rfl bm om n nm cm rfl rfl hlt) hS ?_
        simp only [Act.put, List.setIfInBounds_toArray, List.set_cons_zero, List.set_cons_succ]
        refine d_take 8 60 rfl rfl (by kernel_rfl) (by kernel_rfl) (by kernel_rfl) (fun _ _ _ h => h) rfl (fun w' hw' => er_ldX 28 _ rfl (.pointer (some ⟨bm, om + n * 4, none⟩)) (.agg (z.val zd zc)) rfl (LM.out w' hw')) hS ?_
        simp only [Act.put, List.setIfInBounds_toArray, List.set_cons_zero, List.set_cons_succ]
        refine d_take 9 61 rfl rfl (by kernel_rfl) (by kernel_rfl) (by kernel_rfl) (fun _ _ _ h => h) rfl (fun w' hw' => er_mv _ rfl (.slice (some ⟨bb, ob, none⟩) nb cb) rfl) hS ?_
        simp only [Act.put, List.setIfInBounds_toArray, List.set_cons_zero, List.set_cons_succ]
        refine d_take 10 62 rfl rfl (by kernel_rfl) (by kernel_rfl) (by kernel_rfl) (fun _ _ _ h => h) rfl (fun w' hw' => er_mv _ rfl (.int .i64 (k : Int)) rfl) hS ?_
        simp only [Act.put, List.setIfInBounds_toArray, List.set_cons_zero, List.set_cons_succ]
        refine d_take 11 63 rfl rfl (by kernel_rfl) (by kernel_rfl) (by kernel_rfl) (fun _ _ _ h => h) rfl (fun w' hw' => er_ixN _ _ rfl bb ob k nb cb rfl rfl hk) hS ?_
        simp only [Act.put, List.setIfInBounds_toArray, List.set_cons_zero, List.set_cons_succ]
        refine d_take 12 64 rfl rfl (by kernel_rfl) (by kernel_rfl) (by kernel_rfl) (fun _ _ _ h => h) rfl (fun w' hw' => er_ldX 28 _ rfl (.pointer (some ⟨bb, ob + k * 4, none⟩)) (.agg (z.val yd yc)) rfl (LB.out w' hw')) hS ?_
        simp only [Act.put, List.setIfInBounds_toArray, List.set_cons_zero, List.set_cons_succ]
        refine d_call 13 65 (by kernel_rfl) rfl rfl rfl (er_cSame _ _ _ _ rfl (.agg (z.val zd zc)) (.agg (z.val yd yc)) rfl rfl) (CB.out _ hS) (fun w' hS => ?_)
        simp only [Act.put, List.setIfInBounds_toArray, List.set_cons_zero, List.set_cons_succ]
        refine d_take 14 66 rfl rfl (by kernel_rfl) (by kernel_rfl) (by kernel_rfl) (fun _ _ _ h => h) rfl (fun w' hw' => er_pk _ _ _ rfl true (.bool true) rfl rfl) hS ?_
        simp only [Act.put, List.setIfInBounds_toArray, List.set_cons_zero, List.set_cons_succ]
        refine wpAnyH_done (by kernel_rfl) ?_ _
        have KD := hid hS
        clear hS
        go_wp2
        refine ⟨⟨i, k + 1, by omega, by omega, rfl, by go_num, by rw [← en]; go_num, ED.out, KD.out⟩, ?_⟩
        simp [intOf]; omega
    · have hltz : ¬ (n : Int) < (nm : Int) := by omega
      obtain rfl : i = na := by have l0 := L0.out; omega
      obtain rfl : k = nb := by have l0 := L0.out; omega
      go_wp2
      go_ret
      exact ⟨rfl, KR.out⟩
end Go.Proofs.YtfdcmhbpnadcpaaDoor
