/-
  The document's Runs, of anything.
-/
import Derived.Test.YtkjnhhoniodbcaaGreatDoorGQc
namespace Go.Proofs.YtkjnhhoniodbcaaGreatDoor
open Go.RowKit Plain
set_option linter.unusedVariables false
set_option maxRecDepth 100000

theorem const_tail {f : Nat → Nat} {H : Nat} (hf : ∀ t, H ≤ t → f (t + H) = f t) (hH : 1 ≤ H) (h : ∀ t, H ≤ t → t < 2 * H → f t = f H) : ∀ u, H ≤ u → f u = f H := by
  intro u
  induction u using Nat.strongRecOn with
  | ind u ih =>
    intro hu
    by_cases hlt : u < 2 * H
    · exact h u hu hlt
    · have := hf (u - H) (by omega)
      rw [show u - H + H = u by omega] at this
      rw [this]
      exact ih (u - H) (by omega) (by omega)

theorem cell_twoI (w : World) (x y : Int) (t : TypeId) : ∀ j u, ([.int .i64 x, .int .i64 y] : List Value)[j]? = some u → (w.alloc (.cells #[.int .i64 x, .int .i64 y] t)).cell? (Addr.add ⟨w.heap.size, 0, none⟩ j) = some u := by
  intro j u hj
  match j, hj with
  | 0, hj => simp at hj; subst hj; simp [Addr.add]
  | 1, hj => simp at hj; subst hj; simp [Addr.add]
  | j + 2, hj => simp at hj
theorem sub3 {A t k B : Nat} (h1 : A ≤ t) (h2 : t + k ≤ B) : B - A = (t + k - A) + (B - (t + k)) := by omega
theorem wr3 {x : Int} (h1 : 0 ≤ x) (h2 : x ≤ 1099511627776) : wrap64 (wrap64 (wrap64 x - 1) + 1) = x := by unfold wrap64; omega
theorem le40 {t : Nat} (h : (t : Int) ≤ 1099511627776) : t ≤ 1099511627776 := by omega
theorem msK {B t k : Nat} {x : Int} (h : t + k ≤ B) (hk : 1 ≤ k) (hx : x = ((t + k : Nat) : Int)) : B - (intOf (.int .i64 x)).toNat < B - (intOf (.int .i64 (t : Int))).toNat := by
  subst hx
  simp only [intOf, Int.toNat_natCast]
  omega
theorem Ow.low {w : World} {b b' : Nat} {v : Value} {L : List (Nat × Nat)} (h : Ow w b v L) (hb : b' ≤ b) : Ow w b' v L := by
  obtain ⟨h1, h2 | ⟨g, cap, cur, e, h3, r⟩⟩ := h
  · exact ⟨h1, .inl h2⟩
  · exact ⟨h1, .inr ⟨g, cap, cur, e, Nat.le_trans hb h3, r⟩⟩
theorem ow_set' {w : World} {base g c : Nat} {K : List (Nat × Nat)} {y : Nat × Nat} {z : Nat} (h : Ow w base (.slice (some ⟨g, 0, none⟩) (K.length + 1) c) (K ++ [y])) : Ow (w.setCell ⟨g, K.length * 2, none⟩ (.int .i64 z)) base (.slice (some ⟨g, 0, none⟩) (K.length + 1) c) (K ++ [(z, y.2)]) := by
  obtain ⟨hl, ⟨h1, _⟩ | ⟨g', cap, cur, hv, hb, hg, hn, hm, hs, ht⟩⟩ := h
  · cases h1
  · injection hv with e1 _ e3
    injection e1 with e1
    injection e1 with e1 _ _
    subst e1 e3
    have hll : (K ++ [(z, y.2)]).length = (K ++ [y]).length := by simp
    refine ⟨by rw [slL_len], .inr ⟨g, c, cur.setIfInBounds (K.length * 2) (.int .i64 z), by rw [hll]; simp, hb, ?_, by rw [hll]; exact hn, hm, by simpa using hs, ?_⟩⟩
    · show (w.heap.modify g _)[g]? = _
      rw [Array.getElem?_modify, if_pos rfl, hg]
      rfl
    · rw [hll, slL_app, Array.toList_setIfInBounds, List.take_set, ht, slL_app]
      rw [List.set_append_right _ _ (by rw [slL_len]; omega), slL_len]
      simp [slL, nv]
theorem runs_len1 (f : Nat → Nat) (a m : Nat) : ∀ y ∈ Rule.runsOf f a m, y.1 ≤ m := by
  induction m with
  | zero => intro y hy; cases hy
  | succ m ih =>
    intro y hy
    have hy2 : y ∈ Rule.joinL (Rule.runsOf f a m) (1, f (a + m)) := hy
    rcases List.eq_nil_or_concat (Rule.runsOf f a m) with e | ⟨K, z, e⟩
    · rw [e, Rule.joinL_nil] at hy2
      simp at hy2
      subst hy2
      show 1 ≤ m + 1
      omega
    · rw [List.concat_eq_append] at e
      rw [e] at ih hy2
      rw [Rule.joinL_snoc] at hy2
      have hz := ih z (by simp)
      split at hy2
      · simp at hy2
        rcases hy2 with h | h
        · have := ih y (by simp [h]); omega
        · subst h; show z.1 + 1 ≤ m + 1; omega
      · simp at hy2
        rcases hy2 with h | h | h
        · have := ih y (by simp [h]); omega
        · subst h; omega
        · subst h; show 1 ≤ m + 1; omega
theorem two_one (x y : Int) : ∀ u ∈ ([.int .i64 x, .int .i64 y] : List Value), u.oneCell' = true := by
  intro u hu
  simp at hu
  rcases hu with rfl | rfl <;> rfl

set_option maxHeartbeats 8000000 in
theorem refRuns_any {F : Nat → Prop} {a : Option Addr} {c : Nat} {xs : List Srv} (fr be : Int) (w : World) (h : Sv w F a xs.length c xs) (hF : ∀ k, F k → k < w.heap.size) :
    Calls Tryz.prog 6 #[.slice a xs.length c, .int .i64 fr, .int .i64 be] w fun e w' => ∃ v, e = .returned (.tuple #[v, .int .i64 (ruE xs fr be)]) ∧ Ow w' w.heap.size v (ruL xs fr be) ∧ Kept No w w' := by
  have hc := rHyper_any F a xs.length c xs w h
  cases ht : timF xs xs.length with
  | some p =>
    obtain ⟨e1, e2⟩ := ru_none (fr := fr) (be := be) ht
    rw [e1, e2]
    rw [(tim_no ht).1, (tim_no ht).2] at hc
    have hp1 : (p.1 != 0) = true := bne_iff_ne.2 (tim_neQ ht)
    clear h hF ht e1 e2
    generalize p.1 = E at *
    go_enter Tryz.func6, Tryz.ntmps6
    go_wp2_with (go_at_call 22; refine hc.mono ?_; rintro e w1 ⟨rfl, hk1⟩; have HK1 : Hid (Kept No w w1) := hk1; clear hk1 hc)
    go_ret2
    exact ⟨_, rfl, ⟨rfl, .inl ⟨rfl, rfl⟩⟩, HK1.out⟩
  | none =>
    rw [(tim_yes ht).1, (tim_yes ht).2] at hc
    have hsp := fun W => rspan_any fr be W
    cases hs : spO fr be with
    | false =>
      obtain ⟨e1, e2⟩ := ru_bad ht hs
      rw [e1, e2]
      rw [hs] at hsp
      clear h hF ht e1 e2 hs
      generalize ((hyp xs : Nat) : Int) = Y at *
      go_enter Tryz.func6, Tryz.ntmps6
      go_wp2_with (first
        | (go_at_call 22; refine hc.mono ?_; rintro e w1 ⟨rfl, hk1⟩; have HK1 : Hid (Kept No w w1) := hk1; clear hk1 hc)
        | (go_at_call 23; refine (hsp _).mono ?_; rintro e w2 ⟨rfl, hw2⟩; obtain rfl := hw2.symm))
      go_ret2
      exact ⟨_, rfl, ⟨rfl, .inl ⟨rfl, rfl⟩⟩, HK1.out⟩
    | true =>
      rw [hs] at hsp
      obtain ⟨s1, s2, s3⟩ := spO_yes hs
      have hv := vd_of ht
      obtain ⟨i0, hi, hz0, hz1, hz2⟩ := info_parts Tryz.infoSo
      obtain ⟨A, hA⟩ : ∃ A : Nat, fr.toNat = A := ⟨_, rfl⟩
      obtain ⟨B, hB⟩ : ∃ B : Nat, be.toNat = B := ⟨_, rfl⟩
      have HRU : Hid ((∀ (_ : (Rule.runsOf (Rule.occ (sys xs)) A (B - A)).length ≤ 65536), ruE xs fr be = 0 ∧ ruL xs fr be = Rule.runsOf (Rule.occ (sys xs)) A (B - A)) ∧ (∀ (_ : 65536 < (Rule.runsOf (Rule.occ (sys xs)) A (B - A)).length), ruE xs fr be = 1 ∧ ruL xs fr be = [])) := by
        have e : ruN xs fr be = Rule.runsOf (Rule.occ (sys xs)) A (B - A) := by unfold ruN; rw [hA, hB]
        refine ⟨fun q => ?_, fun q => ?_⟩
        · rw [← e]; exact ru_few ht hs (by rw [e]; exact q)
        · exact ru_many ht hs (by rw [e]; exact q)
      have hy1 := hv.hyp1
      have hy2 := hv.hyp2
      have HV : Hid (Vd xs ∧ (A : Int) = fr ∧ (B : Int) = be) := ⟨hv, by omega, by omega⟩
      have hAB : A ≤ B := by omega
      have hB2 : (B : Int) ≤ 1099511627776 := by omega
      have HP : Hid (∀ W, Kept No w W → Calls Tryz.prog 24 #[.slice a xs.length c, .int .i64 (2 * hyp xs : Nat)] W fun e w' => ∃ v, e = .returned v ∧ Oi w' W.heap.size v (Rule.occ (sys xs)) (2 * hyp xs) ∧ Kept No W w') := fun W k => rplay_any hv W (h.keep k) (fun j hj => Nat.lt_of_lt_of_le (hF j hj) k.size) _ (by omega)
      rw [show ((2 * hyp xs : Nat) : Int) = 2 * ((hyp xs : Nat) : Int) by omega] at HP
      have hYz : ((hyp xs : Nat) : Int) ≤ 1048576 := by omega
      have hYz1 : 1 ≤ ((hyp xs : Nat) : Int) := by omega
      clear h hF ht hs hv hA hB
      go_enter Tryz.func6, Tryz.ntmps6
      go_wp2_with (first
        | (go_at_call 22; refine hc.mono ?_; rintro e w1 ⟨rfl, hk1⟩; have HK1 : Hid (Kept No w w1) := hk1; clear hk1 hc; have pl := HP.out w1 HK1.out)
        | (go_at_call 23; refine (hsp _).mono ?_; rintro e w2 ⟨rfl, hw2⟩; obtain rfl := hw2.symm)
        | (go_at_call 24; refine pl.mono ?_; rintro e w3 ⟨v3, rfl, ho3, hk3⟩; obtain ⟨a3, c3, rfl, hl3⟩ := Ol.of ho3; have sg := single_any w3 hl3 hy1 hy2; have H3 : Hid (Ol w3 (fun k => w1.heap.size ≤ k ∧ k < w3.heap.size) a3 (2 * hyp xs) c3 (Rule.occ (sys xs)) ∧ Kept No w w3) := ⟨hl3, HK1.out.trans hk3 (fun _ h => h.elim)⟩; clear pl ho3 hk3 hl3)
        | (go_at_call 25; refine sg.mono ?_; rintro e w4 ⟨hsg, hk4⟩; obtain ⟨b, rfl, hb⟩ := hsg; have H4 : Hid (Ol w4 (fun k => w1.heap.size ≤ k ∧ k < w3.heap.size) a3 (2 * hyp xs) c3 (Rule.occ (sys xs)) ∧ Kept No w w4 ∧ (b = true → ∀ t, hyp xs ≤ t → t < 2 * hyp xs → Rule.occ (sys xs) t = Rule.occ (sys xs) (hyp xs))) := ⟨H3.out.1.kept hk4 (fun _ _ h => h), H3.out.2.trans hk4 (fun _ h => h.elim), hb⟩; clear hk4 sg hb))
      have hcp := H4.out.1.cap
      have hmx := H4.out.1.max
      go_loopw [12, 13, 14, 15, 16] (fun v y z1 z2 z3 wr => ∃ t : Nat, A ≤ t ∧ t ≤ B ∧ y = .int .i64 t ∧ Ow wr w4.heap.size v (Rule.runsOf (Rule.occ (sys xs)) A (t - A)) ∧ (Rule.runsOf (Rule.occ (sys xs)) A (t - A)).length ≤ 65536 ∧ Kept No w4 wr) (fun _ y _ _ _ _ => B - (intOf y).toNat)
      case atStart => exact ⟨A, Nat.le_refl _, hAB, by rw [HV.out.2.1], by rw [Nat.sub_self]; exact ⟨rfl, .inl ⟨rfl, rfl⟩⟩, by rw [Nat.sub_self]; simp [Rule.runsOf], Kept.refl _ _⟩
      case round =>
        obtain ⟨t, ht1, ht2, rfl, ho, hlen, hkr⟩ := hrel
        have HK : Hid (Ow wr w4.heap.size u12 (Rule.runsOf (Rule.occ (sys xs)) A (t - A)) ∧ (Rule.runsOf (Rule.occ (sys xs)) A (t - A)).length ≤ 65536 ∧ Kept No w4 wr) := ⟨ho, hlen, hkr⟩
        clear ho hlen hkr
        by_cases hlt : t < B
        · have hl1 : (t : Int) < be := by have := HV.out.2.2; omega
          have fo := fold_any t (hyp xs) wr hy1 hy2 (le40 (by omega))
          have hfl := fold_lt HV.out.1 t
          have HFO : Hid (Rule.occ (sys xs) t = Rule.occ (sys xs) (Rule.fold (hyp xs) t)) := fold_occ HV.out.1 t
          obtain ⟨b3, rfl, _, c0'⟩ := H4.out.1.at' (Rule.fold (hyp xs) t) hfl
          have c0 := HK.out.2.2.cell c0' (fun h => h)
          rw [← HFO.out] at c0
          clear c0'
          generalize Rule.fold (hyp xs) t = ff at *
          obtain ⟨q, hq⟩ : ∃ q : Nat, Rule.occ (sys xs) t = q := ⟨_, rfl⟩
          rw [hq] at c0
          obtain ⟨k, hk1, hkB, hconst, hcase⟩ : ∃ k : Nat, 1 ≤ k ∧ t + k ≤ B ∧ (∀ u, t ≤ u → u < t + k → Rule.occ (sys xs) u = q) ∧ ((b = true ∧ ((hyp xs : Nat) : Int) ≤ (t : Int) ∧ be - (t : Int) = (k : Int)) ∨ (b = false ∧ k = 1) ∨ (b = true ∧ ¬ ((hyp xs : Nat) : Int) ≤ (t : Int) ∧ k = 1)) := by
            by_cases hb1 : b = true
            · by_cases hH : hyp xs ≤ t
              · have hct := const_tail (occ_turns HV.out.1) hy1 (H4.out.2.2 hb1)
                exact ⟨B - t, by omega, by omega, fun u q1 q2 => by rw [← hq, hct u (by omega), hct t hH], .inl ⟨hb1, by omega, by have := HV.out.2.2; omega⟩⟩
              · exact ⟨1, by omega, by omega, fun u q1 q2 => by rw [show u = t by omega]; exact hq, .inr (.inr ⟨hb1, by omega, rfl⟩)⟩
            · exact ⟨1, by omega, by omega, fun u q1 q2 => by rw [show u = t by omega]; exact hq, .inr (.inl ⟨by simpa using hb1, rfl⟩)⟩
          have HJ : Hid (Rule.runsOf (Rule.occ (sys xs)) A (t + k - A) = Rule.joinL (Rule.runsOf (Rule.occ (sys xs)) A (t - A)) (k, q)) := by
            show _ = _
            rw [show t + k - A = t - A + k by omega]
            exact Rule.runsOf_join _ A (t - A) k q hk1 (fun u q1 q2 => hconst u (by omega) (by omega))
          have HB : Hid (A ≤ t ∧ t + k ≤ B ∧ 1 ≤ k) := ⟨ht1, hkB, hk1⟩
          have HKZ : Hid ((1 : Int) ≤ (k : Int) ∧ (t : Int) + (k : Int) ≤ 1099511627776) := ⟨by omega, by omega⟩
          have hwk : wrap64 (k : Int) = (k : Int) := by unfold wrap64; omega
          have HLM : Hid ((Rule.runsOf (Rule.occ (sys xs)) A (t + k - A)).length ≤ (Rule.runsOf (Rule.occ (sys xs)) A (B - A)).length) := by
            show _ ≤ _
            rw [sub3 HB.out.1 HB.out.2.1]
            exact Rule.runsOf_len _ _ _ _
          clear hconst hq hlt hAB hB2 ht1 ht2 hk1 hkB s1 s2 s3
          have HOL : Hid (∀ y ∈ Rule.runsOf (Rule.occ (sys xs)) A (t - A), y.1 ≤ t - A) := runs_len1 _ _ _
          generalize Rule.runsOf (Rule.occ (sys xs)) A (t - A) = L at *
          rcases List.eq_nil_or_concat L with rfl | ⟨K, y, rfl⟩
          · obtain ⟨oa, oc, rfl, hoc⟩ : ∃ oa oc, u12 = .slice oa 0 oc ∧ oc ≤ 9223372036854775807 := by
              obtain ⟨_, ⟨h, h0⟩ | ⟨g, cap, cur, h, _, _, _, hm, _⟩⟩ := HK.out.1
              · exact ⟨_, _, h, Nat.zero_le _⟩
              · exact ⟨_, _, h, by unfold maxLen at hm; omega⟩
            have HJL : Hid (Rule.joinL [] (k, q) = [] ++ [(k, q)]) := rfl
            rcases hcase with ⟨rfl, h1, h2⟩ | ⟨rfl, rfl⟩ | ⟨rfl, h1, rfl⟩
            · go_wp2_with (first
                | (go_at_call 26; refine fo.mono ?_; rintro e w5 ⟨rfl, hw5⟩; obtain rfl := hw5.symm; clear fo)
                | (at_builtin; go_loud (refine wpList_append_own_at _ rfl _ _ 24 rfl w4.heap.size 39 i0 (.agg #[.int .i64 0, .int .i64 0]) 2 16 Tryz.underlying24 hi hz0 hz1 hz2 rfl (by decide) _ _ _ rfl (HK.out.1.alloc _) ⟨wr.heap.size, 0, none⟩ 1 1 [.int .i64 (k : Int), .int .i64 (q : Int)] rfl rfl (cell_twoI wr _ _ _) (two_one _ _) (by unfold maxLen; simp) (by simp) (by have := HK.out.2.2.size; simp; omega) ?_; intro v9 w10 own10 grow10 _ at10)))
              have HN : Hid (Ow w10 w4.heap.size v9 (Rule.runsOf (Rule.occ (sys xs)) A (t + k - A)) ∧ (Rule.runsOf (Rule.occ (sys xs)) A (t + k - A)).length ≤ 65536 ∧ Kept No w4 w10) := by
                refine ⟨?_, ?_, ?_⟩
                · unfold Ow
                  rw [HJ.out, HJL.out, slL_app, List.length_append]
                  exact own10
                · rw [HJ.out, HJL.out]; simp <;> omega
                · exact (HK.out.2.2.alloc _).grown grow10 (fun j e => .inr (HK.out.1.lt j e).1)
              clear own10 grow10 at10
              obtain ⟨hkz1, hkz2⟩ := HKZ.out
              go_wp2
              go_roundw
              case rel => exact ⟨t + k, by have := HB.out; omega, by have := HB.out; omega, by first | (rw [wr3 (by omega) (by omega)]; go_num) | go_num, HN.out⟩
              case measure => exact msK HB.out.2.1 HB.out.2.2 (by first | (rw [wr3 (by omega) (by omega)]; rfl) | rfl)
            · go_wp2_with (first
                | (go_at_call 26; refine fo.mono ?_; rintro e w5 ⟨rfl, hw5⟩; obtain rfl := hw5.symm; clear fo)
                | (at_builtin; go_loud (refine wpList_append_own_at _ rfl _ _ 24 rfl w4.heap.size 39 i0 (.agg #[.int .i64 0, .int .i64 0]) 2 16 Tryz.underlying24 hi hz0 hz1 hz2 rfl (by decide) _ _ _ rfl (HK.out.1.alloc _) ⟨wr.heap.size, 0, none⟩ 1 1 [.int .i64 1, .int .i64 (q : Int)] rfl rfl (cell_twoI wr _ _ _) (two_one _ _) (by unfold maxLen; simp) (by simp) (by have := HK.out.2.2.size; simp; omega) ?_; intro v9 w10 own10 grow10 _ at10)))
              have HN : Hid (Ow w10 w4.heap.size v9 (Rule.runsOf (Rule.occ (sys xs)) A (t + 1 - A)) ∧ (Rule.runsOf (Rule.occ (sys xs)) A (t + 1 - A)).length ≤ 65536 ∧ Kept No w4 w10) := by
                refine ⟨?_, ?_, ?_⟩
                · unfold Ow
                  rw [HJ.out, HJL.out, slL_app, List.length_append]
                  exact own10
                · rw [HJ.out, HJL.out]; simp <;> omega
                · exact (HK.out.2.2.alloc _).grown grow10 (fun j e => .inr (HK.out.1.lt j e).1)
              clear own10 grow10 at10
              obtain ⟨hkz1, hkz2⟩ := HKZ.out
              go_wp2
              go_roundw
              case rel => exact ⟨t + 1, by have := HB.out; omega, by have := HB.out; omega, by first | (rw [wr3 (by omega) (by omega)]; go_num) | go_num, HN.out⟩
              case measure => exact msK HB.out.2.1 HB.out.2.2 (by first | (rw [wr3 (by omega) (by omega)]; rfl) | rfl)
            · go_wp2_with (first
                | (go_at_call 26; refine fo.mono ?_; rintro e w5 ⟨rfl, hw5⟩; obtain rfl := hw5.symm; clear fo)
                | (at_builtin; go_loud (refine wpList_append_own_at _ rfl _ _ 24 rfl w4.heap.size 39 i0 (.agg #[.int .i64 0, .int .i64 0]) 2 16 Tryz.underlying24 hi hz0 hz1 hz2 rfl (by decide) _ _ _ rfl (HK.out.1.alloc _) ⟨wr.heap.size, 0, none⟩ 1 1 [.int .i64 1, .int .i64 (q : Int)] rfl rfl (cell_twoI wr _ _ _) (two_one _ _) (by unfold maxLen; simp) (by simp) (by have := HK.out.2.2.size; simp; omega) ?_; intro v9 w10 own10 grow10 _ at10)))
              have HN : Hid (Ow w10 w4.heap.size v9 (Rule.runsOf (Rule.occ (sys xs)) A (t + 1 - A)) ∧ (Rule.runsOf (Rule.occ (sys xs)) A (t + 1 - A)).length ≤ 65536 ∧ Kept No w4 w10) := by
                refine ⟨?_, ?_, ?_⟩
                · unfold Ow
                  rw [HJ.out, HJL.out, slL_app, List.length_append]
                  exact own10
                · rw [HJ.out, HJL.out]; simp <;> omega
                · exact (HK.out.2.2.alloc _).grown grow10 (fun j e => .inr (HK.out.1.lt j e).1)
              clear own10 grow10 at10
              obtain ⟨hkz1, hkz2⟩ := HKZ.out
              go_wp2
              go_roundw
              case rel => exact ⟨t + 1, by have := HB.out; omega, by have := HB.out; omega, by first | (rw [wr3 (by omega) (by omega)]; go_num) | go_num, HN.out⟩
              case measure => exact msK HB.out.2.1 HB.out.2.2 (by first | (rw [wr3 (by omega) (by omega)]; rfl) | rfl)
          · rw [List.concat_eq_append] at *
            obtain ⟨g, oc, rfl, hgl, ho1, ho2⟩ : ∃ g oc, u12 = .slice (some ⟨g, 0, none⟩) (K.length + 1) oc ∧ g < wr.heap.size ∧ K.length + 1 ≤ oc ∧ oc ≤ 9223372036854775807 := by
              have h0 := HK.out.1
              obtain ⟨_, ⟨h, hl⟩ | ⟨g, cap, cur, h, _, _, hn, hm, _⟩⟩ := HK.out.1
              · simp at hl
              · subst h
                exact ⟨g, cap, by simp, (h0.lt g rfl).2, by simpa using hn, by unfold maxLen at hm; omega⟩
            have hKl : K.length + 1 ≤ 65536 := by have := HK.out.2.1; simpa using this
            obtain ⟨C0, C1⟩ := slL_at (K ++ [y]) K.length y (by simp)
            have y0 : wr.cell? ⟨g, K.length * 2, none⟩ = some (.int .i64 y.1) := by
              have := HK.out.1.cells (g := g) rfl (K.length * 2) _ C0
              rw [add_none, Nat.zero_add] at this
              exact this
            have y1 : wr.cell? ⟨g, K.length * 2 + 1, none⟩ = some (.int .i64 y.2) := by
              have := HK.out.1.cells (g := g) rfl (K.length * 2 + 1) _ C1
              rw [add_none, Nat.zero_add] at this
              exact this
            have yf : wr.frozen? ⟨g, K.length * 2, none⟩ = false := by
              obtain ⟨_, ⟨h, hl⟩ | ⟨g', cap, cur, h, _, hg', _⟩⟩ := HK.out.1
              · cases h
              · injection h with h _ _
                injection h with h
                injection h with h _ _
                subst h
                simp [World.frozen?, hg']
            clear C0 C1
            by_cases hyq : y.2 = q
            · have hyz : (((y.2 : Nat) : Int) == (q : Int)) = true := by rw [hyq]; simp
              have HJL : Hid (Rule.joinL (K ++ [y]) (k, q) = K ++ [(y.1 + k, q)]) := by show _ = _; rw [Rule.joinL_snoc, if_pos hyq]
              have HYQ : Hid (y.2 = q) := hyq
              clear hyq
              rcases hcase with ⟨rfl, h1, h2⟩ | ⟨rfl, rfl⟩ | ⟨rfl, h1, rfl⟩
              · have HN : Hid (Ow (wr.setCell ⟨g, K.length * 2, none⟩ (.int .i64 (wrap64 ((y.1 : Int) + k)))) w4.heap.size (.slice (some ⟨g, 0, none⟩) (K.length + 1) oc) (Rule.runsOf (Rule.occ (sys xs)) A (t + k - A)) ∧ (Rule.runsOf (Rule.occ (sys xs)) A (t + k - A)).length ≤ 65536 ∧ Kept No w4 (wr.setCell ⟨g, K.length * 2, none⟩ (.int .i64 (wrap64 ((y.1 : Int) + k))))) := by
                  have hyl := HOL.out y (by simp)
                  have hw : wrap64 ((y.1 : Int) + k) = ((y.1 + k : Nat) : Int) := by have := HKZ.out; rw [show ((y.1 + k : Nat) : Int) = (y.1 : Int) + k by omega]; unfold wrap64; omega
                  refine ⟨?_, ?_, ?_⟩
                  · rw [HJ.out, HJL.out, hw, ← HYQ.out]
                    exact ow_set' HK.out.1
                  · rw [HJ.out, HJL.out]; simpa using hKl
                  · have ks : Kept (fun j => j = g) wr (wr.setCell ⟨g, K.length * 2, none⟩ (.int .i64 (wrap64 ((y.1 : Int) + k)))) := Kept.setCell (F := fun j => j = g) (p := ⟨g, K.length * 2, none⟩) (Kept.refl _ wr) (.inl rfl) _
                    exact HK.out.2.2.trans ks (fun j e => .inr (by rw [e]; exact (HK.out.1.lt g rfl).1))
                generalize ((y.2 : Nat) : Int) = yy at *
                generalize ((y.1 : Nat) : Int) = yx at *
                go_wp2_with (go_at_call 26; refine fo.mono ?_; rintro e w5 ⟨rfl, hw5⟩; obtain rfl := hw5.symm; clear fo)
                obtain ⟨hkz1, hkz2⟩ := HKZ.out
                go_roundw
                case rel => exact ⟨t + k, by have := HB.out; omega, by have := HB.out; omega, by first | (rw [wr3 (by omega) (by omega)]; go_num) | go_num, HN.out⟩
                case measure => exact msK HB.out.2.1 HB.out.2.2 (by first | (rw [wr3 (by omega) (by omega)]; rfl) | rfl)
              · have HN : Hid (Ow (wr.setCell ⟨g, K.length * 2, none⟩ (.int .i64 (wrap64 ((y.1 : Int) + 1)))) w4.heap.size (.slice (some ⟨g, 0, none⟩) (K.length + 1) oc) (Rule.runsOf (Rule.occ (sys xs)) A (t + 1 - A)) ∧ (Rule.runsOf (Rule.occ (sys xs)) A (t + 1 - A)).length ≤ 65536 ∧ Kept No w4 (wr.setCell ⟨g, K.length * 2, none⟩ (.int .i64 (wrap64 ((y.1 : Int) + 1))))) := by
                  have hyl := HOL.out y (by simp)
                  have hw : wrap64 ((y.1 : Int) + 1) = ((y.1 + 1 : Nat) : Int) := by have := HKZ.out; rw [show ((y.1 + 1 : Nat) : Int) = (y.1 : Int) + 1 by omega]; unfold wrap64; omega
                  refine ⟨?_, ?_, ?_⟩
                  · rw [HJ.out, HJL.out, hw, ← HYQ.out]
                    exact ow_set' HK.out.1
                  · rw [HJ.out, HJL.out]; simpa using hKl
                  · have ks : Kept (fun j => j = g) wr (wr.setCell ⟨g, K.length * 2, none⟩ (.int .i64 (wrap64 ((y.1 : Int) + 1)))) := Kept.setCell (F := fun j => j = g) (p := ⟨g, K.length * 2, none⟩) (Kept.refl _ wr) (.inl rfl) _
                    exact HK.out.2.2.trans ks (fun j e => .inr (by rw [e]; exact (HK.out.1.lt g rfl).1))
                generalize ((y.2 : Nat) : Int) = yy at *
                generalize ((y.1 : Nat) : Int) = yx at *
                go_wp2_with (go_at_call 26; refine fo.mono ?_; rintro e w5 ⟨rfl, hw5⟩; obtain rfl := hw5.symm; clear fo)
                obtain ⟨hkz1, hkz2⟩ := HKZ.out
                go_roundw
                case rel => exact ⟨t + 1, by have := HB.out; omega, by have := HB.out; omega, by first | (rw [wr3 (by omega) (by omega)]; go_num) | go_num, HN.out⟩
                case measure => exact msK HB.out.2.1 HB.out.2.2 (by first | (rw [wr3 (by omega) (by omega)]; rfl) | rfl)
              · have HN : Hid (Ow (wr.setCell ⟨g, K.length * 2, none⟩ (.int .i64 (wrap64 ((y.1 : Int) + 1)))) w4.heap.size (.slice (some ⟨g, 0, none⟩) (K.length + 1) oc) (Rule.runsOf (Rule.occ (sys xs)) A (t + 1 - A)) ∧ (Rule.runsOf (Rule.occ (sys xs)) A (t + 1 - A)).length ≤ 65536 ∧ Kept No w4 (wr.setCell ⟨g, K.length * 2, none⟩ (.int .i64 (wrap64 ((y.1 : Int) + 1))))) := by
                  have hyl := HOL.out y (by simp)
                  have hw : wrap64 ((y.1 : Int) + 1) = ((y.1 + 1 : Nat) : Int) := by have := HKZ.out; rw [show ((y.1 + 1 : Nat) : Int) = (y.1 : Int) + 1 by omega]; unfold wrap64; omega
                  refine ⟨?_, ?_, ?_⟩
                  · rw [HJ.out, HJL.out, hw, ← HYQ.out]
                    exact ow_set' HK.out.1
                  · rw [HJ.out, HJL.out]; simpa using hKl
                  · have ks : Kept (fun j => j = g) wr (wr.setCell ⟨g, K.length * 2, none⟩ (.int .i64 (wrap64 ((y.1 : Int) + 1)))) := Kept.setCell (F := fun j => j = g) (p := ⟨g, K.length * 2, none⟩) (Kept.refl _ wr) (.inl rfl) _
                    exact HK.out.2.2.trans ks (fun j e => .inr (by rw [e]; exact (HK.out.1.lt g rfl).1))
                generalize ((y.2 : Nat) : Int) = yy at *
                generalize ((y.1 : Nat) : Int) = yx at *
                go_wp2_with (go_at_call 26; refine fo.mono ?_; rintro e w5 ⟨rfl, hw5⟩; obtain rfl := hw5.symm; clear fo)
                obtain ⟨hkz1, hkz2⟩ := HKZ.out
                go_roundw
                case rel => exact ⟨t + 1, by have := HB.out; omega, by have := HB.out; omega, by first | (rw [wr3 (by omega) (by omega)]; go_num) | go_num, HN.out⟩
                case measure => exact msK HB.out.2.1 HB.out.2.2 (by first | (rw [wr3 (by omega) (by omega)]; rfl) | rfl)
            · have hyz : (((y.2 : Nat) : Int) == (q : Int)) = false := beq_eq_false_iff_ne.2 (by omega)
              have HJL : Hid (Rule.joinL (K ++ [y]) (k, q) = (K ++ [y]) ++ [(k, q)]) := by show _ = _; rw [Rule.joinL_snoc, if_neg hyq]
              clear hyq
              by_cases hfull : K.length + 1 = 65536
              · have hfz : (((K.length : Int) + 1) == 65536) = true := beq_iff_eq.2 (by omega)
                have HE : Hid (ruE xs fr be = 1 ∧ ruL xs fr be = []) := HRU.out.2 (by
                  have h1 := HLM.out
                  rw [HJ.out, HJL.out] at h1
                  simp at h1
                  omega)
                have HF : Hid (Kept No w wr) := H4.out.2.1.trans HK.out.2.2 (fun _ h => h.elim)
                have y1' : wr.cell? ⟨g, 131071, none⟩ = some (.int .i64 y.2) := by
                  have : K.length * 2 + 1 = 131071 := by omega
                  rw [this] at y1
                  exact y1
                generalize ((y.2 : Nat) : Int) = yy at *
                rcases hcase with ⟨rfl, h1, h2⟩ | ⟨rfl, rfl⟩ | ⟨rfl, h1, rfl⟩
                all_goals
                  go_wp2_with (go_at_call 26; refine fo.mono ?_; rintro e w5 ⟨rfl, hw5⟩; obtain rfl := hw5.symm; clear fo)
                  go_ret2
                  exact ⟨_, by rw [HE.out.1]; rfl, by rw [HE.out.2]; exact ⟨rfl, .inl ⟨rfl, rfl⟩⟩, HF.out⟩
              · have hfz : ¬ ((K.length : Int) + 1 = 65536) := by omega
                generalize ((y.2 : Nat) : Int) = yy at *
                rcases hcase with ⟨rfl, h1, h2⟩ | ⟨rfl, rfl⟩ | ⟨rfl, h1, rfl⟩
                · go_wp2_with (first
                    | (go_at_call 26; refine fo.mono ?_; rintro e w5 ⟨rfl, hw5⟩; obtain rfl := hw5.symm; clear fo)
                    | (at_builtin; go_loud (refine wpList_append_own_at _ rfl _ _ 24 rfl w4.heap.size 39 i0 (.agg #[.int .i64 0, .int .i64 0]) 2 16 Tryz.underlying24 hi hz0 hz1 hz2 rfl (by decide) _ _ _ rfl (HK.out.1.alloc _) ⟨wr.heap.size, 0, none⟩ 1 1 [.int .i64 (k : Int), .int .i64 (q : Int)] rfl rfl (cell_twoI wr _ _ _) (two_one _ _) (by unfold maxLen; simp; omega) (by simp; omega) (by have := HK.out.2.2.size; simp; omega) ?_; intro v9 w10 own10 grow10 _ at10)))
                  have HN : Hid (Ow w10 w4.heap.size v9 (Rule.runsOf (Rule.occ (sys xs)) A (t + k - A)) ∧ (Rule.runsOf (Rule.occ (sys xs)) A (t + k - A)).length ≤ 65536 ∧ Kept No w4 w10) := by
                    refine ⟨?_, ?_, ?_⟩
                    · unfold Ow
                      rw [HJ.out, HJL.out, slL_app, List.length_append]
                      exact own10
                    · rw [HJ.out, HJL.out]; simp; omega
                    · exact (HK.out.2.2.alloc _).grown grow10 (fun j e => .inr (HK.out.1.lt j e).1)
                  clear own10 grow10 at10
                  obtain ⟨hkz1, hkz2⟩ := HKZ.out
                  go_wp2
                  go_roundw
                  case rel => exact ⟨t + k, by have := HB.out; omega, by have := HB.out; omega, by first | (rw [wr3 (by omega) (by omega)]; go_num) | go_num, HN.out⟩
                  case measure => exact msK HB.out.2.1 HB.out.2.2 (by first | (rw [wr3 (by omega) (by omega)]; rfl) | rfl)
                · go_wp2_with (first
                    | (go_at_call 26; refine fo.mono ?_; rintro e w5 ⟨rfl, hw5⟩; obtain rfl := hw5.symm; clear fo)
                    | (at_builtin; go_loud (refine wpList_append_own_at _ rfl _ _ 24 rfl w4.heap.size 39 i0 (.agg #[.int .i64 0, .int .i64 0]) 2 16 Tryz.underlying24 hi hz0 hz1 hz2 rfl (by decide) _ _ _ rfl (HK.out.1.alloc _) ⟨wr.heap.size, 0, none⟩ 1 1 [.int .i64 1, .int .i64 (q : Int)] rfl rfl (cell_twoI wr _ _ _) (two_one _ _) (by unfold maxLen; simp; omega) (by simp; omega) (by have := HK.out.2.2.size; simp; omega) ?_; intro v9 w10 own10 grow10 _ at10)))
                  have HN : Hid (Ow w10 w4.heap.size v9 (Rule.runsOf (Rule.occ (sys xs)) A (t + 1 - A)) ∧ (Rule.runsOf (Rule.occ (sys xs)) A (t + 1 - A)).length ≤ 65536 ∧ Kept No w4 w10) := by
                    refine ⟨?_, ?_, ?_⟩
                    · unfold Ow
                      rw [HJ.out, HJL.out, slL_app, List.length_append]
                      exact own10
                    · rw [HJ.out, HJL.out]; simp; omega
                    · exact (HK.out.2.2.alloc _).grown grow10 (fun j e => .inr (HK.out.1.lt j e).1)
                  clear own10 grow10 at10
                  obtain ⟨hkz1, hkz2⟩ := HKZ.out
                  go_wp2
                  go_roundw
                  case rel => exact ⟨t + 1, by have := HB.out; omega, by have := HB.out; omega, by first | (rw [wr3 (by omega) (by omega)]; go_num) | go_num, HN.out⟩
                  case measure => exact msK HB.out.2.1 HB.out.2.2 (by first | (rw [wr3 (by omega) (by omega)]; rfl) | rfl)
                · go_wp2_with (first
                    | (go_at_call 26; refine fo.mono ?_; rintro e w5 ⟨rfl, hw5⟩; obtain rfl := hw5.symm; clear fo)
                    | (at_builtin; go_loud (refine wpList_append_own_at _ rfl _ _ 24 rfl w4.heap.size 39 i0 (.agg #[.int .i64 0, .int .i64 0]) 2 16 Tryz.underlying24 hi hz0 hz1 hz2 rfl (by decide) _ _ _ rfl (HK.out.1.alloc _) ⟨wr.heap.size, 0, none⟩ 1 1 [.int .i64 1, .int .i64 (q : Int)] rfl rfl (cell_twoI wr _ _ _) (two_one _ _) (by unfold maxLen; simp; omega) (by simp; omega) (by have := HK.out.2.2.size; simp; omega) ?_; intro v9 w10 own10 grow10 _ at10)))
                  have HN : Hid (Ow w10 w4.heap.size v9 (Rule.runsOf (Rule.occ (sys xs)) A (t + 1 - A)) ∧ (Rule.runsOf (Rule.occ (sys xs)) A (t + 1 - A)).length ≤ 65536 ∧ Kept No w4 w10) := by
                    refine ⟨?_, ?_, ?_⟩
                    · unfold Ow
                      rw [HJ.out, HJL.out, slL_app, List.length_append]
                      exact own10
                    · rw [HJ.out, HJL.out]; simp; omega
                    · exact (HK.out.2.2.alloc _).grown grow10 (fun j e => .inr (HK.out.1.lt j e).1)
                  clear own10 grow10 at10
                  obtain ⟨hkz1, hkz2⟩ := HKZ.out
                  go_wp2
                  go_roundw
                  case rel => exact ⟨t + 1, by have := HB.out; omega, by have := HB.out; omega, by first | (rw [wr3 (by omega) (by omega)]; go_num) | go_num, HN.out⟩
                  case measure => exact msK HB.out.2.1 HB.out.2.2 (by first | (rw [wr3 (by omega) (by omega)]; rfl) | rfl)
        · obtain rfl : t = B := by omega
          have hl1 : ¬ (t : Int) < be := by have := HV.out.2.2; omega
          obtain ⟨e1, e2⟩ := HRU.out.1 HK.out.2.1
          have HE : Hid (ruE xs fr be = 0 ∧ ruL xs fr be = Rule.runsOf (Rule.occ (sys xs)) A (t - A)) := ⟨e1, e2⟩
          have HF : Hid (Ow wr w.heap.size u12 (Rule.runsOf (Rule.occ (sys xs)) A (t - A)) ∧ Kept No w wr) := ⟨HK.out.1.low H4.out.2.1.size, H4.out.2.1.trans HK.out.2.2 (fun _ h => h.elim)⟩
          clear HK e1 e2 HRU
          go_wp2
          go_ret2
          exact ⟨_, by rw [HE.out.1]; rfl, by rw [HE.out.2]; exact HF.out.1, HF.out.2⟩
end Go.Proofs.YtkjnhhoniodbcaaGreatDoor
