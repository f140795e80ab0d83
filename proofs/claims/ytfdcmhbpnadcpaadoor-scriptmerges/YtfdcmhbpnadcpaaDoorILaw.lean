/-
  ScriptMerges: the law's walk.
-/
import Derived.Test.YtfdcmhbpnadcpaaDoorIKnw
import Derived.Test.YtfdcmhbpnadcpaaDoorIWov
import Derived.Test.YtfdcmhbpnadcpaaDoorIMerge
import Derived.Test.YtfdcmhbpnadcpaaDoorICut
namespace Go.Proofs.YtfdcmhbpnadcpaaDoor
open Go.RowKit
set_option linter.unusedVariables false
set_option linter.unusedSimpArgs false
set_option maxRecDepth 100000

theorem cut_last {l : List Inp} {f t : Int} {k : Nat} {y : Inp} (h : (cutL l f t)[k]? = some y) : f ≤ y.tk ∧ y.tk < t := by
  have := (List.mem_filter.1 (List.mem_of_getElem? h)).2
  exact (cutB_eq f t y).1 this
set_option maxHeartbeats 16000000 in
theorem merges_law {F G K : Nat → Prop} {a1 a2 a3 : Option Addr} {n1 c1 n2 c2 n3 c3 : Nat} {l1 l2 l3 : List Inp} (w : World) (at' : Int) (h1 : Il w F a1 n1 c1 l1) (h2 : Il w G a2 n2 c2 l2) (h3 : Il w K a3 n3 c3 l3) (he : En w) :
    Calls Tryd.prog 5 #[.slice a1 n1 c1, .slice a2 n2 c2, .slice a3 n3 c3, .int .i64 at'] w fun r w' => r = .returned (.bool true) ∧ Kept No w w' := by
  have CK := hid (known_yes w he)
  have HA := hid (And.intro h1 (And.intro h2 h3))
  clear h1 h2 h3 he
  go_enter Tryd.func5, Tryd.ntmps5
  go_upto_region 3 with (go_at_call 10; refine CK.out.mono ?_; rintro r w1 ⟨rfl, k1⟩; have K1 := hid k1; clear k1 CK)
  have C1 := hid (sorted_any w1 (HA.out.1.keep K1.out))
  go_upto_region 4 with (go_at_call 14; refine C1.out.mono ?_; rintro r w2 ⟨ra, la, rca, rfl, xa, ila, risa, hla, k2⟩; have K2 := hid (K1.out.trans k2 (fun _ e => e.elim)); have IA := hid (And.intro ila risa); clear ila risa k2 C1 K1)
  have C2 := hid (sorted_any w2 (HA.out.2.1.keep K2.out))
  go_upto_region 5 with (go_at_call 14; refine C2.out.mono ?_; rintro r w3 ⟨rb, lb, rcb, rfl, xb, ilb, risb, hlb, k3⟩; have K3 := hid (K2.out.trans k3 (fun _ e => e.elim)); have IB := hid (And.intro ilb risb); have IA3 := hid (IA.out.1.keep k3); clear ilb risb k3 C2 K2)
  have C3 := hid (sorted_any w3 (HA.out.2.2.keep K3.out))
  go_upto_region 6 with (go_at_call 14; refine C3.out.mono ?_; rintro r w4 ⟨rc, lc, rcc, rfl, xc, ilc, risc, hlc, k4⟩; have K4 := hid (K3.out.trans k4 (fun _ e => e.elim)); have IC := hid (And.intro ilc risc); have IA4 := hid (IA3.out.keep k4); have IB4 := hid (IB.out.1.keep k4); clear ilc risc k4 C3 K3 IA3)
  have C4 := hid (merge_any w4 IA4.out IB4.out (by omega))
  go_upto_region 7 with (go_at_call 15; refine C4.out.mono ?_; rintro r w5 ⟨rm, rcm, rfl, ilm, k5⟩; have K5 := hid (K4.out.trans k5 (fun _ e => e.elim)); have IM := hid ilm; have IA5 := hid (IA4.out.keep k5); have IB5 := hid (IB4.out.keep k5); have IC5 := hid (IC.out.1.keep k5); clear ilm k5 C4 K4 IA4 IB4)
  have RM : Hid (Rise (mrg xa xb)) := IA.out.2.mrg IB.out.2
  have C5 := hid (rising_yes w5 IM.out RM.out (by omega))
  go_cut [51] (fun u wd => u = .bool false ∧ Kept No w5 wd)
  case first =>
    go_wp2_with (first
      | (go_at_call 16; refine C5.out.mono ?_; rintro r w6 ⟨rfl, k6⟩; have K6 := hid k6; have C6 := hid (woven_yes w6 (IM.out.keep k6) (IA5.out.keep k6) (IB5.out.keep k6) (by omega)); clear k6 C5)
      | (go_at_call 17; refine C6.out.mono ?_; rintro r w7 ⟨rfl, k7⟩; have K7 := hid (K6.out.trans k7 (fun _ e => e.elim)); have C7 := hid (merge_any w7 (IA5.out.keep K7.out) (Il.nil w7 An none (c := 0) (by omega)) (by omega)); clear k7 C6 K6)
      | (go_at_call 15; refine C7.out.mono ?_; rintro r w8 ⟨rm8, rc8, rfl, il8, k8⟩; have K8 := hid (K7.out.trans k8 (fun _ e => e.elim)); rw [mrg_nil_r] at il8; have C8 := hid (same_yes w8 il8 (IA5.out.keep K8.out) (by omega)); clear k8 C7 K7 il8)
      | (go_at_call 11; refine C8.out.mono ?_; rintro r w9 ⟨rfl, k9⟩; have K9 := hid (K8.out.trans k9 (fun _ e => e.elim)); have C9 := hid (merge_any w9 (Il.nil w9 An none (c := 0) (by omega)) (IA5.out.keep K9.out) (by omega)); clear k9 C8 K8)
      | (go_at_call 15; refine C9.out.mono ?_; rintro r w10 ⟨rm10, rc10, rfl, il10, k10⟩; have K10 := hid (K9.out.trans k10 (fun _ e => e.elim)); rw [mrg_nil_l, Nat.zero_add] at il10; have C10 := hid (same_yes w10 il10 (IA5.out.keep K10.out) (by omega)); rw [Nat.zero_add]; clear k10 C9 K9 il10)
      | (go_at_call 11; refine C10.out.mono ?_; rintro r w11 ⟨rfl, k11⟩; have K11 := hid (K10.out.trans k11 (fun _ e => e.elim)); clear k11 C10 K10))
    go_meet
    exact ⟨rfl, K11.out⟩
  case rest =>
  rename World => w11
  obtain ⟨rfl, k11⟩ := hcut
  have IM1 := hid (IM.out.keep k11)
  have IA1 := hid (IA5.out.keep k11)
  have IB1 := hid (IB5.out.keep k11)
  have IC1 := hid (IC5.out.keep k11)
  have K11 := hid (K5.out.trans k11 (fun _ e => e.elim))
  clear k11 C5 IM IA5 IB5 IC5 K5
  have D1 := hid (merge_any w11 IM1.out IC1.out (by omega))
  go_upto_region 9 with fail
  go_cut [61] (fun u wd => u = .bool false ∧ Kept No w11 wd)
  case first =>
    go_wp2_with (first
      | (go_at_call 15; refine D1.out.mono ?_; rintro r w12 ⟨r12, c12, rfl, il12, k12⟩; have I12 := hid il12; have K12 := hid k12; have D2 := hid (merge_any w12 (IB1.out.keep k12) (IC1.out.keep k12) (by omega)); clear k12 D1 il12)
      | (go_at_call 15; refine D2.out.mono ?_; rintro r w13 ⟨r13, c13, rfl, il13, k13⟩; have K13 := hid (K12.out.trans k13 (fun _ e => e.elim)); have I12b := hid (I12.out.keep k13); have D3 := hid (merge_any w13 (IA1.out.keep K13.out) il13 (by omega)); clear k13 D2 il13 K12 I12)
      | (go_at_call 15; refine D3.out.mono ?_; rintro r w14 ⟨r14, c14, rfl, il14, k14⟩; have K14 := hid (K13.out.trans k14 (fun _ e => e.elim)); rw [← mrg_assoc IA.out.2 IB.out.2 IC.out.2, ← Nat.add_assoc] at il14; rw [← Nat.add_assoc]; have D4 := hid (same_yes w14 (I12b.out.keep k14) il14 (by omega)); clear k14 D3 il14 K13 I12b)
      | (go_at_call 11; refine D4.out.mono ?_; rintro r w15 ⟨rfl, k15⟩; have K15 := hid (K14.out.trans k15 (fun _ e => e.elim)); clear k15 D4 K14))
    go_meet
    exact ⟨rfl, K15.out⟩
  case rest =>
  rename World => w15
  obtain ⟨rfl, k15⟩ := hcut
  have IM2 := hid (IM1.out.keep k15)
  have K15 := hid (K11.out.trans k15 (fun _ e => e.elim))
  clear k15 D1 IM1 IA1 IB1 IC1 K11
  have E1 := hid (cut_any w15 (-9223372036854775808) at' IM2.out (by omega))
  go_upto_region 13 with (go_at_call 18; refine E1.out.mono ?_; rintro r w16 ⟨r16, n16, c16, rfl, il16, k16⟩; have I16 := hid il16; have K16 := hid (K15.out.trans k16 (fun _ e => e.elim)); have IM3 := hid (IM2.out.keep k16); clear k16 E1 il16 K15 IM2)
  have E2 := hid (cut_any w16 at' 9223372036854775807 IM3.out (by omega))
  go_upto_region 14 with (go_at_call 18; refine E2.out.mono ?_; rintro r w17 ⟨r17, n17, c17, rfl, il17, k17⟩; have I17 := hid (And.intro (I16.out.keep k17) il17); have K17 := hid (K16.out.trans k17 (fun _ e => e.elim)); have IM4 := hid (IM3.out.keep k17); clear k17 E2 il17 K16 IM3 I16)
  have mc := IM4.out.cap
  have mm := IM4.out.max
  have ml := IM4.out.len
  go_wp2
  go_loopw [16] (fun u16 wr => ∃ (k : Nat), k ≤ la + lb ∧ u16 = .int .i64 k ∧ (∀ i y, i < k → (mrg xa xb)[i]? = some y → y.tk ≠ 9223372036854775807) ∧ w17 = wr) (fun u16 _ => la + lb - (intOf u16).toNat)
  case atStart => exact ⟨0, by omega, rfl, fun i y hi => by omega, rfl⟩
  case round =>
    obtain ⟨k, hk, rfl, hall, rfl⟩ := hrel
    by_cases hlt : k < la + lb
    · have hltz : (k : Int) < ((la + lb : Nat) : Int) := by omega
      have hltz2 : (k : Int) < (la : Int) + (lb : Int) := by omega
      obtain ⟨x, hx⟩ : ∃ x, (mrg xa xb)[k]? = some x := ⟨_, List.getElem?_eq_getElem (by omega)⟩
      obtain ⟨b, o, da, dc, rfl, _, hc, _⟩ := IM4.out.at' k x hx
      have t0 : w17.cell? ⟨b, o + k * 4, none⟩ = some (.int .i64 x.tk) := hc 0 _ rfl
      by_cases hmx : x.tk = 9223372036854775807
      · have HALL := hid hall
        clear hall hc hx
        go_wp2
        go_ret
        exact ⟨rfl, K17.out⟩
      · have HALL : Hid (∀ i y, i < k + 1 → (mrg xa xb)[i]? = some y → y.tk ≠ 9223372036854775807) := fun i y hi hy => by
          by_cases e : i = k
          · subst e; rw [hx] at hy; injection hy with hy; rw [← hy]; exact hmx
          · exact hall i y (by omega) hy
        clear hall hc hx
        go_wp2
        refine ⟨⟨k + 1, by omega, by go_num, HALL.out, trivial⟩, ?_⟩
        simp [intOf]; omega
    · have hltz : ¬ (k : Int) < ((la + lb : Nat) : Int) := by omega
      have hltz2 : ¬ (k : Int) < (la : Int) + (lb : Int) := by omega
      have h6 : ∀ x ∈ mrg xa xb, -9223372036854775808 ≤ x.tk ∧ x.tk < 9223372036854775807 := fun x hx => by
        have h1 := IM4.out.t6 x hx
        obtain ⟨i, hi⟩ := List.getElem?_of_mem hx
        have h2 := hall i x (by have := (List.getElem?_eq_some_iff.1 hi).1; omega) hi
        unfold T6 at h1
        omega
      have EQ := hid (cut_mrg RM.out at' h6)
      have hn16 := I17.out.1.len
      have hn17 := I17.out.2.len
      have hsum : n16 + n17 = la + lb := by
        have := congrArg List.length EQ.out
        rw [mrg_len, hn16, hn17, ml] at this
        exact this
      have F1 : Hid (Calls Tryd.prog 15 #[.slice r16 n16 c16, .slice r17 n17 c17] w17 fun r w' => ∃ ra rc, r = .returned (.slice ra (la + lb) rc) ∧ Il w' An ra (la + lb) rc (mrg xa xb) ∧ Kept No w17 w') := (merge_any w17 I17.out.1 I17.out.2 (by omega)).mono (by
        rintro r w' ⟨ra', rc', rfl, h, k'⟩
        rw [EQ.out, hsum] at h
        exact ⟨ra', rc', by rw [hsum], h, k'⟩)
      have q16 := I17.out.1.cap
      have q16m := I17.out.1.max
      have q17 := I17.out.2.cap
      have q17m := I17.out.2.max
      clear hall h6 ml
      go_upto_region 19 with fail
      have Y : n16 = 0 ∨ ∃ k16 b6 o6 y, n16 = k16 + 1 ∧ r16 = some ⟨b6, o6, none⟩ ∧ Hid (w17.cell? ⟨b6, o6 + k16 * 4, none⟩ = some (.int .i64 y.tk)) ∧ Hid (Inp.tk y < at') := by
        by_cases e : n16 = 0
        · exact .inl e
        · obtain ⟨k16, rfl⟩ : ∃ k16, n16 = k16 + 1 := ⟨n16 - 1, by omega⟩
          obtain ⟨y, hy⟩ : ∃ y, (cutL (mrg xa xb) (-9223372036854775808) at')[k16]? = some y := ⟨_, List.getElem?_eq_getElem (by omega)⟩
          obtain ⟨b6, o6, _, _, e6, _, hc6, _⟩ := I17.out.1.at' k16 y hy
          exact .inr ⟨k16, b6, o6, y, rfl, e6, hc6 0 _ rfl, (cut_last hy).2⟩
      have Z : n17 = 0 ∨ ∃ b7 o7 z, 0 < n17 ∧ r17 = some ⟨b7, o7, none⟩ ∧ Hid (w17.cell? ⟨b7, o7, none⟩ = some (.int .i64 z.tk)) ∧ Hid (at' ≤ Inp.tk z) := by
        by_cases e : n17 = 0
        · exact .inl e
        · obtain ⟨z, hz⟩ : ∃ z, (cutL (mrg xa xb) at' 9223372036854775807)[0]? = some z := ⟨_, List.getElem?_eq_getElem (by omega)⟩
          obtain ⟨b7, o7, _, _, e7, _, hc7, _⟩ := I17.out.2.at' 0 z hz
          have h0 := hc7 0 _ rfl
          rw [Nat.zero_mul, Nat.add_zero] at h0
          exact .inr ⟨b7, o7, z, by omega, e7, h0, (cut_last hz).1⟩
      clear hn16 hn17 I17 hsum EQ hltz hltz2 hlt hk
      rcases Y with rfl | ⟨k16, b6, o6, y, rfl, rfl, ty0, hy⟩
      · rcases Z with rfl | ⟨b7, o7, z, p17, rfl, tz0, hz⟩
        · go_wp2_with (first
            | (go_at_call 15; refine F1.out.mono ?_; rintro r w18 ⟨r18, c18, rfl, il18, k18⟩; have K18 := hid k18; have F2 := hid (same_yes w18 il18 (IM4.out.keep k18) (by omega)); clear k18 F1 il18)
            | (go_at_call 11; refine F2.out.mono ?_; rintro r w19 ⟨rfl, k19⟩; have K19 := hid (K18.out.trans k19 (fun _ e => e.elim)); clear k19 F2 K18))
          go_ret
          exact ⟨rfl, K17.out.trans K19.out (fun _ e => e.elim)⟩
        · have p17z : ¬ ((n17 : Int) = 0) := by omega
          have p17n : ¬ (n17 = 0) := by omega
          go_wp2_with (first
            | (go_at_call 15; refine F1.out.mono ?_; rintro r w18 ⟨r18, c18, rfl, il18, k18⟩; have K18 := hid k18; have F2 := hid (same_yes w18 il18 (IM4.out.keep k18) (by omega)); clear k18 F1 il18)
            | (go_at_call 11; refine F2.out.mono ?_; rintro r w19 ⟨rfl, k19⟩; have K19 := hid (K18.out.trans k19 (fun _ e => e.elim)); have tz := K19.out.cell tz0.out (fun e => e); clear k19 F2 K18)
            | (refine l_take 108 rfl rfl (er_ix0 _ rfl b7 o7 n17 c17 rfl (by omega)) ?_)
            | (refine l_take 110 rfl rfl (er_ldi _ rfl b7 o7 (.int .i64 z.tk) rfl tz) ?_)
            | (refine l_take 112 rfl rfl (er_geq _ _ rfl z.tk at' true rfl rfl (decide_eq_true hz.out)) ?_))
          go_ret
          exact ⟨by show Ending.returned (Value.bool ((n17 : Int) == 0 || decide (at' ≤ z.tk))) = _; rw [decide_eq_true hz.out, Bool.or_true], K17.out.trans K19.out (fun _ e => e.elim)⟩
      · rcases Z with rfl | ⟨b7, o7, z, p17, rfl, tz0, hz⟩
        · go_wp2_with (first
            | (go_at_call 15; refine F1.out.mono ?_; rintro r w18 ⟨r18, c18, rfl, il18, k18⟩; have K18 := hid k18; have F2 := hid (same_yes w18 il18 (IM4.out.keep k18) (by omega)); clear k18 F1 il18)
            | (go_at_call 11; refine F2.out.mono ?_; rintro r w19 ⟨rfl, k19⟩; have K19 := hid (K18.out.trans k19 (fun _ e => e.elim)); have ty := K19.out.cell ty0.out (fun e => e); clear k19 F2 K18)
            | (refine l_take 94 rfl rfl (er_subN _ rfl k16 rfl (by omega)) ?_)
            | (refine l_take 95 rfl rfl (er_ixN _ _ rfl b6 o6 k16 (k16 + 1) c16 rfl rfl (by omega)) ?_)
            | (refine l_take 97 rfl rfl (er_ldi _ rfl b6 (o6 + k16 * 4) (.int .i64 y.tk) rfl ty) ?_)
            | (refine l_take 99 rfl rfl (er_lssI _ _ rfl y.tk at' true rfl rfl (decide_eq_true hy.out)) ?_))
          go_ret
          exact ⟨rfl, K17.out.trans K19.out (fun _ e => e.elim)⟩
        · have p17z : ¬ ((n17 : Int) = 0) := by omega
          have p17n : ¬ (n17 = 0) := by omega
          go_wp2_with (first
            | (go_at_call 15; refine F1.out.mono ?_; rintro r w18 ⟨r18, c18, rfl, il18, k18⟩; have K18 := hid k18; have F2 := hid (same_yes w18 il18 (IM4.out.keep k18) (by omega)); clear k18 F1 il18)
            | (go_at_call 11; refine F2.out.mono ?_; rintro r w19 ⟨rfl, k19⟩; have K19 := hid (K18.out.trans k19 (fun _ e => e.elim)); have ty := K19.out.cell ty0.out (fun e => e); have tz := K19.out.cell tz0.out (fun e => e); clear k19 F2 K18)
            | (refine l_take 94 rfl rfl (er_subN _ rfl k16 rfl (by omega)) ?_)
            | (refine l_take 95 rfl rfl (er_ixN _ _ rfl b6 o6 k16 (k16 + 1) c16 rfl rfl (by omega)) ?_)
            | (refine l_take 97 rfl rfl (er_ldi _ rfl b6 (o6 + k16 * 4) (.int .i64 y.tk) rfl ty) ?_)
            | (refine l_take 99 rfl rfl (er_lssI _ _ rfl y.tk at' true rfl rfl (decide_eq_true hy.out)) ?_)
            | (refine l_take 108 rfl rfl (er_ix0 _ rfl b7 o7 n17 c17 rfl (by omega)) ?_)
            | (refine l_take 110 rfl rfl (er_ldi _ rfl b7 o7 (.int .i64 z.tk) rfl tz) ?_)
            | (refine l_take 112 rfl rfl (er_geq _ _ rfl z.tk at' true rfl rfl (decide_eq_true hz.out)) ?_))
          go_ret
          exact ⟨by show Ending.returned (Value.bool ((n17 : Int) == 0 || decide (at' ≤ z.tk))) = _; rw [decide_eq_true hz.out, Bool.or_true], K17.out.trans K19.out (fun _ e => e.elim)⟩
end Go.Proofs.YtfdcmhbpnadcpaaDoor
