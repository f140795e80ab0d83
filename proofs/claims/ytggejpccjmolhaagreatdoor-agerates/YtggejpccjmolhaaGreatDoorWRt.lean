/-
  AgeRates: the walk.
-/
import Derived.Test.YtggejpccjmolhaaGreatDoorWFr
import Derived.Test.YtggejpccjmolhaaGreatDoorWBt
import Derived.BigQuiet
namespace Go.Proofs.YtggejpccjmolhaaGreatDoor
open Go.RowKit Plain
set_option linter.unusedVariables false
set_option linter.unusedSimpArgs false
set_option maxRecDepth 100000

theorem rm_mono {ps : List Po} {zs : List Int} {m n : Int} (h : n ≤ m) (hm : rmB ps zs m = true) : rmB ps zs n = true := by
  unfold rmB at *
  simp only [Bool.not_eq_true', List.any_eq_false, decide_eq_true_eq] at *
  intro x hx
  have := hm x hx
  omega
theorem rm_take {ps : List Po} {zs : List Int} {n : Int} {i : Nat} (hi : i < zs.length) : rmB ps (zs.take (i + 1)) n = (rmB ps (zs.take i) n && decide (n ≤ (poAt ps (zs.getD i 0)).dp)) := by
  unfold rmB
  rw [List.take_add_one, List.getElem?_eq_getElem hi]
  simp only [List.any_append, Option.toList_some, List.any_cons, List.any_nil, Bool.or_false, Bool.not_or]
  congr 1
  have : zs.getD i 0 = zs[i] := by simp [List.getD, hi]
  rw [this]
  by_cases h : n ≤ (poAt ps zs[i]).dp
  · rw [decide_eq_true h]; simp; omega
  · rw [decide_eq_false h]; simp; omega
/-- what the walk knows of the channel -/
structure Crr (x : Im) (i : Nat) (t : Int) : Prop where
  ck : chkF x = none
  il : i < x.chans.length
  kd : (x.chans.getD i dCh).kd = 1
  fr : (x.chans.getD i dCh).fr ≠ 0
  t0 : 0 ≤ t
  t1 : t ≤ 2001
theorem Crr.cn {x : Im} {i : Nat} {t : Int} (h : Crr x i t) : cnB x.chans ((i : Int) + 1) = true := by
  unfold cnB
  rw [chNo_at _ _ h.il, h.kd]
  have hB : inB ((i : Int) + 1) 1 x.chans.length = true := by unfold inB; simp only [Bool.and_eq_true, decide_eq_true_eq]; have := h.il; omega
  rw [hB, bne_iff_ne.2 h.fr]; rfl
theorem Crr.tm {x : Im} {i : Nat} {t : Int} (h : Crr x i t) : 1 ≤ (x.chans.getD i dCh).pe ∧ (x.chans.getD i dCh).pe ≤ 1048576 ∧ 0 ≤ (x.chans.getD i dCh).ph := by
  obtain ⟨a, b, c, _⟩ := (ch_facts h.ck h.il).2.2 h.kd h.fr
  exact ⟨a, b, c⟩
theorem Crr.rt {x : Im} {i : Nat} {t : Int} (h : Crr x i t) : rtB x.chans ((i : Int) + 1) t = true ∧ rtV x.chans ((i : Int) + 1) t = countV 0 (x.chans.getD i dCh).pe 0 t := by
  have hc := h.cn
  have hb : inB t 0 1099511627776 = true := by unfold inB; simp only [Bool.and_eq_true, decide_eq_true_eq]; have := h.t0; have := h.t1; omega
  have hp := h.tm.1
  unfold rtB rtV
  rw [hc, hb, chNo_at _ _ h.il]
  refine ⟨?_, rfl⟩
  simp only [Bool.true_and]
  unfold countB
  rw [if_neg (by omega)]
theorem Crr.sf {x : Im} {i : Nat} {t : Int} (h : Crr x i t) : sfB x ((i : Int) + 1) t = rmB x.ports (x.chans.getD i dCh).dst (countV 0 (x.chans.getD i dCh).pe 0 t) := by
  unfold sfB
  rw [h.rt.1, h.rt.2, chNo_at _ _ h.il, Bool.true_and]

set_option maxHeartbeats 32000000 in
theorem rates_law {F : Nat → Prop} {a0 : Option Addr} {n0 c0 : Nat} {a1 : Option Addr} {n1 c1 : Nat} {a2 : Option Addr} {n2 c2 : Nat} {x : Im} (k t f : Int) (w : World) (hg : Gl w) (h : Img w F a0 n0 c0 a1 n1 c1 a2 n2 c2 x) (hk6 : -9223372036854775808 ≤ k ∧ k ≤ 9223372036854775807) :
    Calls Tryz.prog 4 #[.agg #[.slice a0 n0 c0, .slice a1 n1 c1, .slice a2 n2 c2], .int .i64 k, .int .i64 t, .int .i64 f] w fun e w' => e = .returned (.bool true) ∧ Kept No w w' := by
  obtain ⟨K0, HM0⟩ := imb w (.slice a0 n0 c0) (.slice a1 n1 c1) (.slice a2 n2 c2)
  obtain ⟨m0, m1, m2, _⟩ := HM0 _ (Kept.refl _ _)
  have hlen := h.cs.len
  have hn2 : n2 ≤ 9223372036854775807 := Nat.le_trans h.cs.cap h.cs.max
  have HK0 := hid K0
  have HM := hid HM0
  have cK : Hid (∀ W, Kept No w W → Calls Tryz.prog 6 #[.agg #[.slice a0 n0 c0, .slice a1 n1 c1, .slice a2 n2 c2]] W fun e w' => e = .returned (.tuple #[.int .i64 (fe (chkF x)), .int .i64 (fn (chkF x))]) ∧ Kept No W w') := fun W kw => rck_any W (h.kept kw (fun _ _ h => h))
  have cL : Hid (∀ W, Kept No w W → Calls Tryz.prog 7 #[] W fun e w' => e = .returned (.bool true) ∧ Kept No W w') := fun W kw => lives_yes W (hg.kept kw)
  have cR : Hid (∀ W, Kept No w W → Calls Tryz.prog 8 #[.agg #[.slice a0 n0 c0, .slice a1 n1 c1, .slice a2 n2 c2], .int .i64 k, .int .i64 t] W fun e w' => e = .returned (.tuple #[.int .i64 (askN (fe (chkF x)) (rtB x.chans k t) (rtV x.chans k t)), .int .i64 (askE (fe (chkF x)) (rtB x.chans k t))]) ∧ Kept No W w') := fun W kw => ageRate_any k t W (hg.kept kw) (h.kept kw (fun _ _ h => h)) hk6
  have cS : Hid (∀ W (u : Int), Kept No w W → Calls Tryz.prog 9 #[.agg #[.slice a0 n0 c0, .slice a1 n1 c1, .slice a2 n2 c2], .int .i64 k, .int .i64 u] W fun e w' => e = .returned (.tuple #[.bool (askB (fe (chkF x)) (rtB x.chans k u) (sfB x k u)), .int .i64 (askE (fe (chkF x)) (rtB x.chans k u))]) ∧ Kept No W w') := fun W u kw => ageSafe_any k u W (hg.kept kw) (h.kept kw (fun _ _ h => h)) hk6
  have HI : Hid (Img w F a0 n0 c0 a1 n1 c1 a2 n2 c2 x) := h
  have HN : Hid (fe (chkF x) = 0 → chkF x = none) := chk_none
  obtain ⟨er, her⟩ : ∃ er, er = fe (chkF x) := ⟨_, rfl⟩
  rw [← her] at cK cR cS HN
  generalize fn (chkF x) = q at *
  have HLEN := hid hlen
  clear hg h K0 HM0 her hlen
  obtain ⟨A, hA⟩ : ∃ A : Bool, A = !(decide (er = 0) && (inB k 1 n2 && (inB t 0 2000 && inB f 0 5000))) := ⟨_, rfl⟩
  have HA := hid hA
  clear hA
  go_enter Tryz.func4, Tryz.ntmps4
  go_upto_region 2 with (go_at_call 6; refine (cK.out _ HK0.out).mono ?_; rintro e w2 ⟨rfl, k2⟩; have K2 := hid (HK0.out.trans k2 (fun _ h => h.elim)); have KB2 := hid k2; obtain ⟨j0, j1, j2, _⟩ := HM.out _ k2; clear k2)
  clear m0 m1 m2
  go_cut [55] (fun v wx => v = .bool A ∧ wx = w2)
  case first =>
    as_aux_lemma =>
    by_cases he : er = 0
    · have HA1 : Hid (A = !(inB k 1 n2 && (inB t 0 2000 && inB f 0 5000))) := by
        show _ = _
        rw [HA.out, decide_eq_true he, Bool.true_and]
      have g0 : (er != 0) = false := by simpa using he
      clear he
      by_cases h0 : k < 1
      · have hA2 : A = true := by
          rw [HA1.out]; unfold inB; simp; omega
        subst hA2
        have e0 : decide (k < 1) = true := by simpa using h0
        go_wp2
        go_meet
        exact ⟨rfl, rfl⟩
      · have e0 : decide (k < 1) = false := by simpa using h0
        by_cases h1 : (n2 : Int) < k
        · have hA2 : A = true := by
            rw [HA1.out]; unfold inB; simp; omega
          subst hA2
          have e1 : decide ((n2 : Int) < k) = true := by simpa using h1
          go_wp2
          go_meet
          exact ⟨rfl, rfl⟩
        · have e1 : decide ((n2 : Int) < k) = false := by simpa using h1
          by_cases h2 : t < 0
          · have hA2 : A = true := by
              rw [HA1.out]; unfold inB; simp; omega
            subst hA2
            have e2 : decide (t < 0) = true := by simpa using h2
            go_wp2
            go_meet
            exact ⟨rfl, rfl⟩
          · have e2 : decide (t < 0) = false := by simpa using h2
            by_cases h3 : 2000 < t
            · have hA2 : A = true := by
                rw [HA1.out]; unfold inB; simp; omega
              subst hA2
              have e3 : decide (2000 < t) = true := by simpa using h3
              go_wp2
              go_meet
              exact ⟨rfl, rfl⟩
            · have e3 : decide (2000 < t) = false := by simpa using h3
              by_cases h4 : f < 0
              · have hA2 : A = true := by
                  rw [HA1.out]; unfold inB; simp; omega
                subst hA2
                have e4 : decide (f < 0) = true := by simpa using h4
                go_wp2
                go_meet
                exact ⟨rfl, rfl⟩
              · have e4 : decide (f < 0) = false := by simpa using h4
                by_cases h5 : 5000 < f
                · have hA2 : A = true := by
                    rw [HA1.out]; unfold inB; simp; omega
                  subst hA2
                  have e5 : decide (5000 < f) = true := by simpa using h5
                  go_wp2
                  go_meet
                  exact ⟨rfl, rfl⟩
                · have e5 : decide (5000 < f) = false := by simpa using h5
                  have hA2 : A = false := by
                    rw [HA1.out]; unfold inB; simp; omega
                  subst hA2
                  go_wp2
                  go_meet
                  exact ⟨rfl, rfl⟩
    · have g0 : (er != 0) = true := by simpa using he
      have hA2 : A = true := by rw [HA.out]; simp [he]
      subst hA2
      go_wp2
      go_meet
      exact ⟨rfl, rfl⟩
  case rest =>
  obtain ⟨rfl, hw⟩ := hcut
  obtain rfl := hw.symm
  clear hw
  cases A
  · have hA3 : er = 0 ∧ (1 ≤ k ∧ k ≤ n2) ∧ (0 ≤ t ∧ t ≤ 2000) ∧ (0 ≤ f ∧ f ≤ 5000) := by
      have := HA.out
      unfold inB at this
      simp only [Bool.false_eq, Bool.not_eq_false', Bool.and_eq_true, decide_eq_true_eq] at this
      exact this
    obtain ⟨rfl, ⟨hk1, hk2⟩, ⟨ht0, ht1⟩, hf0, hf1⟩ := hA3
    have hck := hid (HN.out rfl)
    obtain ⟨i, rfl⟩ : ∃ i : Nat, k = i + 1 := ⟨(k - 1).toNat, by omega⟩
    have hil : i < x.chans.length := by rw [HLEN.out]; omega
    have hin : i < n2 := by omega
    have hx : x.chans[i]? = some (x.chans.getD i dCh) := by rw [List.getD, List.getElem?_eq_getElem hil]; rfl
    obtain ⟨bb, oo, ds, rfl, _, _, hr, hEl⟩ := HI.out.cs.at' i _ hx
    obtain ⟨ta, tn, tc, rfl, hT⟩ := hEl.sl
    have HT := hid hT
    have htn := hT.len
    have htm : tn ≤ 9223372036854775807 := Nat.le_trans hT.cap hT.max
    have r0 := K2.out.cell (hr 0 _ rfl) (fun h => h)
    have r1 := K2.out.cell (hr 1 _ rfl) (fun h => h)
    have r2 := K2.out.cell (hr 2 _ rfl) (fun h => h)
    have r3 := K2.out.cell (hr 3 _ rfl) (fun h => h)
    have r4 := K2.out.cell (hr 4 _ rfl) (fun h => h)
    rw [Nat.add_zero] at r0
    have HF : Hid (∀ (hk : (x.chans.getD i dCh).kd = 1) (hf : (x.chans.getD i dCh).fr ≠ 0) (u : Int), 0 ≤ u → u ≤ 2001 → Crr x i u) := fun hk hf u h0 h1 => ⟨hck.out, hil, hk, hf, h0, h1⟩
    have HD : Hid (∀ y ∈ (x.chans.getD i dCh).dst, 1 ≤ y ∧ y ≤ n1) := by
      have := (ch_facts hck.out hil).1
      rw [HI.out.qs.len] at this
      exact this
    have HP : Hid (Ls 6 elPo w F a1 n1 c1 x.ports) := HI.out.qs
    have HNC : Hid (cnB x.chans ((i : Int) + 1) = ((x.chans.getD i dCh).kd == 1 && (x.chans.getD i dCh).fr != 0)) := by
      show _ = _
      unfold cnB
      rw [chNo_at _ _ hil, show inB ((i : Int) + 1) 1 x.chans.length = true by unfold inB; simp only [Bool.and_eq_true, decide_eq_true_eq]; omega, Bool.true_and]
    obtain ⟨z, hz⟩ : ∃ z, z = x.chans.getD i dCh := ⟨_, rfl⟩
    rw [← hz] at r0 r1 r3 r4 htn HT HF HD HNC
    have HZ := hid hz
    have hi2 : (i : Int) < (n2 : Int) := by omega
    have hix : wrap64 ((i : Int) + 1 - 1) = (i : Int) := by unfold wrap64; omega
    have HKN := hid (And.intro hk1 (And.intro hk2 hil))
    clear hz hx hr hEl hT HI HN HA hk1 hk2 hil cK
    obtain ⟨z0, z1, z2, z3, z4⟩ := z
    simp only at r0 r1 r3 r4 htn HT HF HD HNC
    go_upto_region 5 with fail
    have HB : Hid (∀ U, Kept No (w2.alloc (.cells #[.int .i64 z0, .int .i64 z1, .slice ta tn tc, .int .i64 z3, .int .i64 z4] 34)) U → Kept No w U ∧ Bk U w2.heap.size [.int .i64 z0, .int .i64 z1, .slice ta tn tc, .int .i64 z3, .int .i64 z4] 34 ∧ U.cell? ⟨w.heap.size, 0, none⟩ = some (.slice a0 n0 c0) ∧ U.cell? ⟨w.heap.size, 1, none⟩ = some (.slice a1 n1 c1) ∧ U.cell? ⟨w.heap.size, 2, none⟩ = some (.slice (some ⟨bb, oo, none⟩) n2 c2)) := fun U kU => by
      have b := (bk_push w2 [.int .i64 z0, .int .i64 z1, .slice ta tn tc, .int .i64 z3, .int .i64 z4] 34).kept kU (fun h => h)
      have kk := ((Kept.refl No w2).alloc (.cells #[.int .i64 z0, .int .i64 z1, .slice ta tn tc, .int .i64 z3, .int .i64 z4] 34)).trans kU (fun _ h => h.elim)
      obtain ⟨q0, q1, q2, _⟩ := HM.out U (KB2.out.trans kk (fun _ h => h.elim))
      exact ⟨K2.out.trans kk (fun _ h => h.elim), b, q0, q1, q2⟩
    generalize w2.alloc (.cells #[.int .i64 z0, .int .i64 z1, .slice ta tn tc, .int .i64 z3, .int .i64 z4] 34) = w4 at *
    generalize w2.heap.size = g at *
    clear r0 r1 r2 r3 r4 j0 j1 j2
    obtain ⟨K4, B4, m0, m1, m2⟩ := HB.out w4 (Kept.refl _ _)
    have k0 := B4.cell (j := 0) rfl
    have k1 := B4.cell (j := 1) rfl
    have k2 := B4.cell (j := 2) rfl
    have k3 := B4.cell (j := 3) rfl
    have k4 := B4.cell (j := 4) rfl
    have HK4 := hid K4
    clear K4 B4 HM KB2 K2
    by_cases hz0 : z0 = 1
    · by_cases hz1 : z1 = 0
      · -- no port that it comes from
        have hcn : cnB x.chans ((i : Int) + 1) = false := by rw [HNC.out, hz1]; simp
        have hE : askE 0 (rtB x.chans ((i : Int) + 1) t) = 2 := by unfold rtB; rw [hcn]; rfl
        have cR2 := cR.out
        rw [hE] at cR2
        have cR3 := hid cR2
        generalize askN 0 (rtB x.chans ((i : Int) + 1) t) (rtV x.chans ((i : Int) + 1) t) = V at *
        clear hE hcn cR2 cR cS HF HNC
        have g0 : (z0 != 1) = false := by simpa using hz0
        have g0' : (z0 == 1) = true := by simpa using hz0
        have g1 : (z1 == 0) = true := by simpa using hz1
        have g1' : (z1 != 0) = false := by simpa using hz1
        clear hz0 hz1
        go_upto_region 7 with (go_at_call 8; refine (cR3.out _ HK4.out).mono ?_; rintro e w5 ⟨rfl, k5⟩; have K5 := hid (HK4.out.trans k5 (fun _ h => h.elim)); obtain ⟨_, B5, _, _, _⟩ := HB.out w5 k5; have k0 := B5.cell (j := 0) rfl; have k1 := B5.cell (j := 1) rfl; clear B5 k5)
        go_wp2_with (go_at_call 7; refine (cL.out _ K5.out).mono ?_; rintro e wz ⟨rfl, kz⟩; have KZ := hid (K5.out.trans kz (fun _ h => h.elim)); clear kz)
        go_ret
        exact ⟨rfl, KZ.out⟩
      · by_cases hz3 : 5000 < z3
        · have g0 : (z0 != 1) = false := by simpa using hz0
          have g0' : (z0 == 1) = true := by simpa using hz0
          have g1 : (z1 == 0) = false := by simpa using hz1
          have g1' : (z1 != 0) = true := by simpa using hz1
          have g3 : decide (5000 < z3) = true := by simpa using hz3
          have cR3 := cR
          generalize askN 0 (rtB x.chans ((i : Int) + 1) t) (rtV x.chans ((i : Int) + 1) t) = V at *
          generalize askE 0 (rtB x.chans ((i : Int) + 1) t) = E at *
          clear hz0 hz1 cS HF HNC cR
          go_upto_region 7 with (go_at_call 8; refine (cR3.out _ HK4.out).mono ?_; rintro e w5 ⟨rfl, k5⟩; have K5 := hid (HK4.out.trans k5 (fun _ h => h.elim)); obtain ⟨_, B5, _, _, _⟩ := HB.out w5 k5; have k0 := B5.cell (j := 0) rfl; have k1 := B5.cell (j := 1) rfl; clear B5 k5)
          go_wp2
          go_ret
          exact ⟨rfl, K5.out⟩
        · have hC := HF.out hz0 hz1
          have hC0 := hC t ht0 (by omega)
          have hC1 := hC (t + 1) (by omega) (by omega)
          have htm4 := hC0.tm
          have hrt0 := hC0.rt
          have hrt1 := hC1.rt
          have hsf0 := hC0.sf
          have hsf1 := hC1.sf
          rw [← HZ.out] at htm4 hrt0 hrt1 hsf0 hsf1
          simp only at htm4 hrt0 hrt1 hsf0 hsf1
          obtain ⟨hp1, hp2, ho1⟩ := htm4
          have cR2 := cR.out
          rw [hrt0.1, hrt0.2] at cR2
          have cS0 : ∀ W, Kept No w W → _ := fun W kw => cS.out W t kw
          rw [hrt0.1, hsf0] at cS0
          have cS1 : ∀ W, Kept No w W → _ := fun W kw => cS.out W (t + 1) kw
          rw [hrt1.1, hsf1] at cS1
          have hm := cnt_mono z4 t (t + 1) hp1 ht0 (by omega)
          have hq1 := cnt_most z3 z4 f t ho1 hp1 ht0
          have hq2 := cnt_at_phase z3 z4 t ho1 hp1 ht0
          have hN0 := (count_bd 0 z4 0 t (Int.le_refl _) hp1 (by omega)).1
          obtain ⟨S1, hS1⟩ : ∃ S1, S1 = f + t := ⟨_, rfl⟩
          obtain ⟨S2, hS2⟩ : ∃ S2, S2 = z3 + t := ⟨_, rfl⟩
          obtain ⟨S3, hS3⟩ : ∃ S3, S3 = t + 1 := ⟨_, rfl⟩
          have cB1 : Hid (∀ W, Kept No w W → Calls Tryz.prog 10 #[.agg #[.int .i64 z0, .int .i64 z1, .slice ta tn tc, .int .i64 z3, .int .i64 z4], .int .i64 f, .int .i64 S1] W fun e w' => e = .returned (.int .i64 (countV z3 z4 f (f + t))) ∧ Kept No W w') := fun W kw => by
            rw [hS1]; exact betw_any z0 z1 ta tn tc z3 z4 f (f + t) W ho1 (by omega) hp1 hp2 hf0 (by omega) (by omega)
          have cB2 : Hid (∀ W, Kept No w W → Calls Tryz.prog 10 #[.agg #[.int .i64 z0, .int .i64 z1, .slice ta tn tc, .int .i64 z3, .int .i64 z4], .int .i64 z3, .int .i64 S2] W fun e w' => e = .returned (.int .i64 (countV 0 z4 0 t)) ∧ Kept No W w') := fun W kw => by
            rw [hS2, ← hq2]; exact betw_any z0 z1 ta tn tc z3 z4 z3 (z3 + t) W ho1 (by omega) hp1 hp2 ho1 (by omega) (by omega)
          have w1 : wrap64 (f + t) = S1 := by rw [hS1]; unfold wrap64; omega
          have w2' : wrap64 (z3 + t) = S2 := by rw [hS2]; unfold wrap64; omega
          have w3 : wrap64 (t + 1) = S3 := by rw [hS3]; unfold wrap64; omega
          have HPC : Hid (∀ U (y : Int), Kept No w U → y ∈ z2 → ∃ (j : Nat) (b o : Nat), y = (j : Int) + 1 ∧ j < n1 ∧ n1 ≤ 9223372036854775807 ∧ a1 = some ⟨b, o, none⟩ ∧ U.cell? ⟨b, o + j * 6 + 4, none⟩ = some (.int .i64 (poAt x.ports y).dp)) := fun U y kU hy => by
            obtain ⟨y1, y2⟩ := HD.out y hy
            obtain ⟨j, b, o, e1, e2, e3, _, _, _, _, _, e4, _⟩ := po_at (HP.out.kept kU (fun _ _ h => h) (elPo_kept kU (fun _ _ h => h))) y1 y2
            exact ⟨j, b, o, e1, e2, Nat.le_trans HP.out.cap HP.out.max, e3, e4⟩
          have HTC : Hid (∀ U (j : Nat), Kept No w U → j < tn → ∃ b o, ta = some ⟨b, o, none⟩ ∧ U.cell? ⟨b, o + j, none⟩ = some (.int .i64 (z2.getD j 0)) ∧ z2.getD j 0 ∈ z2) := fun U j kU hj => by
            have hjl : j < z2.length := by omega
            have hxx : z2[j]? = some (z2.getD j 0) := by rw [List.getD, List.getElem?_eq_getElem hjl]; rfl
            obtain ⟨b, o, cs, e, _, _, hrr, hEE⟩ := HT.out.at' j _ hxx
            have hcs : cs = [.int .i64 (z2.getD j 0)] := hEE.1
            subst hcs
            have := kU.cell (hrr 0 _ rfl) (fun h => h)
            rw [Nat.mul_one, Nat.add_zero] at this
            exact ⟨b, o, e, this, List.mem_of_getElem? hxx⟩
          have g0 : (z0 != 1) = false := by simpa using hz0
          have g1 : (z1 == 0) = false := by simpa using hz1
          have g3 : decide (5000 < z3) = false := by simpa using hz3
          have hmore : Hid (rmB x.ports z2 (countV 0 z4 0 (t + 1)) = true → rmB x.ports z2 (countV 0 z4 0 t) = true) := fun hh => rm_mono hm hh
          have HLZ : Hid (z2.length = tn) := htn
          generalize rmB x.ports z2 (countV 0 z4 0 (t + 1)) = more at *
          rw [← hS3] at cS1
          obtain ⟨N, hN⟩ : ∃ N, N = countV 0 z4 0 t := ⟨_, rfl⟩
          rw [← hN] at cR2 cS0 cB2 hmore hq1 hN0
          generalize countV z3 z4 f (f + t) = Q at *
          obtain ⟨room, hroom⟩ : ∃ room, room = rmB x.ports z2 N := ⟨_, rfl⟩
          rw [← hroom] at cS0 hmore
          have HRM := hid hroom
          have cR3 : Hid (∀ W, Kept No w W → Calls Tryz.prog 8 #[.agg #[.slice a0 n0 c0, .slice a1 n1 c1, .slice (some ⟨bb, oo, none⟩) n2 c2], .int .i64 ((i : Int) + 1), .int .i64 t] W fun e w' => e = .returned (.tuple #[.int .i64 N, .int .i64 0]) ∧ Kept No W w') := cR2
          have cS2 : Hid (∀ W, Kept No w W → Calls Tryz.prog 9 #[.agg #[.slice a0 n0 c0, .slice a1 n1 c1, .slice (some ⟨bb, oo, none⟩) n2 c2], .int .i64 ((i : Int) + 1), .int .i64 t] W fun e w' => e = .returned (.tuple #[.bool room, .int .i64 0]) ∧ Kept No W w') := cS0
          have cS3 : Hid (∀ W, Kept No w W → Calls Tryz.prog 9 #[.agg #[.slice a0 n0 c0, .slice a1 n1 c1, .slice (some ⟨bb, oo, none⟩) n2 c2], .int .i64 ((i : Int) + 1), .int .i64 S3] W fun e w' => e = .returned (.tuple #[.bool more, .int .i64 0]) ∧ Kept No W w') := cS1
          have gq1 : decide (N < Q) = false := by simp only [decide_eq_false_iff_not]; omega
          have gq2 : (N != N) = false := by simp
          clear hz0 hz1 hz3 cS HF HNC cR hC hC0 hC1 hrt0 hrt1 hsf0 hsf1 cR2 cS0 cS1 hm hq2 hS1 hS2 hS3 HD HP HT hq1 hN htn hroom hp1 hp2 ho1 hN0 ht0 ht1 hf0 hf1
          go_upto_region 9 with (go_at_call 8; refine (cR3.out _ HK4.out).mono ?_; rintro e w5 ⟨rfl, k5⟩; have K5 := hid (HK4.out.trans k5 (fun _ h => h.elim)); have KB5 := hid k5; obtain ⟨_, B5, m0, m1, m2⟩ := HB.out w5 k5; have k0 := B5.cell (j := 0) rfl; have k1 := B5.cell (j := 1) rfl; have k2 := B5.cell (j := 2) rfl; have k3 := B5.cell (j := 3) rfl; have k4 := B5.cell (j := 4) rfl; clear B5 k5)
          go_upto_region 10 with (go_at_call 9; refine (cS2.out _ K5.out).mono ?_; rintro e w6 ⟨rfl, k6⟩; have K6 := hid (K5.out.trans k6 (fun _ h => h.elim)); have KB6 := hid (KB5.out.trans k6 (fun _ h => h.elim)); obtain ⟨_, B6, m0, m1, m2⟩ := HB.out w6 KB6.out; have k0 := B6.cell (j := 0) rfl; have k1 := B6.cell (j := 1) rfl; have k2 := B6.cell (j := 2) rfl; have k3 := B6.cell (j := 3) rfl; have k4 := B6.cell (j := 4) rfl; clear B6 k6)
          go_upto_region 12 with (first
            | (go_at_call 10; refine (cB1.out _ K6.out).mono ?_; clear cB1; rintro e w7 ⟨rfl, k7⟩; have K7 := hid (K6.out.trans k7 (fun _ h => h.elim)); have KB7 := hid (KB6.out.trans k7 (fun _ h => h.elim)); obtain ⟨_, B6, m0, m1, m2⟩ := HB.out w7 KB7.out; have k0 := B6.cell (j := 0) rfl; have k1 := B6.cell (j := 1) rfl; have k2 := B6.cell (j := 2) rfl; have k3 := B6.cell (j := 3) rfl; have k4 := B6.cell (j := 4) rfl; clear B6 k7)
            | (go_at_call 10; refine (cB2.out _ K7.out).mono ?_; clear cB2; rintro e w8 ⟨rfl, k8⟩; have K8 := hid (K7.out.trans k8 (fun _ h => h.elim)); have KB8 := hid (KB7.out.trans k8 (fun _ h => h.elim)); clear k8))
          clear gq1 gq2 w1 w2' g0 g1 g3 m0 m1 m2 k0 k1 k2 k3 k4
          go_wp2
          go_loopw [18, 19] (fun rm iv wr => ∃ (v : Bool) (j : Nat), rm = .bool v ∧ v = rmB x.ports (z2.take j) N ∧ iv = .int .i64 j ∧ j ≤ tn ∧ Kept No w8 wr) (fun _ iv _ => tn - (intOf iv).toNat)
          case atStart => exact ⟨true, 0, rfl, by rw [List.take_zero]; rfl, rfl, Nat.zero_le _, Kept.refl _ _⟩
          case round =>
            obtain ⟨v, j, rfl, hv, rfl, hj, K⟩ := hrel
            have HV := hid hv
            have HKr := hid K
            have HKX := hid (K8.out.trans K (fun _ h => h.elim))
            obtain ⟨_, B6, m0, m1, m2⟩ := HB.out wr (KB8.out.trans K (fun _ h => h.elim))
            have k2 := B6.cell (j := 2) rfl
            clear hv K B6
            by_cases hjl : j < tn
            · have hj2 : (j : Int) < (tn : Int) := by omega
              have HST := hid (rm_take (ps := x.ports) (n := N) (show j < z2.length by rw [HLZ.out]; exact hjl))
              have HJ := hid hjl
              cases v
              · have HF := hid (show false = rmB x.ports (z2.take (j + 1)) N by rw [HST.out, ← HV.out]; rfl)
                clear hj hjl
                go_upto_region 16 with fail
                go_quiet (fail)
                go_wp2
                go_roundw
                case rel => exact ⟨false, j + 1, rfl, HF.out, by go_num, HJ.out, HKr.out.drewN _⟩
                case measure => have := HJ.out; simp [intOf]; omega
              · obtain ⟨tb, to', rfl, hc, hmem⟩ := HTC.out wr j HKX.out hjl
                obtain ⟨y, hy⟩ : ∃ y, y = z2.getD j 0 := ⟨_, rfl⟩
                rw [← hy] at hc hmem HST
                obtain ⟨p, pb, po, rfl, hp1, hp2, rfl, hpc⟩ := HPC.out wr y HKX.out hmem
                have hpi : (p : Int) < (n1 : Int) := by omega
                have hpw : wrap64 ((p : Int) + 1 - 1) = (p : Int) := by unfold wrap64; omega
                obtain ⟨d, hd⟩ : ∃ d, d = (poAt x.ports ((p : Int) + 1)).dp := ⟨_, rfl⟩
                rw [← hd] at hpc HST
                clear hj hjl hmem hd hy
                by_cases hle : N ≤ d
                · have HF := hid (show true = rmB x.ports (z2.take (j + 1)) N by rw [HST.out, ← HV.out, decide_eq_true hle]; rfl)
                  have gd : decide (N ≤ d) = true := by simpa using hle
                  go_upto_region 16 with fail
                  go_quiet (fail)
                  go_wp2
                  go_roundw
                  case rel => exact ⟨true, j + 1, rfl, HF.out, by go_num, HJ.out, HKr.out.drewN _⟩
                  case measure => have := HJ.out; simp [intOf]; omega
                · have HF := hid (show false = rmB x.ports (z2.take (j + 1)) N by rw [HST.out, ← HV.out, decide_eq_false hle]; rfl)
                  have gd : decide (N ≤ d) = false := by simpa using hle
                  go_upto_region 16 with fail
                  go_quiet (fail)
                  go_wp2
                  go_roundw
                  case rel => exact ⟨false, j + 1, rfl, HF.out, by go_num, HJ.out, HKr.out.drewN _⟩
                  case measure => have := HJ.out; simp [intOf]; omega
            · have hjn : j = tn := by omega
              subst hjn
              have hvr : v = room := by rw [HV.out, HRM.out, List.take_of_length_le (by rw [HLZ.out]; exact Nat.le_refl _)]
              subst hvr
              have hrr : (v == v) = true := by simp
              clear hj hjl HV HRM HTC HPC
              cases more
              · go_wp2_with (first
                  | (go_at_call 9; refine (cS3.out _ HKX.out).mono ?_; rintro e w9 ⟨rfl, k9⟩; have K9 := hid (HKX.out.trans k9 (fun _ h => h.elim)); clear k9)
                  | (go_at_call 7; refine (cL.out _ K9.out).mono ?_; rintro e wz ⟨rfl, kz⟩; have KZ := hid (K9.out.trans kz (fun _ h => h.elim)); clear kz))
                go_ret
                exact ⟨rfl, KZ.out⟩
              · have hvt : v = true := hmore.out rfl
                subst hvt
                go_wp2_with (first
                  | (go_at_call 9; refine (cS3.out _ HKX.out).mono ?_; rintro e w9 ⟨rfl, k9⟩; have K9 := hid (HKX.out.trans k9 (fun _ h => h.elim)); clear k9)
                  | (go_at_call 7; refine (cL.out _ K9.out).mono ?_; rintro e wz ⟨rfl, kz⟩; have KZ := hid (K9.out.trans kz (fun _ h => h.elim)); clear kz))
                go_ret
                exact ⟨rfl, KZ.out⟩
    · have hcn : cnB x.chans ((i : Int) + 1) = false := by rw [HNC.out]; simp [hz0]
      have hE : askE 0 (rtB x.chans ((i : Int) + 1) t) = 2 := by unfold rtB; rw [hcn]; rfl
      have cR2 := cR.out
      rw [hE] at cR2
      have cR3 := hid cR2
      generalize askN 0 (rtB x.chans ((i : Int) + 1) t) (rtV x.chans ((i : Int) + 1) t) = V at *
      clear hE hcn cR2 cR cS HF HNC
      have g0 : (z0 != 1) = true := by simpa using hz0
      have g0' : (z0 == 1) = false := by simpa using hz0
      clear hz0
      go_upto_region 7 with (go_at_call 8; refine (cR3.out _ HK4.out).mono ?_; rintro e w5 ⟨rfl, k5⟩; have K5 := hid (HK4.out.trans k5 (fun _ h => h.elim)); obtain ⟨_, B5, _, _, _⟩ := HB.out w5 k5; have k0 := B5.cell (j := 0) rfl; have k1 := B5.cell (j := 1) rfl; clear B5 k5)
      go_wp2_with (go_at_call 7; refine (cL.out _ K5.out).mono ?_; rintro e wz ⟨rfl, kz⟩; have KZ := hid (K5.out.trans kz (fun _ h => h.elim)); clear kz)
      go_ret
      exact ⟨rfl, KZ.out⟩
  · clear cS cR cK HI HN
    go_wp2_with (go_at_call 7; refine (cL.out _ K2.out).mono ?_; rintro e wz ⟨rfl, kz⟩; have KZ := hid (K2.out.trans kz (fun _ h => h.elim)); clear kz)
    go_ret
    exact ⟨rfl, KZ.out⟩
end Go.Proofs.YtggejpccjmolhaaGreatDoor
