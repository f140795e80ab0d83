/-
  AgeFresh: the walk.
-/
import Derived.Test.YtggejpccjmolhaaGreatDoorWLv
import Derived.Deep.RegionWith
import Derived.Deep.DeepCutAuto
import Derived.Deep.CutBlock
namespace Go.Proofs.YtggejpccjmolhaaGreatDoor
open Go.RowKit Plain
set_option linter.unusedVariables false
set_option linter.unusedSimpArgs false
set_option maxRecDepth 100000

theorem img_code {w : World} {F : Nat → Prop} {a0 : Option Addr} {n0 c0 : Nat} {a1 : Option Addr} {n1 c1 : Nat} {a2 : Option Addr} {n2 c2 : Nat} {x : Im} (h : Img w F a0 n0 c0 a1 n1 c1 a2 n2 c2 x) : ∀ y ∈ x.parts, y.code.length ≤ 9223372036854775807 := by
  intro y hy
  obtain ⟨i, hi⟩ := List.getElem?_of_mem hy
  obtain ⟨b, o, cs, _, _, _, _, hE⟩ := h.ps.at' i y hi
  obtain ⟨_, _, _, a, n, c, _, _, _, _, _, _, _, _, _, _, _, _, _, _, hc, _⟩ := hE.sl
  have := hc.len
  have := hc.cap
  have := hc.max
  omega
theorem rck_any {F : Nat → Prop} {a0 : Option Addr} {n0 c0 : Nat} {a1 : Option Addr} {n1 c1 : Nat} {a2 : Option Addr} {n2 c2 : Nat} {x : Im} (w : World) (h : Img w F a0 n0 c0 a1 n1 c1 a2 n2 c2 x) :
    Calls Tryz.prog 6 #[.agg #[.slice a0 n0 c0, .slice a1 n1 c1, .slice a2 n2 c2]] w fun e w' => e = .returned (.tuple #[.int .i64 (fe (chkF x)), .int .i64 (fn (chkF x))]) ∧ Kept No w w' := by
  have := rCheck_any F a0 n0 c0 a1 n1 c1 a2 n2 c2 x w h
  rw [rck_chk (img_code h)] at this
  exact this
theorem askE_no {er : Int} {b : Bool} (h : ¬ (er = 0 ∧ b = true)) : askE er b ≠ 0 := by
  unfold askE
  by_cases he : er = 0
  · cases b
    · rw [if_neg (by simpa using he)]; decide
    · exact absurd ⟨he, rfl⟩ h
  · rw [if_pos he]; exact he
theorem askN_no {er : Int} {b : Bool} {n : Int} (h : ¬ (er = 0 ∧ b = true)) : askN er b n = 0 := by
  unfold askN
  by_cases he : er = 0
  · cases b
    · rw [if_neg (by simpa using he)]; rfl
    · exact absurd ⟨he, rfl⟩ h
  · rw [if_pos he]

set_option maxHeartbeats 16000000 in
theorem fresh_law {F : Nat → Prop} {a0 : Option Addr} {n0 c0 : Nat} {a1 : Option Addr} {n1 c1 : Nat} {a2 : Option Addr} {n2 c2 : Nat} {x : Im} {b : Option Addr} {l d : Nat} {zs : List Int} (k t m : Int) (w : World) (hg : Gl w) (h : Img w F a0 n0 c0 a1 n1 c1 a2 n2 c2 x) (hZ : Ls 1 elI w F b l d zs) (hk6 : -9223372036854775808 ≤ k ∧ k ≤ 9223372036854775807) :
    Calls Tryz.prog 3 #[.agg #[.slice a0 n0 c0, .slice a1 n1 c1, .slice a2 n2 c2], .int .i64 k, .int .i64 t, .slice b l d, .int .i64 m] w fun e w' => e = .returned (.bool true) ∧ Kept No w w' := by
  obtain ⟨K0, HM0⟩ := imb w (.slice a0 n0 c0) (.slice a1 n1 c1) (.slice a2 n2 c2)
  obtain ⟨m0, m1, m2, _⟩ := HM0 _ (Kept.refl _ _)
  have hlen := h.cs.len
  have hn2 : n2 ≤ 9223372036854775807 := Nat.le_trans h.cs.cap h.cs.max
  have hl63 : l ≤ 9223372036854775807 := Nat.le_trans hZ.cap hZ.max
  have HK0 := hid K0
  have HM := hid HM0
  have cO := ageOld_any k t _ (hg.kept K0) (h.kept K0 (fun _ _ h => h)) hk6
  have cK : Hid (∀ W, Kept No w W → Calls Tryz.prog 6 #[.agg #[.slice a0 n0 c0, .slice a1 n1 c1, .slice a2 n2 c2]] W fun e w' => e = .returned (.tuple #[.int .i64 (fe (chkF x)), .int .i64 (fn (chkF x))]) ∧ Kept No W w') := fun W kw => rck_any W (h.kept kw (fun _ _ h => h))
  have cL : Hid (∀ W, Kept No w W → Calls Tryz.prog 7 #[] W fun e w' => e = .returned (.bool true) ∧ Kept No W w') := fun W kw => lives_yes W (hg.kept kw)
  have HCS : Hid (∀ W, Kept No w W → Ls 5 elCh W F a2 n2 c2 x.chans) := fun W kw => h.cs.kept kw (fun _ _ h => h) (elCh_kept kw (fun _ _ h => h))
  have HZ : Hid (∀ W, Kept No w W → ∀ j, j < l → ∃ zb zo, b = some ⟨zb, zo, none⟩ ∧ W.cell? ⟨zb, zo + j, none⟩ = some (.int .i64 (zs.getD j 0))) := fun W kw j hj => by
    have hx : zs[j]? = some (zs.getD j 0) := by rw [List.getD, List.getElem?_eq_getElem (by rw [hZ.len]; exact hj)]; rfl
    obtain ⟨zb, zo, cs, e, _, _, hr, hE⟩ := hZ.at' j _ hx
    have hcs : cs = [.int .i64 (zs.getD j 0)] := hE.1
    subst hcs
    have := kw.cell (hr 0 _ rfl) (fun h => h)
    rw [Nat.mul_one, Nat.add_zero] at this
    exact ⟨zb, zo, e, this⟩
  obtain ⟨er, her⟩ : ∃ er, er = fe (chkF x) := ⟨_, rfl⟩
  obtain ⟨ob, hob⟩ : ∃ ob, ob = odB x.chans k t := ⟨_, rfl⟩
  rw [← her, ← hob] at cO
  rw [← her] at cK
  generalize fn (chkF x) = q at *
  obtain ⟨V, hV⟩ : ∃ V, V = askN er ob (if ob then t - 1 else 0) := ⟨_, rfl⟩
  obtain ⟨E, hE⟩ : ∃ E, E = askE er ob := ⟨_, rfl⟩
  rw [← hV, ← hE] at cO
  have HV := hid hV
  have HE := hid hE
  have HOB := hid hob
  have HLEN := hid hlen
  generalize x.chans = L at *
  clear hg h hZ K0 HM0 her hV hE hob hlen
  obtain ⟨A, hA⟩ : ∃ A : Bool, A = !(decide (er = 0) && ob) := ⟨_, rfl⟩
  have HA := hid hA
  clear hA
  go_enter Tryz.func3, Tryz.ntmps3
  go_upto_region 2 with (go_at_call 5; refine cO.mono ?_; clear cO; rintro e w1 ⟨rfl, k1⟩; have K1 := hid (HK0.out.trans k1 (fun _ h => h.elim)); have KB1 := hid k1; obtain ⟨n0', n1', n2', _⟩ := HM.out _ k1; clear k1)
  clear m0 m1 m2
  go_upto_region 3 with (go_at_call 6; refine (cK.out _ K1.out).mono ?_; rintro e w2 ⟨rfl, k2⟩; have K2 := hid (K1.out.trans k2 (fun _ h => h.elim)); obtain ⟨j0, j1, j2, _⟩ := HM.out _ (KB1.out.trans k2 (fun _ h => h.elim)); clear k2)
  clear n0' n1' n2'
  go_cut [63] (fun v wx => v = .bool A ∧ wx = w2)
  case first =>
    as_aux_lemma =>
    by_cases he : er = 0
    · have HA1 : Hid (A = !ob) := by
        show _ = _
        rw [HA.out, decide_eq_true he, Bool.true_and]
      have g0 : (er != 0) = false := by simpa using he
      clear he
      by_cases h1 : k < 1
      · have hA2 : A = true := by
          rw [HA1.out, HOB.out]; unfold odB inB; simp; omega
        subst hA2
        have g1 : decide (k < 1) = true := by simpa using h1
        go_wp2
        go_meet
        exact ⟨rfl, rfl⟩
      · by_cases h2 : (n2 : Int) < k
        · have hA2 : A = true := by
            rw [HA1.out, HOB.out]; unfold odB inB; rw [HLEN.out]; simp; omega
          subst hA2
          have g1 : decide (k < 1) = false := by simpa using h1
          have g2 : decide ((n2 : Int) < k) = true := by simpa using h2
          go_wp2
          go_meet
          exact ⟨rfl, rfl⟩
        · obtain ⟨i, rfl⟩ : ∃ i : Nat, k = i + 1 := ⟨(k - 1).toNat, by omega⟩
          have hin : i < n2 := by omega
          have hx : L[i]? = some (L.getD i dCh) := by rw [List.getD, List.getElem?_eq_getElem (by rw [HLEN.out]; exact hin)]; rfl
          obtain ⟨bb, oo, ds, rfl, _, _, hr, hEl⟩ := (HCS.out w2 K2.out).at' i _ hx
          obtain ⟨ta, tn, tc, rfl, hT⟩ := hEl.sl
          have r0 := hr 0 _ rfl
          rw [Nat.add_zero] at r0
          have hno := chNo_at L i (by rw [HLEN.out]; exact hin)
          have hib : inB ((i : Int) + 1) 1 L.length = true := by unfold inB; rw [HLEN.out]; simp only [Bool.and_eq_true, decide_eq_true_eq]; omega
          have HO2 : Hid (ob = ((L.getD i dCh).kd == 0 && inB t 1 1099511627776)) := by
            show _ = _
            rw [HOB.out]; unfold odB; rw [hno, hib, Bool.true_and]
          clear hT hEl hr hx hno hib
          generalize (L.getD i dCh).kd = z at *
          have g1 : decide ((i : Int) + 1 < 1) = false := by simpa using h1
          have g1' : ¬ ((i : Int) + 1 < 1) := h1
          have g2 : decide ((n2 : Int) < (i : Int) + 1) = false := by simp only [decide_eq_false_iff_not]; exact h2
          have hi2 : (i : Int) < (n2 : Int) := by omega
          by_cases hz : z = 0
          · by_cases ht1 : t < 1
            · have hA2 : A = true := by
                rw [HA1.out, HO2.out]; unfold inB; simp; omega
              subst hA2
              have g3 : (z != 0) = false := by simpa using hz
              have g4 : decide (t < 1) = true := by simpa using ht1
              go_wp2
              go_meet
              exact ⟨rfl, rfl⟩
            · by_cases ht2 : 1099511627776 < t
              · have hA2 : A = true := by
                  rw [HA1.out, HO2.out]; unfold inB; simp; omega
                subst hA2
                have g3 : (z != 0) = false := by simpa using hz
                have g4 : decide (t < 1) = false := by simpa using ht1
                have g5 : decide (1099511627776 < t) = true := by simpa using ht2
                go_wp2
                go_meet
                exact ⟨rfl, rfl⟩
              · have hA2 : A = false := by
                  rw [HA1.out, HO2.out]; unfold inB; simp; omega
                subst hA2
                have g3 : (z != 0) = false := by simpa using hz
                have g4 : decide (t < 1) = false := by simpa using ht1
                have g5 : decide (1099511627776 < t) = false := by simpa using ht2
                go_wp2
                go_meet
                exact ⟨rfl, rfl⟩
          · have g3 : (z != 0) = true := by simpa using hz
            have hA2 : A = true := by
              rw [HA1.out, HO2.out, show (z == 0) = false by simpa using hz]; simp
            subst hA2
            go_wp2
            go_meet
            exact ⟨rfl, rfl⟩
    · have g0 : (er != 0) = true := by simpa using he
      have hA2 : A = true := by rw [HA.out]; simp [he]
      subst hA2
      go_wp2
      go_meet
      exact ⟨rfl, rfl⟩
  case rest =>
  obtain ⟨rfl, hw⟩ := hcut
  obtain rfl := hw.symm
  clear hw
  clear j0 j1 j2
  by_cases hA1 : er = 0 ∧ ob = true
  · obtain ⟨rfl, rfl⟩ := hA1
    have hA2 : A = false := by rw [HA.out]; rfl
    subst hA2
    have htb : 1 ≤ t ∧ t ≤ 1099511627776 := by
      have := HOB.out
      unfold odB inB at this
      simp only [Bool.and_eq_true, decide_eq_true_eq, Bool.true_eq] at this
      omega
    have hv0 : V = t - 1 := by rw [HV.out]; rfl
    have he0 : E = 0 := HE.out
    subst hv0
    subst he0
    obtain ⟨ht1, ht2⟩ := htb
    clear HOB HV HE HA HCS cK HLEN
    obtain ⟨B, hB⟩ : ∃ B : Bool, B = (decide (1000 < (l : Int)) || (decide (m < 0) || decide (100000 < m))) := ⟨_, rfl⟩
    have HB := hid hB
    clear hB
    go_upto_region 5 with fail
    go_cut [87] (fun v wx => v = .bool B ∧ wx = w2)
    case first =>
      as_aux_lemma =>
      by_cases h1 : 1000 < (l : Int)
      · have hB2 : B = true := by rw [HB.out]; simp [h1]
        subst hB2
        have g1 : decide (1000 < (l : Int)) = true := by simpa using h1
        go_wp2
        go_meet
        exact ⟨rfl, rfl⟩
      · have g1 : decide (1000 < (l : Int)) = false := by simpa using h1
        by_cases h2 : m < 0
        · have hB2 : B = true := by rw [HB.out]; simp [h2]
          subst hB2
          have g2 : decide (m < 0) = true := by simpa using h2
          go_wp2
          go_meet
          exact ⟨rfl, rfl⟩
        · have g2 : decide (m < 0) = false := by simpa using h2
          by_cases h3 : 100000 < m
          · have hB2 : B = true := by rw [HB.out]; simp [h3]
            subst hB2
            have g3 : decide (100000 < m) = true := by simpa using h3
            go_wp2
            go_meet
            exact ⟨rfl, rfl⟩
          · have hB2 : B = false := by rw [HB.out, g1, g2]; simpa using h3
            subst hB2
            have g3 : decide (100000 < m) = false := by simpa using h3
            go_wp2
            go_meet
            exact ⟨rfl, rfl⟩
    case rest =>
    obtain ⟨rfl, hw⟩ := hcut
    obtain rfl := hw.symm
    clear hw
    cases B
    · have hb3 : (l : Int) ≤ 1000 ∧ 0 ≤ m ∧ m ≤ 100000 := by
        have := HB.out
        simp only [Bool.false_eq, Bool.or_eq_false_iff, decide_eq_false_iff_not] at this
        omega
      obtain ⟨hl1, hm1, hm2⟩ := hb3
      obtain ⟨M, rfl⟩ := Int.eq_ofNat_of_zero_le hm1
      clear HB hm1
      go_wp2
      go_loopw [15, 16, 17] (fun a c e wr => ∃ (la fi : Int) (n : Nat), a = .int .i64 la ∧ c = .int .i64 fi ∧ e = .int .i64 n ∧ n ≤ M ∧ -1 ≤ la ∧ la ≤ n ∧ -1 ≤ fi ∧ fi ≤ n ∧ Kept No w wr) (fun _ _ e _ => M - (intOf e).toNat)
      case atStart => exact ⟨-1, -1, 0, rfl, rfl, rfl, by omega, by omega, by omega, by omega, by omega, K2.out⟩
      case round =>
        obtain ⟨la, fi, n, rfl, rfl, rfl, hn, hla1, hla2, hfi1, hfi2, K⟩ := hrel
        have HKr := hid K
        clear K
        have HNB := hid (And.intro hn (And.intro hla1 (And.intro hla2 (And.intro hfi1 hfi2))))
        clear hn hla1 hla2 hfi1 hfi2
        by_cases hlt : n < M
        · have hlt2 : (n : Int) < (M : Int) := by omega
          generalize wr = wo at *
          go_wp2
          go_loopw [18, 19] (fun a c wr => ∃ (bo : Bool) (j : Nat), a = .bool bo ∧ c = .int .i64 j ∧ j ≤ l ∧ Kept No wo wr) (fun _ c _ => l - (intOf c).toNat)
          case atStart => exact ⟨false, 0, rfl, rfl, Nat.zero_le _, Kept.refl _ _⟩
          case round =>
            obtain ⟨bo, j, rfl, rfl, hj, K⟩ := hrel
            have HKi := hid (HKr.out.trans K (fun _ h => h.elim))
            have HKo := hid K
            clear K
            by_cases hjl : j < l
            · obtain ⟨zb, zo, rfl, hc⟩ := HZ.out wr HKi.out j hjl
              generalize zs.getD j 0 = y at *
              have hj2 : (j : Int) < (l : Int) := by omega
              have HJ := hid hjl
              clear hj hjl
              cases bo
              · cases hq : (y == (n : Int))
                · go_wp2
                  go_roundw
                  case rel => exact ⟨false, j + 1, rfl, by go_num, HJ.out, HKo.out⟩
                  case measure => have := HJ.out; simp [intOf]; omega
                · go_wp2
                  go_roundw
                  case rel => exact ⟨true, j + 1, rfl, by go_num, HJ.out, HKo.out⟩
                  case measure => have := HJ.out; simp [intOf]; omega
              · clear hc
                go_wp2
                go_roundw
                case rel => exact ⟨true, j + 1, rfl, by go_num, HJ.out, HKo.out⟩
                case measure => have := HJ.out; simp [intOf]; omega
            · have hje : j = l := by omega
              subst hje
              have HLT := hid hlt
              clear HKo hj
              cases bo
              · by_cases hf : 0 ≤ fi
                · obtain ⟨D, hD⟩ : ∃ D, D = (n : Int) - la := ⟨_, rfl⟩
                  have hw : wrap64 ((n : Int) - la) = D := by
                    obtain ⟨_, q1, q2, _, _⟩ := HNB.out
                    rw [hD]; unfold wrap64; omega
                  clear hD
                  by_cases hd : t ≤ D
                  · go_wp2_with (go_at_call 7; refine (cL.out _ HKi.out).mono ?_; rintro e w3 ⟨rfl, k3⟩; have K3 := hid (HKi.out.trans k3 (fun _ h => h.elim)); clear k3)
                    go_ret
                    exact ⟨rfl, K3.out⟩
                  · go_wp2
                    go_roundw
                    case rel => obtain ⟨q0, q1, q2, q3, q4⟩ := HNB.out; exact ⟨la, fi, n + 1, rfl, rfl, by go_num, HLT.out, q1, by omega, q3, by omega, HKi.out⟩
                    case measure => have := HLT.out; simp [intOf]; omega
                · go_wp2
                  go_roundw
                  case rel => obtain ⟨q0, q1, q2, q3, q4⟩ := HNB.out; exact ⟨la, fi, n + 1, rfl, rfl, by go_num, HLT.out, q1, by omega, q3, by omega, HKi.out⟩
                  case measure => have := HLT.out; simp [intOf]; omega
              · have ht0 : ¬ t ≤ 0 := by omega
                have hw0 : wrap64 ((n : Int) - (n : Int)) = 0 := by rw [Int.sub_self]; unfold wrap64; omega
                by_cases hf : fi < 0
                · go_wp2
                  go_roundw
                  case rel => obtain ⟨q0, q1, q2, q3, q4⟩ := HNB.out; exact ⟨n, n, n + 1, rfl, rfl, by go_num, HLT.out, by omega, by omega, by omega, by omega, HKi.out⟩
                  case measure => have := HLT.out; simp [intOf]; omega
                · go_wp2
                  go_roundw
                  case rel => obtain ⟨q0, q1, q2, q3, q4⟩ := HNB.out; exact ⟨n, fi, n + 1, rfl, rfl, by go_num, HLT.out, by omega, by omega, q3, by omega, HKi.out⟩
                  case measure => have := HLT.out; simp [intOf]; omega
        · have hne : n = M := by have := HNB.out.1; omega
          subst hne
          generalize wr = wo at *
          clear hlt
          go_wp2
          go_loopw [20] (fun c wr => ∃ j : Nat, c = .int .i64 j ∧ j ≤ l ∧ Kept No wo wr) (fun c _ => l - (intOf c).toNat)
          case atStart => exact ⟨0, rfl, Nat.zero_le _, Kept.refl _ _⟩
          case round =>
            obtain ⟨j, rfl, hj, K⟩ := hrel
            have HKi := hid (HKr.out.trans K (fun _ h => h.elim))
            have HKo := hid K
            clear K
            by_cases hjl : j < l
            · obtain ⟨zb, zo, rfl, hc⟩ := HZ.out wr HKi.out j hjl
              generalize zs.getD j 0 = y at *
              have hj2 : (j : Int) < (l : Int) := by omega
              have HJ := hid hjl
              clear hj hjl
              cases hq : (y == (n : Int))
              · have hq2 : ¬ y = (n : Int) := by simpa using hq
                go_wp2
                go_roundw
                case rel => exact ⟨j + 1, by go_num, HJ.out, HKo.out⟩
                case measure => have := HJ.out; simp [intOf]; omega
              · have hq2 : y = (n : Int) := by simpa using hq
                subst hq2
                go_wp2_with (go_at_call 7; refine (cL.out _ HKi.out).mono ?_; rintro e w3 ⟨rfl, k3⟩; have K3 := hid (HKi.out.trans k3 (fun _ h => h.elim)); clear k3)
                go_ret
                exact ⟨rfl, K3.out⟩
            · have hje : j = l := by omega
              subst hje
              clear HKo hj hjl
              obtain ⟨D, hD⟩ : ∃ D, D = (n : Int) - la := ⟨_, rfl⟩
              have hw : wrap64 ((n : Int) - la) = D := by
                obtain ⟨_, q1, q2, _, _⟩ := HNB.out
                rw [hD]; unfold wrap64; omega
              clear hD
              have hw1 : wrap64 (t - 1) = t - 1 := by unfold wrap64; omega
              by_cases hf : fi < 0
              · go_wp2_with (go_at_call 7; refine (cL.out _ HKi.out).mono ?_; rintro e w3 ⟨rfl, k3⟩; have K3 := hid (HKi.out.trans k3 (fun _ h => h.elim)); clear k3)
                go_ret
                exact ⟨rfl, K3.out⟩
              · by_cases hd : t ≤ D
                · go_wp2_with (go_at_call 7; refine (cL.out _ HKi.out).mono ?_; rintro e w3 ⟨rfl, k3⟩; have K3 := hid (HKi.out.trans k3 (fun _ h => h.elim)); clear k3)
                  go_ret
                  exact ⟨rfl, K3.out⟩
                · have hd2 : D ≤ t - 1 := by omega
                  go_wp2_with (go_at_call 7; refine (cL.out _ HKi.out).mono ?_; rintro e w3 ⟨rfl, k3⟩; have K3 := hid (HKi.out.trans k3 (fun _ h => h.elim)); clear k3)
                  go_ret
                  exact ⟨rfl, K3.out⟩
    · clear HZ
      go_wp2
      go_ret
      exact ⟨rfl, K2.out⟩
  · have hA2 : A = true := by
      rw [HA.out]
      cases ob
      · simp
      · have : er ≠ 0 := fun h => hA1 ⟨h, rfl⟩
        simp [this]
    subst hA2
    have hv0 : V = 0 := by rw [HV.out]; exact askN_no hA1
    have he0 : (E != 0) = true := by rw [HE.out]; simpa using askE_no hA1
    subst hv0
    clear hA1 HZ HCS cK HV HE
    go_wp2_with (go_at_call 7; refine (cL.out _ K2.out).mono ?_; rintro e w3 ⟨rfl, k3⟩; have K3 := hid (K2.out.trans k3 (fun _ h => h.elim)); clear k3)
    go_ret
    exact ⟨rfl, K3.out⟩
end Go.Proofs.YtggejpccjmolhaaGreatDoor
