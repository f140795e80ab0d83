/-
  TraceParts: the law.
-/
import Derived.Test.YtdnfdnionkfamaaDoorVSt
namespace Go.Proofs.YtdnfdnionkfamaaDoor
open Go.RowKit
set_option linter.unusedVariables false
set_option linter.unusedSimpArgs false
set_option maxRecDepth 100000

section
variable {P : Program} {md : Region.Mode} {ops : Array Oper} {Q : Exit → Act → World → Prop} {S : World → Prop} {fuel : Nat} {listed : Array Bool} {a : Act} {w : World}
theorem d_skip (i k : Nat) {oi : Oper} (hi : ops[i]? = some oi) (hd : oi.dst = some k) (hs : Region.noSelect ops = true) (hf : Region.free md ops listed i = true) (hr : (Region.ready md ops listed).contains i = true)
    (hQ : ∀ c a w, Q (.panic c) (a.put (some k) undef) w → Q (.panic c) a w) (hw : Region.wanted oi (yielded ops a.tmps) = false) (hS : S w)
    (h : wpAnyH P md ops Q S fuel (listed.setIfInBounds i true) (a.put (some k) undef) w) : wpAnyH P md ops Q S (fuel + 1) listed a w :=
  h_skip i hi hs hf hr (by rw [hd]; exact hQ) hw hS (by rw [hd]; exact h)
end
theorem er_fP {w : World} {a : Act} {o : Oper} (x : Operand) (ho : o.op = .fieldAddr 28 x 1) (g off : Nat) (hx : a.eval x = .pointer (some ⟨g, off, none⟩)) : (execOp a.eval o).run Tryd.prog w = .ok (.value (.pointer (some ⟨g, off + 1, none⟩))) w := by simp only [execOp, ho, hx]; simp [go_sem, add_none]
set_option maxHeartbeats 32000000 in
theorem parts_law {F G : Nat → Prop} {a b : Option Addr} {n c m d : Nat} {xs ys : List Ev} (w : World) (hx : Il w F a n c xs) (hy : Il w G b m d ys) (en : En w) (hn : n * 72 ≤ 140737488351232) (hm : m * 72 ≤ 140737488351232) (ha : a = none → c = 0) (hb : b = none → d = 0) :
    Calls Tryd.prog 3 #[.slice a n c, .slice b m d] w fun r w' => r = .returned (.bool true) ∧ Kept No w w' := by
  have HX : Hid (∀ W, Kept No w W → Il W F a n c xs) := fun W q => hx.keep q
  have HY : Hid (∀ W, Kept No w W → Il W G b m d ys) := fun W q => hy.keep q
  have HLV : Hid (∀ W, Kept No w W → Calls Tryd.prog 5 #[] W fun r w' => r = .returned (.bool true) ∧ Kept No w w') := fun W q => (lives_yes W (en.keep q)).mono (fun e w' h => ⟨h.1, q.trans h.2 (fun _ e => e.elim)⟩)
  have hxc := hx.cap
  have hxm := hx.max
  have hyc := hy.cap
  have hym := hy.max
  have hxl := hx.len
  have hyl := hy.len
  have HAB := hid (And.intro ha hb)
  have c1 := short_any w hx
  have HS2 : Hid (∀ W, Kept No w W → Calls Tryd.prog 4 #[.slice b m d] W fun r w' => SomeB r ∧ Kept No w w') := fun W q => (short_any W (hy.keep q)).mono (fun e w' h => ⟨h.1, q.trans h.2 (fun _ e => e.elim)⟩)
  clear hx hy en ha hb
  go_enter Tryd.func3, Tryd.ntmps3
  go_upto_region 1 with fail
  go_cut [26] (fun u wd => Kept No w wd ∧ (u = .bool true ∨ u = .bool false))
  case first =>
    go_wp2_with (first
      | (go_at_call 4; refine c1.mono ?_; rintro e w1 ⟨⟨b1, rfl⟩, k1⟩; have c2 := HS2.out w1 k1; have K1 := hid k1; clear k1 c1; cases b1)
      | (go_at_call 4; refine c2.mono ?_; rintro e w2 ⟨⟨b2, rfl⟩, k2⟩; have c3 := HLV.out w2 k2; have K2 := hid k2; clear k2 c2; cases b2)
      | (go_at_call 5; refine c3.mono ?_; rintro e w3 ⟨rfl, k3⟩; have K3 := hid k3; clear k3 c3))
    all_goals go_meet
    all_goals first
      | exact ⟨K1.out, .inl rfl⟩
      | exact ⟨K2.out, .inl rfl⟩
      | exact ⟨K3.out, .inr rfl⟩
  case rest =>
  rename World => w4
  obtain ⟨k4, hb4⟩ := hcut
  have K4 := hid k4
  clear k4 c1 HS2
  rcases hb4 with rfl | rfl
  · have c5 := HLV.out w4 K4.out
    go_wp2_with (go_at_call 5; refine c5.mono ?_; rintro e w5 ⟨rfl, k5⟩; have K5 := hid k5; clear k5 c5)
    go_ret
    exact ⟨rfl, K5.out⟩
  clear HLV
  go_wp2
  go_loopw [5] (fun u5 wr => ∃ (k : Nat), k ≤ n ∧ u5 = .int .i64 k ∧ (∀ i x, i < k → xs[i]? = some x → x.Go) ∧ Kept No w wr) (fun u5 _ => n - (intOf u5).toNat)
  case atStart => exact ⟨0, by omega, rfl, fun i x hi => by omega, K4.out⟩
  case round =>
    clear K4
    obtain ⟨k, hk, rfl, hg, kr⟩ := hrel
    have HK := hid (And.intro hg kr)
    clear hg kr
    by_cases hlt : k < n
    · have hltz : (k : Int) < (n : Int) := by omega
      obtain ⟨x, hxk⟩ : ∃ x, xs[k]? = some x := ⟨_, List.getElem?_eq_getElem (by omega)⟩
      obtain ⟨b1, o1, da, dc, rfl, _, hc, ir⟩ := (HX.out wr HK.out.2).at' k x hxk
      have LD := hid (ldI hc)
      have GC := goesl_any (x := x) (da := da) (dc := dc) wr
      have HXK := hid hxk
      clear hc ir hxk
      by_cases hgo : x.Go
      · rw [decide_eq_true hgo] at GC
        go_wp2_with (first
          | (refine l_take 37 rfl rfl (er_ldX 28 (.tmp 36) rfl (.pointer (some ⟨b1, o1 + k * 7, none⟩)) (.agg (x.val da dc)) rfl LD.out) ?_)
          | (go_at_call 6; refine GC.mono ?_; rintro r w5 ⟨rfl, k5⟩; have K5 := hid k5; clear k5 GC))
        refine ⟨⟨k + 1, by omega, by go_num, fun i y hi hy => ?_, HK.out.2.trans K5.out (fun _ e => e.elim)⟩, ?_⟩
        · by_cases e : i = k
          · subst e; rw [HXK.out] at hy; injection hy with hy; rw [← hy]; exact hgo
          · exact HK.out.1 i y (by omega) hy
        · simp [intOf]; omega
      · rw [decide_eq_false hgo] at GC
        go_wp2_with (first
          | (refine l_take 37 rfl rfl (er_ldX 28 (.tmp 36) rfl (.pointer (some ⟨b1, o1 + k * 7, none⟩)) (.agg (x.val da dc)) rfl LD.out) ?_)
          | (go_at_call 6; refine GC.mono ?_; rintro r w5 ⟨rfl, k5⟩; have K5 := hid k5; clear k5 GC))
        go_ret
        exact ⟨rfl, HK.out.2.trans K5.out (fun _ e => e.elim)⟩
    · have hltz : ¬ (k : Int) < (n : Int) := by omega
      obtain rfl : k = n := by omega
      have HGO : Hid (∀ x ∈ xs, 1 ≤ x.pt ∧ x.pt ≤ 32) := fun x hx => by
        obtain ⟨i, hi⟩ := List.getElem?_of_mem hx
        have := HK.out.1 i x (by have := (List.getElem?_eq_some_iff.1 hi).1; omega) hi
        exact ⟨this.2.2.1, this.2.2.2.1⟩
      have K5 := hid HK.out.2
      clear HK hk
      generalize wr = w5 at *
      go_wp2
      go_loopw [6, 7, 8, 9, 10, 11] (fun u6 u7 u8 u9 u10 u11 wr => ∃ (q : Nat), q ≤ 32 ∧ u6 = .int .i64 (cnt xs q : Int) ∧ u7 = .bool (alk xs ys q) ∧ u8 = .int .i64 ((q : Int) + 1) ∧ Kept No w wr) (fun _ _ u8 _ _ _ _ => 33 - (intOf u8).toNat)
      case atStart => exact ⟨0, by omega, rfl, by unfold alk; simp, rfl, K5.out⟩
      case round =>
        obtain ⟨q, hq, rfl, rfl, rfl, kr⟩ := hrel
        have HK := hid kr
        clear kr K5
        by_cases hlt : q < 32
        · have hltz : (q : Int) + 1 ≤ 32 := by omega
          have HPX : Hid (∀ W, Kept No w W → Calls Tryd.prog 7 #[.slice a k c, .int .i64 ((q : Int) + 1)] W fun r w' => ∃ ra rc, r = .returned (.slice ra (prj ((q : Int) + 1) xs).length rc) ∧ Il w' An ra (prj ((q : Int) + 1) xs).length rc (prj ((q : Int) + 1) xs) ∧ Kept No w w' ∧ Kept No W w') := fun W z => (project_any ((q : Int) + 1) W (HX.out W z) hn).mono (by
              rintro r w' ⟨v, rfl, gi, kk⟩
              obtain ⟨ra, rc, rfl, il⟩ := gi.il'
              exact ⟨ra, rc, rfl, il, z.trans kk (fun _ e => e.elim), kk⟩)
          have HPY : Hid (∀ W, Kept No w W → Calls Tryd.prog 7 #[.slice b m d, .int .i64 ((q : Int) + 1)] W fun r w' => ∃ ra rc, r = .returned (.slice ra (prj ((q : Int) + 1) ys).length rc) ∧ Il w' An ra (prj ((q : Int) + 1) ys).length rc (prj ((q : Int) + 1) ys) ∧ Kept No w w' ∧ Kept No W w') := fun W z => (project_any ((q : Int) + 1) W (HY.out W z) hm).mono (by
              rintro r w' ⟨v, rfl, gi, kk⟩
              obtain ⟨ra, rc, rfl, il⟩ := gi.il'
              exact ⟨ra, rc, rfl, il, z.trans kk (fun _ e => e.elim), kk⟩)
          have hlx : (prj ((q : Int) + 1) xs).length ≤ k := by have := prj_len ((q : Int) + 1) xs; omega
          have hly : (prj ((q : Int) + 1) ys).length ≤ m := by have := prj_len ((q : Int) + 1) ys; omega
          have hcn : cnt xs q + (prj ((q : Int) + 1) xs).length ≤ k := by have := cnt_le xs (q + 1); rw [cnt_step] at this; omega
          have hdv := difV_cases (prj ((q : Int) + 1) xs) (prj ((q : Int) + 1) ys)
          have HAK : Hid (alk xs ys (q + 1) = (alk xs ys q && (difV (prj ((q : Int) + 1) xs) (prj ((q : Int) + 1) ys) == -1))) := by
            rw [alk_succ]
            congr 1
            by_cases e : prj ((q : Int) + 1) xs = prj ((q : Int) + 1) ys
            · rw [decide_eq_true e, difV_none.2 e]; rfl
            · rw [decide_eq_false e]
              have : ¬ difV (prj ((q : Int) + 1) xs) (prj ((q : Int) + 1) ys) = -1 := fun h => e (difV_none.1 h)
              simp [this]
          have HCN : Hid (cnt xs (q + 1) = cnt xs q + (prj ((q : Int) + 1) xs).length) := cnt_step xs q
          have HO1 : Hid (∀ ra rc W, Il W An ra (prj ((q : Int) + 1) xs).length rc (prj ((q : Int) + 1) xs) → Calls Tryd.prog 7 #[.slice ra (prj ((q : Int) + 1) xs).length rc, .int .i64 ((q : Int) + 1)] W fun r w' => ∃ ra' rc', r = .returned (.slice ra' (prj ((q : Int) + 1) xs).length rc') ∧ Il w' An ra' (prj ((q : Int) + 1) xs).length rc' (prj ((q : Int) + 1) xs) ∧ Kept No W w') := fun ra rc W il => (project_any ((q : Int) + 1) W il (by omega)).mono (by
              rintro r w' ⟨v, rfl, gi, kk⟩
              rw [prj_same] at gi
              obtain ⟨ra, rc, rfl, il⟩ := gi.il'
              exact ⟨ra, rc, rfl, il, kk⟩)
          have hq3 : ((q : Int) + 1) % 32 + 1 ≠ (q : Int) + 1 := by omega
          have HO2 : Hid (∀ ra rc W, Il W An ra (prj ((q : Int) + 1) xs).length rc (prj ((q : Int) + 1) xs) → Calls Tryd.prog 7 #[.slice ra (prj ((q : Int) + 1) xs).length rc, .int .i64 (((q : Int) + 1) % 32 + 1)] W fun r w' => ∃ ra' rc', r = .returned (.slice ra' 0 rc') ∧ rc' ≤ 9223372036854775807 ∧ Kept No W w') := fun ra rc W il => (project_any (((q : Int) + 1) % 32 + 1) W il (by omega)).mono (by
              rintro r w' ⟨v, rfl, gi, kk⟩
              rw [prj_other (Ne.symm hq3)] at gi
              obtain ⟨ra, rc, rfl, il⟩ := gi.il'
              exact ⟨ra, rc, rfl, il.max, kk⟩)
          generalize hPX : prj ((q : Int) + 1) xs = px at *
          generalize hPY : prj ((q : Int) + 1) ys = py at *
          clear hPX hPY
          have a1 := HPX.out wr HK.out
          go_upto_region 14 with (go_at_call 7; refine a1.mono ?_; rintro r w6 ⟨ra, rc, rfl, il6, k6, _⟩; have H6 := hid (And.intro il6 k6); clear il6 k6 a1)
          have a2 := HPY.out w6 H6.out.2
          go_upto_region 15 with (go_at_call 7; refine a2.mono ?_; rintro r w7 ⟨rb, rd, rfl, il7, k7, k67⟩; have H7 := hid (And.intro (H6.out.1.keep k67) (And.intro il7 k7)); clear il7 k7 k67 a2)
          clear HPX HPY H6 HK
          have hrc1 := H7.out.1.cap
          have hrc2 := H7.out.1.max
          have hrd1 := H7.out.2.1.cap
          have hrd2 := H7.out.2.1.max
          go_upto_region 16 with fail
          have a3 := differ_any w7 H7.out.1 H7.out.2.1
          go_upto_region 17 with (go_at_call 8; refine a3.mono ?_; rintro r w8 ⟨rfl, k8⟩; have H8 := hid (And.intro (H7.out.1.keep k8) (And.intro (H7.out.2.1.keep k8) (H7.out.2.2.trans k8 (fun _ e => e.elim)))); clear k8 a3)
          clear H7
          obtain ⟨dv, hdv2⟩ : ∃ dv, dv = difV px py := ⟨_, rfl⟩
          rw [← hdv2] at hdv HAK
          rw [← hdv2]
          clear hdv2
          have hd1 : -1 ≤ dv := by rcases hdv with ⟨h, _⟩ | ⟨j, h, _, _, _⟩ <;> omega
          have hd2 : dv ≤ (px.length : Int) := by rcases hdv with ⟨h, _⟩ | ⟨j, h, _, _, _⟩ <;> omega
          have hd3 : dv ≤ (py.length : Int) := by rcases hdv with ⟨h, _⟩ | ⟨j, h, _, _, _⟩ <;> omega
          clear hdv
          go_cut [7] (fun u wd => u = .bool (alk xs ys (q + 1)) ∧ wd = w8)
          case first =>
            cases hA : alk xs ys q with
            | false =>
              go_wp2
              go_meet
              exact ⟨by rw [HAK.out, hA]; rfl, rfl⟩
            | true =>
              by_cases hd : dv = -1
              · have hdb : (dv == -1) = true := by simp [hd]
                go_wp2
                go_meet
                exact ⟨by rw [HAK.out, hA, hdb]; rfl, rfl⟩
              · have hdb : (dv == -1) = false := by simp [hd]
                go_wp2
                go_meet
                exact ⟨by rw [HAK.out, hA, hdb]; rfl, rfl⟩
          case rest =>
          rename World => w9
          obtain ⟨rfl, rfl⟩ := hcut
          have HAK' := HAK
          clear HAK HAK'
          generalize hAKe : alk xs ys (q + 1) = AK at *
          generalize alk xs ys q = AQ at *
          have p1 := HO1.out ra rc w9 H8.out.1
          go_wp2_with (first
            | (go_at_call 7; refine p1.mono ?_; rintro r w10 ⟨ra', rc', rfl, il10, k10⟩; have p2 := differ_any w10 il10 (H8.out.1.keep k10); rw [difV_self] at p2; have H10 := hid k10; clear k10 il10 p1)
            | (go_at_call 8; refine p2.mono ?_; rintro r w11 ⟨rfl, k11⟩; have H11 := hid (H10.out.trans k11 (fun _ e => e.elim)); clear k11 p2; have p3 := HO2.out ra rc w11 (H8.out.1.keep H11.out))
            | (go_at_call 7; refine p3.mono ?_; rintro r w12 ⟨ra2, rc2, rfl, hrc3, k12⟩; have H12 := hid (H11.out.trans k12 (fun _ e => e.elim)); clear k12 p3))
          refine ⟨⟨q + 1, by omega, ?_, by rw [hAKe], by go_num, H8.out.2.2.trans H12.out (fun _ e => e.elim)⟩, ?_⟩
          · rw [HCN.out]; go_num
          · simp [intOf]; omega
        · obtain rfl : q = 32 := by omega
          have hct : cnt xs 32 = k := by
            rw [← hxl]
            exact cnt_all (p := 32) (fun x hx => HGO.out x hx)
          rw [hct, show ((32 : Nat) : Int) + 1 = 33 from rfl]
          clear hct hq
          generalize wr = w6 at *
          go_upto_region 20 with fail
          go_cut [12] (fun u wd => u = .bool (ord xs ys 0) ∧ wd = w6)
          case first =>
            by_cases hkm : k = m
            · subst hkm
              go_wp2
              go_meet
              exact ⟨by first | (unfold ord; done) | (unfold ord; simp; done) | (unfold ord; simp; omega), rfl⟩
            · have hkz : ((k : Int) == (m : Int)) = false := by simp; omega
              go_wp2
              go_meet
              refine ⟨?_, rfl⟩
              have : ord xs ys 0 = false := by unfold ord; rw [decide_eq_false]; intro h; omega
              first | (rw [this]; done) | (rw [this]; rfl) | (rw [this]; simp; done) | (rw [this]; simp; omega)
          case rest =>
          rename World => w7
          obtain ⟨rfl, rfl⟩ := hcut
          obtain ⟨q0, hq1, hq2, hq3⟩ : ∃ q : Nat, q ≤ k ∧ q ≤ m ∧ (q = k ∨ q = m) := by
            by_cases h : m < k
            · exact ⟨m, by omega, by omega, .inr rfl⟩
            · exact ⟨k, by omega, by omega, .inl rfl⟩
          go_wp2
          go_loopw [12, 13] (fun u12 u13 wr => ∃ (j : Nat), j ≤ q0 ∧ u12 = .bool (ord xs ys j) ∧ u13 = .int .i64 (j : Int) ∧ Kept No w wr) (fun _ u13 _ => q0 - (intOf u13).toNat)
          case atStart => exact ⟨0, by omega, rfl, rfl, HK.out⟩
          case round =>
            obtain ⟨j, hj, rfl, rfl, kr⟩ := hrel
            have HR := hid kr
            clear kr HK
            by_cases hlt : j < q0
            · have hz1 : (j : Int) < (k : Int) := by omega
              have hz2 : (j : Int) < (m : Int) := by omega
              obtain ⟨x, hxj⟩ : ∃ x, xs[j]? = some x := ⟨_, List.getElem?_eq_getElem (by omega)⟩
              obtain ⟨y, hyj⟩ : ∃ y, ys[j]? = some y := ⟨_, List.getElem?_eq_getElem (by omega)⟩
              have HU1 := HX.out
              obtain ⟨b1, o1, da, dc, ea1, _, hc1, _⟩ := (HX.out wr HR.out).at' j x hxj
              obtain ⟨b2, o2, ea, ec, ea2, _, hc2, _⟩ := (HY.out wr HR.out).at' j y hyj
              clear HU1
              have p1 : ptD xs j = x.pt := by unfold ptD; rw [List.getD, List.getElem?_map, hxj]; rfl
              have p2 : ptD ys j = y.pt := by unfold ptD; rw [List.getD, List.getElem?_map, hyj]; rfl
              obtain ⟨z1, hzz1⟩ : ∃ z, z = x.pt := ⟨_, rfl⟩
              obtain ⟨z2, hzz2⟩ : ∃ z, z = y.pt := ⟨_, rfl⟩
              have d1 := hc1 1 (.int .i64 z1) (by rw [hzz1]; rfl)
              have d2 := hc2 1 (.int .i64 z2) (by rw [hzz2]; rfl)
              have U1 : Hid (∀ W, Kept No wr W → W.cell? ⟨b1, o1 + j * 7 + 1, none⟩ = some (.int .i64 z1)) := fun W z => z.cell d1 (fun e => e)
              have U2 : Hid (∀ W, Kept No wr W → W.cell? ⟨b2, o2 + j * 7 + 1, none⟩ = some (.int .i64 z2)) := fun W z => z.cell d2 (fun e => e)
              have HOS : Hid (ord xs ys (j + 1) = (ord xs ys j && (z1 == z2))) := by
                rw [ord_succ, p1, p2, ← hzz1, ← hzz2]
                congr 1
              clear hc1 hc2 d1 d2 p1 p2 hzz1 hzz2 hxj hyj
              subst ea1 ea2
              go_upto_region 24 with fail
              refine wp_region_held_drew (S := fun W => Kept No wr W) (by kernel_rfl) ((Kept.refl No wr).drew) (fun hS => ?_)
              cases hO : ord xs ys j with
              | false =>
                refine d_take 0 110 rfl rfl (by kernel_rfl) (by kernel_rfl) (by kernel_rfl) (fun _ _ _ h => h) rfl (fun w' hw' => er_mv _ rfl (.bool false) rfl) hS ?_
                simp only [Act.put, List.setIfInBounds_toArray, List.set_cons_zero, List.set_cons_succ]
                refine d_take 1 111 rfl rfl (by kernel_rfl) (by kernel_rfl) (by kernel_rfl) (fun _ _ _ h => h) rfl (fun w' hw' => er_mv _ rfl (.bool false) rfl) hS ?_
                simp only [Act.put, List.setIfInBounds_toArray, List.set_cons_zero, List.set_cons_succ]
                refine d_skip 2 112 rfl rfl (by kernel_rfl) (by kernel_rfl) (by kernel_rfl) (fun _ _ _ h => h) rfl hS ?_
                simp only [Act.put, List.setIfInBounds_toArray, List.set_cons_zero, List.set_cons_succ]
                refine d_skip 3 113 rfl rfl (by kernel_rfl) (by kernel_rfl) (by kernel_rfl) (fun _ _ _ h => h) rfl hS ?_
                simp only [Act.put, List.setIfInBounds_toArray, List.set_cons_zero, List.set_cons_succ]
                refine d_skip 4 114 rfl rfl (by kernel_rfl) (by kernel_rfl) (by kernel_rfl) (fun _ _ _ h => h) rfl hS ?_
                simp only [Act.put, List.setIfInBounds_toArray, List.set_cons_zero, List.set_cons_succ]
                refine d_skip 5 115 rfl rfl (by kernel_rfl) (by kernel_rfl) (by kernel_rfl) (fun _ _ _ h => h) rfl hS ?_
                simp only [Act.put, List.setIfInBounds_toArray, List.set_cons_zero, List.set_cons_succ]
                refine d_skip 6 116 rfl rfl (by kernel_rfl) (by kernel_rfl) (by kernel_rfl) (fun _ _ _ h => h) rfl hS ?_
                simp only [Act.put, List.setIfInBounds_toArray, List.set_cons_zero, List.set_cons_succ]
                refine d_skip 7 117 rfl rfl (by kernel_rfl) (by kernel_rfl) (by kernel_rfl) (fun _ _ _ h => h) rfl hS ?_
                simp only [Act.put, List.setIfInBounds_toArray, List.set_cons_zero, List.set_cons_succ]
                refine d_skip 8 118 rfl rfl (by kernel_rfl) (by kernel_rfl) (by kernel_rfl) (fun _ _ _ h => h) rfl hS ?_
                simp only [Act.put, List.setIfInBounds_toArray, List.set_cons_zero, List.set_cons_succ]
                refine d_skip 9 119 rfl rfl (by kernel_rfl) (by kernel_rfl) (by kernel_rfl) (fun _ _ _ h => h) rfl hS ?_
                simp only [Act.put, List.setIfInBounds_toArray, List.set_cons_zero, List.set_cons_succ]
                refine d_skip 10 120 rfl rfl (by kernel_rfl) (by kernel_rfl) (by kernel_rfl) (fun _ _ _ h => h) rfl hS ?_
                simp only [Act.put, List.setIfInBounds_toArray, List.set_cons_zero, List.set_cons_succ]
                refine d_skip 11 121 rfl rfl (by kernel_rfl) (by kernel_rfl) (by kernel_rfl) (fun _ _ _ h => h) rfl hS ?_
                simp only [Act.put, List.setIfInBounds_toArray, List.set_cons_zero, List.set_cons_succ]
                refine d_skip 12 122 rfl rfl (by kernel_rfl) (by kernel_rfl) (by kernel_rfl) (fun _ _ _ h => h) rfl hS ?_
                simp only [Act.put, List.setIfInBounds_toArray, List.set_cons_zero, List.set_cons_succ]
                refine d_take 13 123 rfl rfl (by kernel_rfl) (by kernel_rfl) (by kernel_rfl) (fun _ _ _ h => h) rfl (fun w' hw' => er_pk _ _ _ rfl false (.bool false) rfl rfl) hS ?_
                simp only [Act.put, List.setIfInBounds_toArray, List.set_cons_zero, List.set_cons_succ]
                refine d_take 14 12 rfl rfl (by kernel_rfl) (by kernel_rfl) (by kernel_rfl) (fun _ _ _ h => h) rfl (fun w' hw' => er_as _ rfl (.bool false) rfl) hS ?_
                simp only [Act.put, List.setIfInBounds_toArray, List.set_cons_zero, List.set_cons_succ]
                refine wpAnyH_done (by kernel_rfl) ?_ _
                have H8 := hid (HR.out.trans hS (fun _ e => e.elim))
                clear hS U1 U2
                go_wp2
                refine ⟨⟨j + 1, by omega, by rw [HOS.out, hO]; rfl, by go_num, H8.out⟩, ?_⟩
                simp [intOf]; omega
              | true =>
                refine d_take 0 110 rfl rfl (by kernel_rfl) (by kernel_rfl) (by kernel_rfl) (fun _ _ _ h => h) rfl (fun w' hw' => er_mv _ rfl (.bool true) rfl) hS ?_
                simp only [Act.put, List.setIfInBounds_toArray, List.set_cons_zero, List.set_cons_succ]
                refine d_take 1 111 rfl rfl (by kernel_rfl) (by kernel_rfl) (by kernel_rfl) (fun _ _ _ h => h) rfl (fun w' hw' => er_mv _ rfl (.bool true) rfl) hS ?_
                simp only [Act.put, List.setIfInBounds_toArray, List.set_cons_zero, List.set_cons_succ]
                refine d_take 2 112 rfl rfl (by kernel_rfl) (by kernel_rfl) (by kernel_rfl) (fun _ _ _ h => h) rfl (fun w' hw' => er_mv _ rfl (.slice (some ⟨b1, o1, none⟩) k c) rfl) hS ?_
                simp only [Act.put, List.setIfInBounds_toArray, List.set_cons_zero, List.set_cons_succ]
                refine d_take 3 113 rfl rfl (by kernel_rfl) (by kernel_rfl) (by kernel_rfl) (fun _ _ _ h => h) rfl (fun w' hw' => er_mv _ rfl (.int .i64 (j : Int)) rfl) hS ?_
                simp only [Act.put, List.setIfInBounds_toArray, List.set_cons_zero, List.set_cons_succ]
                refine d_take 4 114 rfl rfl (by kernel_rfl) (by kernel_rfl) (by kernel_rfl) (fun _ _ _ h => h) rfl (fun w' hw' => er_ixN _ _ rfl b1 o1 j k c rfl rfl (by omega)) hS ?_
                simp only [Act.put, List.setIfInBounds_toArray, List.set_cons_zero, List.set_cons_succ]
                refine d_take 5 115 rfl rfl (by kernel_rfl) (by kernel_rfl) (by kernel_rfl) (fun _ _ _ h => h) rfl (fun w' hw' => er_fP _ rfl b1 (o1 + j * 7) rfl) hS ?_
                simp only [Act.put, List.setIfInBounds_toArray, List.set_cons_zero, List.set_cons_succ]
                refine d_take 6 116 rfl rfl (by kernel_rfl) (by kernel_rfl) (by kernel_rfl) (fun _ _ _ h => h) rfl (fun w' hw' => er_ldi _ rfl b1 (o1 + j * 7 + 1) (.int .i64 z1) rfl (U1.out w' hw')) hS ?_
                simp only [Act.put, List.setIfInBounds_toArray, List.set_cons_zero, List.set_cons_succ]
                refine d_take 7 117 rfl rfl (by kernel_rfl) (by kernel_rfl) (by kernel_rfl) (fun _ _ _ h => h) rfl (fun w' hw' => er_mv _ rfl (.slice (some ⟨b2, o2, none⟩) m d) rfl) hS ?_
                simp only [Act.put, List.setIfInBounds_toArray, List.set_cons_zero, List.set_cons_succ]
                refine d_take 8 118 rfl rfl (by kernel_rfl) (by kernel_rfl) (by kernel_rfl) (fun _ _ _ h => h) rfl (fun w' hw' => er_mv _ rfl (.int .i64 (j : Int)) rfl) hS ?_
                simp only [Act.put, List.setIfInBounds_toArray, List.set_cons_zero, List.set_cons_succ]
                refine d_take 9 119 rfl rfl (by kernel_rfl) (by kernel_rfl) (by kernel_rfl) (fun _ _ _ h => h) rfl (fun w' hw' => er_ixN _ _ rfl b2 o2 j m d rfl rfl (by omega)) hS ?_
                simp only [Act.put, List.setIfInBounds_toArray, List.set_cons_zero, List.set_cons_succ]
                refine d_take 10 120 rfl rfl (by kernel_rfl) (by kernel_rfl) (by kernel_rfl) (fun _ _ _ h => h) rfl (fun w' hw' => er_fP _ rfl b2 (o2 + j * 7) rfl) hS ?_
                simp only [Act.put, List.setIfInBounds_toArray, List.set_cons_zero, List.set_cons_succ]
                refine d_take 11 121 rfl rfl (by kernel_rfl) (by kernel_rfl) (by kernel_rfl) (fun _ _ _ h => h) rfl (fun w' hw' => er_ldi _ rfl b2 (o2 + j * 7 + 1) (.int .i64 z2) rfl (U2.out w' hw')) hS ?_
                simp only [Act.put, List.setIfInBounds_toArray, List.set_cons_zero, List.set_cons_succ]
                refine d_take 12 122 rfl rfl (by kernel_rfl) (by kernel_rfl) (by kernel_rfl) (fun _ _ _ h => h) rfl (fun w' hw' => er_eqI _ _ rfl z1 z2 (z1 == z2) rfl rfl rfl) hS ?_
                simp only [Act.put, List.setIfInBounds_toArray, List.set_cons_zero, List.set_cons_succ]
                refine d_take 13 123 rfl rfl (by kernel_rfl) (by kernel_rfl) (by kernel_rfl) (fun _ _ _ h => h) rfl (fun w' hw' => er_pk _ _ _ rfl true (.bool (z1 == z2)) rfl rfl) hS ?_
                simp only [Act.put, List.setIfInBounds_toArray, List.set_cons_zero, List.set_cons_succ]
                refine d_take 14 12 rfl rfl (by kernel_rfl) (by kernel_rfl) (by kernel_rfl) (fun _ _ _ h => h) rfl (fun w' hw' => er_as _ rfl (.bool (z1 == z2)) rfl) hS ?_
                simp only [Act.put, List.setIfInBounds_toArray, List.set_cons_zero, List.set_cons_succ]
                refine wpAnyH_done (by kernel_rfl) ?_ _
                have H8 := hid (HR.out.trans hS (fun _ e => e.elim))
                clear hS U1 U2
                go_wp2
                refine ⟨⟨j + 1, by omega, by rw [HOS.out, hO]; rfl, by go_num, H8.out⟩, ?_⟩
                simp [intOf]; omega
            · obtain rfl : j = q0 := by omega
              have HPI := hid (parts_iff (ys := ys) HGO.out (q := j) (by omega) (by omega) (by omega))
              have a1 := differ_any wr (HX.out wr HR.out) (HY.out wr HR.out)
              have HDB : Hid (∀ W, Kept No w W → Calls Tryd.prog 8 #[.slice b m d, .slice a k c] W fun r w' => r = .returned (.int .i64 (difV xs ys)) ∧ Kept No W w') := fun W z => by
                have := differ_any W (HY.out W z) (HX.out W z)
                rw [difV_comm] at this
                exact this
              have hdc := difV_cases xs ys
              have HDT : Hid (∀ W0 W, Kept No w W0 → Kept No W0 W → ∀ r : Nat, r ≤ k → r ≤ m → xs.take r = ys.take r → Calls Tryd.prog 8 #[.slice a r c, .slice b r d] W fun e w' => e = .returned (.int .i64 (-1)) ∧ Kept No W0 w') := fun W0 W z z2 r h1 h2 h3 => by
                have z3 := z.trans z2 (fun _ e => e.elim)
                have := differ_any W ((HX.out W z3).take h1) ((HY.out W z3).take h2)
                rw [h3, difV_self] at this
                exact this.mono (fun e w' h => ⟨h.1, z2.trans h.2 (fun _ e => e.elim)⟩)
              by_cases hjk : j < k
              · have hz1 : (j : Int) < (k : Int) := by omega
                have hz2 : ¬ (j : Int) < (m : Int) := by omega
                go_upto_region 26 with (go_at_call 8; refine a1.mono ?_; rintro r w8 ⟨rfl, k8⟩; have H8 := hid (HR.out.trans k8 (fun _ e => e.elim)); clear k8 a1)
                have a2 := HDB.out w8 H8.out
                rcases hdc with ⟨hd, he⟩ | ⟨r, hd, hr2, hr3, hrt⟩
                · obtain ⟨hA, hO⟩ := HPI.out.1 he
                  rw [hd] at a2
                  rw [hd, hA, hO]
                  clear HPI HDB HDT he hd
                  go_upto_region 30 with (go_at_call 8; refine a2.mono ?_; rintro r w9 ⟨rfl, k9⟩; have H9 := hid (H8.out.trans k9 (fun _ e => e.elim)); clear k9 a2)
                  refine wp_region_held_drew (S := fun W => Kept No w W) (by kernel_rfl) (H9.out.drew) (fun hS => ?_)
                  refine d_take 0 161 rfl rfl (by kernel_rfl) (by kernel_rfl) (by kernel_rfl) (fun _ _ _ h => h) rfl (fun w' hw' => er_mv _ rfl (.int .i64 (-1)) rfl) hS ?_
                  simp only [Act.put, List.setIfInBounds_toArray, List.set_cons_zero, List.set_cons_succ]
                  refine d_take 1 162 rfl rfl (by kernel_rfl) (by kernel_rfl) (by kernel_rfl) (fun _ _ _ h => h) rfl (fun w' hw' => er_eqI _ _ rfl (-1) (-1) true rfl rfl rfl) hS ?_
                  simp only [Act.put, List.setIfInBounds_toArray, List.set_cons_zero, List.set_cons_succ]
                  refine d_take 2 163 rfl rfl (by kernel_rfl) (by kernel_rfl) (by kernel_rfl) (fun _ _ _ h => h) rfl (fun w' hw' => er_mv _ rfl (.bool true) rfl) hS ?_
                  simp only [Act.put, List.setIfInBounds_toArray, List.set_cons_zero, List.set_cons_succ]
                  refine d_skip 3 164 rfl rfl (by kernel_rfl) (by kernel_rfl) (by kernel_rfl) (fun _ _ _ h => h) rfl hS ?_
                  simp only [Act.put, List.setIfInBounds_toArray, List.set_cons_zero, List.set_cons_succ]
                  refine d_skip 4 165 rfl rfl (by kernel_rfl) (by kernel_rfl) (by kernel_rfl) (fun _ _ _ h => h) rfl hS ?_
                  simp only [Act.put, List.setIfInBounds_toArray, List.set_cons_zero, List.set_cons_succ]
                  refine d_skip 5 166 rfl rfl (by kernel_rfl) (by kernel_rfl) (by kernel_rfl) (fun _ _ _ h => h) rfl hS ?_
                  simp only [Act.put, List.setIfInBounds_toArray, List.set_cons_zero, List.set_cons_succ]
                  refine d_skip 6 167 rfl rfl (by kernel_rfl) (by kernel_rfl) (by kernel_rfl) (fun _ _ _ h => h) rfl hS ?_
                  simp only [Act.put, List.setIfInBounds_toArray, List.set_cons_zero, List.set_cons_succ]
                  refine d_skip 7 168 rfl rfl (by kernel_rfl) (by kernel_rfl) (by kernel_rfl) (fun _ _ _ h => h) rfl hS ?_
                  simp only [Act.put, List.setIfInBounds_toArray, List.set_cons_zero, List.set_cons_succ]
                  refine d_skip 8 169 rfl rfl (by kernel_rfl) (by kernel_rfl) (by kernel_rfl) (fun _ _ _ h => h) rfl hS ?_
                  simp only [Act.put, List.setIfInBounds_toArray, List.set_cons_zero, List.set_cons_succ]
                  refine d_skip 9 170 rfl rfl (by kernel_rfl) (by kernel_rfl) (by kernel_rfl) (fun _ _ _ h => h) rfl hS ?_
                  simp only [Act.put, List.setIfInBounds_toArray, List.set_cons_zero, List.set_cons_succ]
                  refine d_skip 10 171 rfl rfl (by kernel_rfl) (by kernel_rfl) (by kernel_rfl) (fun _ _ _ h => h) rfl hS ?_
                  simp only [Act.put, List.setIfInBounds_toArray, List.set_cons_zero, List.set_cons_succ]
                  refine d_take 11 172 rfl rfl (by kernel_rfl) (by kernel_rfl) (by kernel_rfl) (fun _ _ _ h => h) rfl (fun w' hw' => er_pk _ _ _ rfl true (.bool true) rfl rfl) hS ?_
                  simp only [Act.put, List.setIfInBounds_toArray, List.set_cons_zero, List.set_cons_succ]
                  refine d_take 12 4 rfl rfl (by kernel_rfl) (by kernel_rfl) (by kernel_rfl) (fun _ _ _ h => h) rfl (fun w' hw' => er_as _ rfl (.bool true) rfl) hS ?_
                  simp only [Act.put, List.setIfInBounds_toArray, List.set_cons_zero, List.set_cons_succ]
                  refine wpAnyH_done (by kernel_rfl) ?_ _
                  have HF := hid hS
                  clear hS
                  go_wp2
                  go_ret
                  exact ⟨rfl, HF.out⟩
                · have hne : ¬ xs = ys := fun e => by have := difV_none.2 e; omega
                  have hAO : alk xs ys 32 = false ∨ (alk xs ys 32 = true ∧ ord xs ys j = false) := by
                    cases hA : alk xs ys 32 with
                    | false => exact .inl rfl
                    | true =>
                      cases hO : ord xs ys j with
                      | false => exact .inr ⟨rfl, rfl⟩
                      | true => exact absurd (HPI.out.2 ⟨hA, hO⟩) hne
                  have hr1 : ((r : Int) == -1) = false := by simp
                  have hr2 : r ≤ k := by omega
                  have hr3 : r ≤ m := by omega
                  have hr4 : (r : Int) ≤ (k : Int) := by omega
                  have hr5 : (r : Int) ≤ (m : Int) := by omega
                  rw [hd] at a2
                  rw [hd]
                  have HDT2 : Hid (∀ W0 W, Kept No w W0 → Kept No W0 W → Calls Tryd.prog 8 #[.slice a r c, .slice b r d] W fun e w' => e = .returned (.int .i64 (-1)) ∧ Kept No W0 w') := fun W0 W z z2 => HDT.out W0 W z z2 r hr2 hr3 hrt
                  clear HPI HDB HDT hd hrt hne
                  rcases hAO with hA | ⟨hA, hO⟩
                  · rw [hA]
                    generalize ord xs ys j = OO at *
                    go_upto_region 30 with (go_at_call 8; refine a2.mono ?_; rintro r w9 ⟨rfl, k9⟩; have H9 := hid (H8.out.trans k9 (fun _ e => e.elim)); clear k9 a2)
                    refine wp_region_held_drew (S := fun W => Kept No w9 W) (by kernel_rfl) ((Kept.refl No w9).drew) (fun hS => ?_)
                    refine d_take 0 161 rfl rfl (by kernel_rfl) (by kernel_rfl) (by kernel_rfl) (fun _ _ _ h => h) rfl (fun w' hw' => er_mv _ rfl (.int .i64 (r : Int)) rfl) hS ?_
                    simp only [Act.put, List.setIfInBounds_toArray, List.set_cons_zero, List.set_cons_succ]
                    refine d_take 1 162 rfl rfl (by kernel_rfl) (by kernel_rfl) (by kernel_rfl) (fun _ _ _ h => h) rfl (fun w' hw' => er_eqI _ _ rfl (r : Int) (-1) false rfl rfl hr1) hS ?_
                    simp only [Act.put, List.setIfInBounds_toArray, List.set_cons_zero, List.set_cons_succ]
                    refine d_take 2 163 rfl rfl (by kernel_rfl) (by kernel_rfl) (by kernel_rfl) (fun _ _ _ h => h) rfl (fun w' hw' => er_mv _ rfl (.bool false) rfl) hS ?_
                    simp only [Act.put, List.setIfInBounds_toArray, List.set_cons_zero, List.set_cons_succ]
                    refine d_take 3 164 rfl rfl (by kernel_rfl) (by kernel_rfl) (by kernel_rfl) (fun _ _ _ h => h) rfl (fun w' hw' => er_mv _ rfl (.slice a k c) rfl) hS ?_
                    simp only [Act.put, List.setIfInBounds_toArray, List.set_cons_zero, List.set_cons_succ]
                    refine d_take 4 165 rfl rfl (by kernel_rfl) (by kernel_rfl) (by kernel_rfl) (fun _ _ _ h => h) rfl (fun w' hw' => er_mv _ rfl (.int .i64 (r : Int)) rfl) hS ?_
                    simp only [Act.put, List.setIfInBounds_toArray, List.set_cons_zero, List.set_cons_succ]
                    refine d_take 5 166 rfl rfl (by kernel_rfl) (by kernel_rfl) (by kernel_rfl) (fun _ _ _ h => h) rfl (fun w' hw' => er_slT _ _ rfl a k c r rfl rfl hr2 hxc HAB.out.1) hS ?_
                    simp only [Act.put, List.setIfInBounds_toArray, List.set_cons_zero, List.set_cons_succ]
                    refine d_take 6 167 rfl rfl (by kernel_rfl) (by kernel_rfl) (by kernel_rfl) (fun _ _ _ h => h) rfl (fun w' hw' => er_mv _ rfl (.slice b m d) rfl) hS ?_
                    simp only [Act.put, List.setIfInBounds_toArray, List.set_cons_zero, List.set_cons_succ]
                    refine d_take 7 168 rfl rfl (by kernel_rfl) (by kernel_rfl) (by kernel_rfl) (fun _ _ _ h => h) rfl (fun w' hw' => er_mv _ rfl (.int .i64 (r : Int)) rfl) hS ?_
                    simp only [Act.put, List.setIfInBounds_toArray, List.set_cons_zero, List.set_cons_succ]
                    refine d_take 8 169 rfl rfl (by kernel_rfl) (by kernel_rfl) (by kernel_rfl) (fun _ _ _ h => h) rfl (fun w' hw' => er_slT _ _ rfl b m d r rfl rfl hr3 hyc HAB.out.2) hS ?_
                    simp only [Act.put, List.setIfInBounds_toArray, List.set_cons_zero, List.set_cons_succ]
                    refine d_call 9 170 (by kernel_rfl) rfl rfl rfl (er_cDif _ _ _ _ rfl (.slice a r c) (.slice b r d) rfl rfl) (HDT2.out w9 _ H9.out hS) (fun w' hS => ?_)
                    simp only [Act.put, List.setIfInBounds_toArray, List.set_cons_zero, List.set_cons_succ]
                    refine d_take 10 171 rfl rfl (by kernel_rfl) (by kernel_rfl) (by kernel_rfl) (fun _ _ _ h => h) rfl (fun w' hw' => er_eqI _ _ rfl (-1) (-1) true rfl rfl rfl) hS ?_
                    simp only [Act.put, List.setIfInBounds_toArray, List.set_cons_zero, List.set_cons_succ]
                    refine d_take 11 172 rfl rfl (by kernel_rfl) (by kernel_rfl) (by kernel_rfl) (fun _ _ _ h => h) rfl (fun w' hw' => er_pk _ _ _ rfl false (.bool true) rfl rfl) hS ?_
                    simp only [Act.put, List.setIfInBounds_toArray, List.set_cons_zero, List.set_cons_succ]
                    refine d_take 12 4 rfl rfl (by kernel_rfl) (by kernel_rfl) (by kernel_rfl) (fun _ _ _ h => h) rfl (fun w' hw' => er_as _ rfl (.bool true) rfl) hS ?_
                    simp only [Act.put, List.setIfInBounds_toArray, List.set_cons_zero, List.set_cons_succ]
                    refine wpAnyH_done (by kernel_rfl) ?_ _
                    have HF := hid (H9.out.trans hS (fun _ e => e.elim))
                    clear hS
                    go_wp2
                    go_ret
                    exact ⟨rfl, HF.out⟩
                  · rw [hA, hO]
                    go_upto_region 30 with (go_at_call 8; refine a2.mono ?_; rintro r w9 ⟨rfl, k9⟩; have H9 := hid (H8.out.trans k9 (fun _ e => e.elim)); clear k9 a2)
                    refine wp_region_held_drew (S := fun W => Kept No w9 W) (by kernel_rfl) ((Kept.refl No w9).drew) (fun hS => ?_)
                    refine d_take 0 161 rfl rfl (by kernel_rfl) (by kernel_rfl) (by kernel_rfl) (fun _ _ _ h => h) rfl (fun w' hw' => er_mv _ rfl (.int .i64 (r : Int)) rfl) hS ?_
                    simp only [Act.put, List.setIfInBounds_toArray, List.set_cons_zero, List.set_cons_succ]
                    refine d_take 1 162 rfl rfl (by kernel_rfl) (by kernel_rfl) (by kernel_rfl) (fun _ _ _ h => h) rfl (fun w' hw' => er_eqI _ _ rfl (r : Int) (-1) false rfl rfl hr1) hS ?_
                    simp only [Act.put, List.setIfInBounds_toArray, List.set_cons_zero, List.set_cons_succ]
                    refine d_take 2 163 rfl rfl (by kernel_rfl) (by kernel_rfl) (by kernel_rfl) (fun _ _ _ h => h) rfl (fun w' hw' => er_mv _ rfl (.bool false) rfl) hS ?_
                    simp only [Act.put, List.setIfInBounds_toArray, List.set_cons_zero, List.set_cons_succ]
                    refine d_take 3 164 rfl rfl (by kernel_rfl) (by kernel_rfl) (by kernel_rfl) (fun _ _ _ h => h) rfl (fun w' hw' => er_mv _ rfl (.slice a k c) rfl) hS ?_
                    simp only [Act.put, List.setIfInBounds_toArray, List.set_cons_zero, List.set_cons_succ]
                    refine d_take 4 165 rfl rfl (by kernel_rfl) (by kernel_rfl) (by kernel_rfl) (fun _ _ _ h => h) rfl (fun w' hw' => er_mv _ rfl (.int .i64 (r : Int)) rfl) hS ?_
                    simp only [Act.put, List.setIfInBounds_toArray, List.set_cons_zero, List.set_cons_succ]
                    refine d_take 5 166 rfl rfl (by kernel_rfl) (by kernel_rfl) (by kernel_rfl) (fun _ _ _ h => h) rfl (fun w' hw' => er_slT _ _ rfl a k c r rfl rfl hr2 hxc HAB.out.1) hS ?_
                    simp only [Act.put, List.setIfInBounds_toArray, List.set_cons_zero, List.set_cons_succ]
                    refine d_take 6 167 rfl rfl (by kernel_rfl) (by kernel_rfl) (by kernel_rfl) (fun _ _ _ h => h) rfl (fun w' hw' => er_mv _ rfl (.slice b m d) rfl) hS ?_
                    simp only [Act.put, List.setIfInBounds_toArray, List.set_cons_zero, List.set_cons_succ]
                    refine d_take 7 168 rfl rfl (by kernel_rfl) (by kernel_rfl) (by kernel_rfl) (fun _ _ _ h => h) rfl (fun w' hw' => er_mv _ rfl (.int .i64 (r : Int)) rfl) hS ?_
                    simp only [Act.put, List.setIfInBounds_toArray, List.set_cons_zero, List.set_cons_succ]
                    refine d_take 8 169 rfl rfl (by kernel_rfl) (by kernel_rfl) (by kernel_rfl) (fun _ _ _ h => h) rfl (fun w' hw' => er_slT _ _ rfl b m d r rfl rfl hr3 hyc HAB.out.2) hS ?_
                    simp only [Act.put, List.setIfInBounds_toArray, List.set_cons_zero, List.set_cons_succ]
                    refine d_call 9 170 (by kernel_rfl) rfl rfl rfl (er_cDif _ _ _ _ rfl (.slice a r c) (.slice b r d) rfl rfl) (HDT2.out w9 _ H9.out hS) (fun w' hS => ?_)
                    simp only [Act.put, List.setIfInBounds_toArray, List.set_cons_zero, List.set_cons_succ]
                    refine d_take 10 171 rfl rfl (by kernel_rfl) (by kernel_rfl) (by kernel_rfl) (fun _ _ _ h => h) rfl (fun w' hw' => er_eqI _ _ rfl (-1) (-1) true rfl rfl rfl) hS ?_
                    simp only [Act.put, List.setIfInBounds_toArray, List.set_cons_zero, List.set_cons_succ]
                    refine d_take 11 172 rfl rfl (by kernel_rfl) (by kernel_rfl) (by kernel_rfl) (fun _ _ _ h => h) rfl (fun w' hw' => er_pk _ _ _ rfl false (.bool true) rfl rfl) hS ?_
                    simp only [Act.put, List.setIfInBounds_toArray, List.set_cons_zero, List.set_cons_succ]
                    refine d_take 12 4 rfl rfl (by kernel_rfl) (by kernel_rfl) (by kernel_rfl) (fun _ _ _ h => h) rfl (fun w' hw' => er_as _ rfl (.bool true) rfl) hS ?_
                    simp only [Act.put, List.setIfInBounds_toArray, List.set_cons_zero, List.set_cons_succ]
                    refine wpAnyH_done (by kernel_rfl) ?_ _
                    have HF := hid (H9.out.trans hS (fun _ e => e.elim))
                    clear hS
                    go_wp2
                    go_ret
                    exact ⟨rfl, HF.out⟩
              · have hz1 : ¬ (j : Int) < (k : Int) := by omega
                go_upto_region 26 with (go_at_call 8; refine a1.mono ?_; rintro r w8 ⟨rfl, k8⟩; have H8 := hid (HR.out.trans k8 (fun _ e => e.elim)); clear k8 a1)
                have a2 := HDB.out w8 H8.out
                rcases hdc with ⟨hd, he⟩ | ⟨r, hd, hr2, hr3, hrt⟩
                · obtain ⟨hA, hO⟩ := HPI.out.1 he
                  rw [hd] at a2
                  rw [hd, hA, hO]
                  clear HPI HDB HDT he hd
                  go_upto_region 30 with (go_at_call 8; refine a2.mono ?_; rintro r w9 ⟨rfl, k9⟩; have H9 := hid (H8.out.trans k9 (fun _ e => e.elim)); clear k9 a2)
                  refine wp_region_held_drew (S := fun W => Kept No w W) (by kernel_rfl) (H9.out.drew) (fun hS => ?_)
                  refine d_take 0 161 rfl rfl (by kernel_rfl) (by kernel_rfl) (by kernel_rfl) (fun _ _ _ h => h) rfl (fun w' hw' => er_mv _ rfl (.int .i64 (-1)) rfl) hS ?_
                  simp only [Act.put, List.setIfInBounds_toArray, List.set_cons_zero, List.set_cons_succ]
                  refine d_take 1 162 rfl rfl (by kernel_rfl) (by kernel_rfl) (by kernel_rfl) (fun _ _ _ h => h) rfl (fun w' hw' => er_eqI _ _ rfl (-1) (-1) true rfl rfl rfl) hS ?_
                  simp only [Act.put, List.setIfInBounds_toArray, List.set_cons_zero, List.set_cons_succ]
                  refine d_take 2 163 rfl rfl (by kernel_rfl) (by kernel_rfl) (by kernel_rfl) (fun _ _ _ h => h) rfl (fun w' hw' => er_mv _ rfl (.bool true) rfl) hS ?_
                  simp only [Act.put, List.setIfInBounds_toArray, List.set_cons_zero, List.set_cons_succ]
                  refine d_skip 3 164 rfl rfl (by kernel_rfl) (by kernel_rfl) (by kernel_rfl) (fun _ _ _ h => h) rfl hS ?_
                  simp only [Act.put, List.setIfInBounds_toArray, List.set_cons_zero, List.set_cons_succ]
                  refine d_skip 4 165 rfl rfl (by kernel_rfl) (by kernel_rfl) (by kernel_rfl) (fun _ _ _ h => h) rfl hS ?_
                  simp only [Act.put, List.setIfInBounds_toArray, List.set_cons_zero, List.set_cons_succ]
                  refine d_skip 5 166 rfl rfl (by kernel_rfl) (by kernel_rfl) (by kernel_rfl) (fun _ _ _ h => h) rfl hS ?_
                  simp only [Act.put, List.setIfInBounds_toArray, List.set_cons_zero, List.set_cons_succ]
                  refine d_skip 6 167 rfl rfl (by kernel_rfl) (by kernel_rfl) (by kernel_rfl) (fun _ _ _ h => h) rfl hS ?_
                  simp only [Act.put, List.setIfInBounds_toArray, List.set_cons_zero, List.set_cons_succ]
                  refine d_skip 7 168 rfl rfl (by kernel_rfl) (by kernel_rfl) (by kernel_rfl) (fun _ _ _ h => h) rfl hS ?_
                  simp only [Act.put, List.setIfInBounds_toArray, List.set_cons_zero, List.set_cons_succ]
                  refine d_skip 8 169 rfl rfl (by kernel_rfl) (by kernel_rfl) (by kernel_rfl) (fun _ _ _ h => h) rfl hS ?_
                  simp only [Act.put, List.setIfInBounds_toArray, List.set_cons_zero, List.set_cons_succ]
                  refine d_skip 9 170 rfl rfl (by kernel_rfl) (by kernel_rfl) (by kernel_rfl) (fun _ _ _ h => h) rfl hS ?_
                  simp only [Act.put, List.setIfInBounds_toArray, List.set_cons_zero, List.set_cons_succ]
                  refine d_skip 10 171 rfl rfl (by kernel_rfl) (by kernel_rfl) (by kernel_rfl) (fun _ _ _ h => h) rfl hS ?_
                  simp only [Act.put, List.setIfInBounds_toArray, List.set_cons_zero, List.set_cons_succ]
                  refine d_take 11 172 rfl rfl (by kernel_rfl) (by kernel_rfl) (by kernel_rfl) (fun _ _ _ h => h) rfl (fun w' hw' => er_pk _ _ _ rfl true (.bool true) rfl rfl) hS ?_
                  simp only [Act.put, List.setIfInBounds_toArray, List.set_cons_zero, List.set_cons_succ]
                  refine d_take 12 4 rfl rfl (by kernel_rfl) (by kernel_rfl) (by kernel_rfl) (fun _ _ _ h => h) rfl (fun w' hw' => er_as _ rfl (.bool true) rfl) hS ?_
                  simp only [Act.put, List.setIfInBounds_toArray, List.set_cons_zero, List.set_cons_succ]
                  refine wpAnyH_done (by kernel_rfl) ?_ _
                  have HF := hid hS
                  clear hS
                  go_wp2
                  go_ret
                  exact ⟨rfl, HF.out⟩
                · have hne : ¬ xs = ys := fun e => by have := difV_none.2 e; omega
                  have hAO : alk xs ys 32 = false ∨ (alk xs ys 32 = true ∧ ord xs ys j = false) := by
                    cases hA : alk xs ys 32 with
                    | false => exact .inl rfl
                    | true =>
                      cases hO : ord xs ys j with
                      | false => exact .inr ⟨rfl, rfl⟩
                      | true => exact absurd (HPI.out.2 ⟨hA, hO⟩) hne
                  have hr1 : ((r : Int) == -1) = false := by simp
                  have hr2 : r ≤ k := by omega
                  have hr3 : r ≤ m := by omega
                  have hr4 : (r : Int) ≤ (k : Int) := by omega
                  have hr5 : (r : Int) ≤ (m : Int) := by omega
                  rw [hd] at a2
                  rw [hd]
                  have HDT2 : Hid (∀ W0 W, Kept No w W0 → Kept No W0 W → Calls Tryd.prog 8 #[.slice a r c, .slice b r d] W fun e w' => e = .returned (.int .i64 (-1)) ∧ Kept No W0 w') := fun W0 W z z2 => HDT.out W0 W z z2 r hr2 hr3 hrt
                  clear HPI HDB HDT hd hrt hne
                  rcases hAO with hA | ⟨hA, hO⟩
                  · rw [hA]
                    generalize ord xs ys j = OO at *
                    go_upto_region 30 with (go_at_call 8; refine a2.mono ?_; rintro r w9 ⟨rfl, k9⟩; have H9 := hid (H8.out.trans k9 (fun _ e => e.elim)); clear k9 a2)
                    refine wp_region_held_drew (S := fun W => Kept No w9 W) (by kernel_rfl) ((Kept.refl No w9).drew) (fun hS => ?_)
                    refine d_take 0 161 rfl rfl (by kernel_rfl) (by kernel_rfl) (by kernel_rfl) (fun _ _ _ h => h) rfl (fun w' hw' => er_mv _ rfl (.int .i64 (r : Int)) rfl) hS ?_
                    simp only [Act.put, List.setIfInBounds_toArray, List.set_cons_zero, List.set_cons_succ]
                    refine d_take 1 162 rfl rfl (by kernel_rfl) (by kernel_rfl) (by kernel_rfl) (fun _ _ _ h => h) rfl (fun w' hw' => er_eqI _ _ rfl (r : Int) (-1) false rfl rfl hr1) hS ?_
                    simp only [Act.put, List.setIfInBounds_toArray, List.set_cons_zero, List.set_cons_succ]
                    refine d_take 2 163 rfl rfl (by kernel_rfl) (by kernel_rfl) (by kernel_rfl) (fun _ _ _ h => h) rfl (fun w' hw' => er_mv _ rfl (.bool false) rfl) hS ?_
                    simp only [Act.put, List.setIfInBounds_toArray, List.set_cons_zero, List.set_cons_succ]
                    refine d_take 3 164 rfl rfl (by kernel_rfl) (by kernel_rfl) (by kernel_rfl) (fun _ _ _ h => h) rfl (fun w' hw' => er_mv _ rfl (.slice a k c) rfl) hS ?_
                    simp only [Act.put, List.setIfInBounds_toArray, List.set_cons_zero, List.set_cons_succ]
                    refine d_take 4 165 rfl rfl (by kernel_rfl) (by kernel_rfl) (by kernel_rfl) (fun _ _ _ h => h) rfl (fun w' hw' => er_mv _ rfl (.int .i64 (r : Int)) rfl) hS ?_
                    simp only [Act.put, List.setIfInBounds_toArray, List.set_cons_zero, List.set_cons_succ]
                    refine d_take 5 166 rfl rfl (by kernel_rfl) (by kernel_rfl) (by kernel_rfl) (fun _ _ _ h => h) rfl (fun w' hw' => er_slT _ _ rfl a k c r rfl rfl hr2 hxc HAB.out.1) hS ?_
                    simp only [Act.put, List.setIfInBounds_toArray, List.set_cons_zero, List.set_cons_succ]
                    refine d_take 6 167 rfl rfl (by kernel_rfl) (by kernel_rfl) (by kernel_rfl) (fun _ _ _ h => h) rfl (fun w' hw' => er_mv _ rfl (.slice b m d) rfl) hS ?_
                    simp only [Act.put, List.setIfInBounds_toArray, List.set_cons_zero, List.set_cons_succ]
                    refine d_take 7 168 rfl rfl (by kernel_rfl) (by kernel_rfl) (by kernel_rfl) (fun _ _ _ h => h) rfl (fun w' hw' => er_mv _ rfl (.int .i64 (r : Int)) rfl) hS ?_
                    simp only [Act.put, List.setIfInBounds_toArray, List.set_cons_zero, List.set_cons_succ]
                    refine d_take 8 169 rfl rfl (by kernel_rfl) (by kernel_rfl) (by kernel_rfl) (fun _ _ _ h => h) rfl (fun w' hw' => er_slT _ _ rfl b m d r rfl rfl hr3 hyc HAB.out.2) hS ?_
                    simp only [Act.put, List.setIfInBounds_toArray, List.set_cons_zero, List.set_cons_succ]
                    refine d_call 9 170 (by kernel_rfl) rfl rfl rfl (er_cDif _ _ _ _ rfl (.slice a r c) (.slice b r d) rfl rfl) (HDT2.out w9 _ H9.out hS) (fun w' hS => ?_)
                    simp only [Act.put, List.setIfInBounds_toArray, List.set_cons_zero, List.set_cons_succ]
                    refine d_take 10 171 rfl rfl (by kernel_rfl) (by kernel_rfl) (by kernel_rfl) (fun _ _ _ h => h) rfl (fun w' hw' => er_eqI _ _ rfl (-1) (-1) true rfl rfl rfl) hS ?_
                    simp only [Act.put, List.setIfInBounds_toArray, List.set_cons_zero, List.set_cons_succ]
                    refine d_take 11 172 rfl rfl (by kernel_rfl) (by kernel_rfl) (by kernel_rfl) (fun _ _ _ h => h) rfl (fun w' hw' => er_pk _ _ _ rfl false (.bool true) rfl rfl) hS ?_
                    simp only [Act.put, List.setIfInBounds_toArray, List.set_cons_zero, List.set_cons_succ]
                    refine d_take 12 4 rfl rfl (by kernel_rfl) (by kernel_rfl) (by kernel_rfl) (fun _ _ _ h => h) rfl (fun w' hw' => er_as _ rfl (.bool true) rfl) hS ?_
                    simp only [Act.put, List.setIfInBounds_toArray, List.set_cons_zero, List.set_cons_succ]
                    refine wpAnyH_done (by kernel_rfl) ?_ _
                    have HF := hid (H9.out.trans hS (fun _ e => e.elim))
                    clear hS
                    go_wp2
                    go_ret
                    exact ⟨rfl, HF.out⟩
                  · rw [hA, hO]
                    go_upto_region 30 with (go_at_call 8; refine a2.mono ?_; rintro r w9 ⟨rfl, k9⟩; have H9 := hid (H8.out.trans k9 (fun _ e => e.elim)); clear k9 a2)
                    refine wp_region_held_drew (S := fun W => Kept No w9 W) (by kernel_rfl) ((Kept.refl No w9).drew) (fun hS => ?_)
                    refine d_take 0 161 rfl rfl (by kernel_rfl) (by kernel_rfl) (by kernel_rfl) (fun _ _ _ h => h) rfl (fun w' hw' => er_mv _ rfl (.int .i64 (r : Int)) rfl) hS ?_
                    simp only [Act.put, List.setIfInBounds_toArray, List.set_cons_zero, List.set_cons_succ]
                    refine d_take 1 162 rfl rfl (by kernel_rfl) (by kernel_rfl) (by kernel_rfl) (fun _ _ _ h => h) rfl (fun w' hw' => er_eqI _ _ rfl (r : Int) (-1) false rfl rfl hr1) hS ?_
                    simp only [Act.put, List.setIfInBounds_toArray, List.set_cons_zero, List.set_cons_succ]
                    refine d_take 2 163 rfl rfl (by kernel_rfl) (by kernel_rfl) (by kernel_rfl) (fun _ _ _ h => h) rfl (fun w' hw' => er_mv _ rfl (.bool false) rfl) hS ?_
                    simp only [Act.put, List.setIfInBounds_toArray, List.set_cons_zero, List.set_cons_succ]
                    refine d_take 3 164 rfl rfl (by kernel_rfl) (by kernel_rfl) (by kernel_rfl) (fun _ _ _ h => h) rfl (fun w' hw' => er_mv _ rfl (.slice a k c) rfl) hS ?_
                    simp only [Act.put, List.setIfInBounds_toArray, List.set_cons_zero, List.set_cons_succ]
                    refine d_take 4 165 rfl rfl (by kernel_rfl) (by kernel_rfl) (by kernel_rfl) (fun _ _ _ h => h) rfl (fun w' hw' => er_mv _ rfl (.int .i64 (r : Int)) rfl) hS ?_
                    simp only [Act.put, List.setIfInBounds_toArray, List.set_cons_zero, List.set_cons_succ]
                    refine d_take 5 166 rfl rfl (by kernel_rfl) (by kernel_rfl) (by kernel_rfl) (fun _ _ _ h => h) rfl (fun w' hw' => er_slT _ _ rfl a k c r rfl rfl hr2 hxc HAB.out.1) hS ?_
                    simp only [Act.put, List.setIfInBounds_toArray, List.set_cons_zero, List.set_cons_succ]
                    refine d_take 6 167 rfl rfl (by kernel_rfl) (by kernel_rfl) (by kernel_rfl) (fun _ _ _ h => h) rfl (fun w' hw' => er_mv _ rfl (.slice b m d) rfl) hS ?_
                    simp only [Act.put, List.setIfInBounds_toArray, List.set_cons_zero, List.set_cons_succ]
                    refine d_take 7 168 rfl rfl (by kernel_rfl) (by kernel_rfl) (by kernel_rfl) (fun _ _ _ h => h) rfl (fun w' hw' => er_mv _ rfl (.int .i64 (r : Int)) rfl) hS ?_
                    simp only [Act.put, List.setIfInBounds_toArray, List.set_cons_zero, List.set_cons_succ]
                    refine d_take 8 169 rfl rfl (by kernel_rfl) (by kernel_rfl) (by kernel_rfl) (fun _ _ _ h => h) rfl (fun w' hw' => er_slT _ _ rfl b m d r rfl rfl hr3 hyc HAB.out.2) hS ?_
                    simp only [Act.put, List.setIfInBounds_toArray, List.set_cons_zero, List.set_cons_succ]
                    refine d_call 9 170 (by kernel_rfl) rfl rfl rfl (er_cDif _ _ _ _ rfl (.slice a r c) (.slice b r d) rfl rfl) (HDT2.out w9 _ H9.out hS) (fun w' hS => ?_)
                    simp only [Act.put, List.setIfInBounds_toArray, List.set_cons_zero, List.set_cons_succ]
                    refine d_take 10 171 rfl rfl (by kernel_rfl) (by kernel_rfl) (by kernel_rfl) (fun _ _ _ h => h) rfl (fun w' hw' => er_eqI _ _ rfl (-1) (-1) true rfl rfl rfl) hS ?_
                    simp only [Act.put, List.setIfInBounds_toArray, List.set_cons_zero, List.set_cons_succ]
                    refine d_take 11 172 rfl rfl (by kernel_rfl) (by kernel_rfl) (by kernel_rfl) (fun _ _ _ h => h) rfl (fun w' hw' => er_pk _ _ _ rfl false (.bool true) rfl rfl) hS ?_
                    simp only [Act.put, List.setIfInBounds_toArray, List.set_cons_zero, List.set_cons_succ]
                    refine d_take 12 4 rfl rfl (by kernel_rfl) (by kernel_rfl) (by kernel_rfl) (fun _ _ _ h => h) rfl (fun w' hw' => er_as _ rfl (.bool true) rfl) hS ?_
                    simp only [Act.put, List.setIfInBounds_toArray, List.set_cons_zero, List.set_cons_succ]
                    refine wpAnyH_done (by kernel_rfl) ?_ _
                    have HF := hid (H9.out.trans hS (fun _ e => e.elim))
                    clear hS
                    go_wp2
                    go_ret
                    exact ⟨rfl, HF.out⟩
end Go.Proofs.YtdnfdnionkfamaaDoor
