/-
  One text: ZSy3.
-/
import Derived.Test.YtibmgpinfdcaoaaGreatDoorHZSym
namespace Go.Proofs.YtibmgpinfdcaoaaGreatDoor
open Go.RowKit Go.Shelf Plain
set_option linter.unusedVariables false
set_option linter.unusedSimpArgs false
set_option maxRecDepth 100000

theorem hid {p : Prop} (h : p) : Hid p := h

set_option maxHeartbeats 16000000 in
theorem sym3T {w0 : World} {g f n a m b pb N : Nat} {K : Nat → Int} {D : Nat → Nat} (ham : a < m) (hmb : m < b) (hb : b ≤ n) (hn : n ≤ 1000) (hc : CmpK w0 g f #[.pointer (some ⟨pb, 0, none⟩)] N K) (hR : Rp w0 g n D) (hN : ∀ i, i < n → D i < N) (hs1 : So K a m D) (hs2 : So K m b D) (hx : Xl a m b D) (hE : Tyg f) (h1 : m ≠ a + 1) (h2 : b ≠ m + 1) (hcase : (a + b) / 2 < m)
    (IH : ∀ (a' m' b' : Nat) (D' : Nat → Nat) (w' : World), b' - a' < b - a → a' < m' → m' < b' → b' ≤ n → CmpK w' g f #[.pointer (some ⟨pb, 0, none⟩)] N K → Rp w' g n D' → (∀ i, i < n → D' i < N) → So K a' m' D' → So K m' b' D' → Xl a' m' b' D' →
      Calls Tryz.prog 77 #[.slice (some ⟨g, 0, none⟩) n n, .int .i64 (a' : Int), .int .i64 (m' : Int), .int .i64 (b' : Int), .func (.func f) #[] #[.pointer (some ⟨pb, 0, none⟩)]] w' fun e w'' => e = .returned (.tuple #[]) ∧ Kept (fun k => k = g) w' w'' ∧ ∃ D'', Rp w'' g n D'' ∧ Pm a' b' D' D'' ∧ So K a' b' D'') :
    Calls Tryz.prog 77 #[.slice (some ⟨g, 0, none⟩) n n, .int .i64 (a : Int), .int .i64 (m : Int), .int .i64 (b : Int), .func (.func f) #[] #[.pointer (some ⟨pb, 0, none⟩)]] w0 fun e w' => e = .returned (.tuple #[]) ∧ Kept (fun k => k = g) w0 w' ∧ ∃ D', Rp w' g n D' ∧ Pm a b D D' ∧ So K a b D' := by
  have HC : Hid (CmpK w0 g f #[.pointer (some ⟨pb, 0, none⟩)] N K) := hc
  have HNN : Hid (∀ i, i < n → D i < N) := hN
  have HEn : Hid (Tyg f) := hE
  have HR : Hid (Rp w0 g n D) := hR
  have HAB : Hid (a < m ∧ m < b ∧ b ≤ n ∧ n ≤ 1000) := ⟨ham, hmb, hb, hn⟩
  have HSo : Hid (So K a m D ∧ So K m b D ∧ Xl a m b D) := ⟨hs1, hs2, hx⟩
  clear hc hN hE hR hs1 hs2 hx
  have HIH := hid IH
  clear IH
  obtain ⟨d, hd⟩ : ∃ d : Nat, d = m - a := ⟨_, rfl⟩
  obtain ⟨d2, hd2⟩ : ∃ d2 : Nat, d2 = b - m := ⟨_, rfl⟩
  obtain ⟨mid, hmid⟩ : ∃ mid : Nat, mid = (a + b) / 2 := ⟨_, rfl⟩
  obtain ⟨nn, hnn⟩ : ∃ nn : Nat, nn = mid + m := ⟨_, rfl⟩
  obtain ⟨lo, hlo⟩ : ∃ lo : Nat, lo = mid + m - b := ⟨_, rfl⟩
  obtain ⟨pp, hpp⟩ : ∃ pp : Nat, pp = mid + m - 1 := ⟨_, rfl⟩
  rw [← hmid] at hcase
  have HRG : Hid (Rng a m b mid lo mid) := ⟨by omega⟩
  have HMD : Hid (mid = (a + b) / 2 ∧ nn = mid + m ∧ pp = mid + m - 1) := ⟨hmid, hnn, hpp⟩
  have HLH : Hid (lo ≤ mid ∧ mid ≤ m ∧ mid ≤ mid ∧ a ≤ lo) := by
    show _ ∧ _ ∧ _ ∧ _
    omega
  have e1 : (m : Int) - (a : Int) = (d : Int) := by omega
  have e2 : ((d : Int) == 1) = false := by simp; omega
  have e4 : ¬ (d : Int) = 1 := by omega
  have e5 : (d : Int) ≤ 1000 := by omega
  have q1 : (b : Int) - (m : Int) = (d2 : Int) := by omega
  have q2 : ((d2 : Int) == 1) = false := by simp; omega
  have q4 : ¬ (d2 : Int) = 1 := by omega
  have q5 : (d2 : Int) ≤ 1000 := by omega
  have r1 : ((a : Int) + (b : Int)) / 2 = (mid : Int) := by omega
  have r2 : (a : Int) + (b : Int) ≤ 2000 := by omega
  have r3 : (mid : Int) + (m : Int) = (nn : Int) := by omega
  have r4 : (nn : Int) ≤ 3000 := by omega
  have r5 : (nn : Int) - (1 : Int) = (pp : Int) := by omega
  have r6 : (mid : Int) ≤ 1000 := by omega
  have r7 : (mid : Int) < (m : Int) := by omega
  have r8 : (nn : Int) - (b : Int) = (lo : Int) := by omega
  have r9 : (lo : Int) ≤ 1000 := by omega
  clear h1 h2 ham hmb hb hn hd hd2 hmid hnn hlo hpp hcase
  go_enter Tryz.func77, Tryz.ntmps77
  go_wp2
  clear e1 e2 e4 e5 q1 q2 q4 q5 r1 r2 r3 r4 r5 r6 r7 r8 r9
  go_loopw [20, 21] (fun x y wr => ∃ i j : Nat, x = .int .i64 i ∧ y = .int .i64 j ∧ lo ≤ i ∧ i ≤ j ∧ j ≤ mid ∧ (∀ c, lo ≤ c → c < i → ¬ K (D c) < K (D (mid + m - 1 - c))) ∧ (∀ c, j ≤ c → c < mid → K (D c) < K (D (mid + m - 1 - c))) ∧ Kept No w0 wr) (fun x y _ => (intOf y).toNat - (intOf x).toNat)
  case atStart => exact ⟨lo, mid, rfl, rfl, Nat.le_refl _, HLH.out.1, Nat.le_refl _, fun h q1 q2 => by omega, fun h q1 q2 => by omega, Kept.refl _ _⟩
  case round =>
    obtain ⟨i, j, rfl, rfl, q1, q2, q3, q4, q5, q6⟩ := hrel
    have HQ : Hid (lo ≤ i ∧ i ≤ j ∧ j ≤ mid ∧ (∀ c, lo ≤ c → c < i → ¬ K (D c) < K (D (mid + m - 1 - c))) ∧ (∀ c, j ≤ c → c < mid → K (D c) < K (D (mid + m - 1 - c))) ∧ Kept No w0 wr) := ⟨q1, q2, q3, q4, q5, q6⟩
    have hab := HAB.out
    have hlh := HLH.out
    have hmd := HMD.out
    have hrg := HRG.out.r
    clear q4 q5 q6
    by_cases hij : i < j
    · as_aux_lemma =>
        have hij2 : (i : Int) < (j : Int) := by omega
        obtain ⟨h, hh⟩ : ∃ h : Nat, h = (i + j) / 2 := ⟨_, rfl⟩
        obtain ⟨x, hx⟩ : ∃ x : Nat, x = mid + m - 1 - h := ⟨_, rfl⟩
        have hr : i ≤ h ∧ h < j := by omega
        have HH : Hid (i ≤ h ∧ h < j ∧ x = mid + m - 1 - h) := ⟨hr.1, hr.2, hx⟩
        have HX : Hid (wrap64 ((pp : Int) - (h : Int)) = (x : Int)) := by
          show wrap64 _ = _
          rw [show (pp : Int) - (h : Int) = (x : Int) by omega]
          have : (x : Int) ≤ 4000 := by omega
          unfold wrap64; omega
        have HB : Hid (h < n ∧ x < n ∧ n ≤ 9223372036854775807) := ⟨by omega, by omega, by omega⟩
        have ew : ((i : Int) + (j : Int)) / 2 = (h : Int) := by omega
        have hbd : (i : Int) + (j : Int) ≤ 2000 := by omega
        have hh1 : (h : Int) ≤ 2000 := by omega
        clear q1 q2 q3 hr hh hab hlh hmd hrg hx
        go_upto_region 35 with fail
        refine wp_region_kept wr (by kernel_rfl) (by kernel_rfl) (Kept.refl No wr) ?_
        refine BigFrame.wpQuiet_want rfl (fun KQ hKQ => ?_)
        refine quiet_val' (fun w5 hw5 => er_mv _ rfl (.func (.func f) #[] #[.pointer (some ⟨pb, 0, none⟩)]) rfl) ?_
        refine hKQ _ ?_
        clear hKQ KQ
        simp only [Act.put, List.setIfInBounds_toArray, List.set_cons_zero, List.set_cons_succ]
        refine BigFrame.wpQuiet_want rfl (fun KQ hKQ => ?_)
        refine quiet_val' (fun w5 hw5 => er_mv _ rfl (.slice (some ⟨g, 0, none⟩) n n) rfl) ?_
        refine hKQ _ ?_
        clear hKQ KQ
        simp only [Act.put, List.setIfInBounds_toArray, List.set_cons_zero, List.set_cons_succ]
        refine BigFrame.wpQuiet_want rfl (fun KQ hKQ => ?_)
        refine quiet_val' (fun w5 hw5 => er_mv _ rfl (.int .i64 (pp : Int)) rfl) ?_
        refine hKQ _ ?_
        clear hKQ KQ
        simp only [Act.put, List.setIfInBounds_toArray, List.set_cons_zero, List.set_cons_succ]
        refine BigFrame.wpQuiet_want rfl (fun KQ hKQ => ?_)
        refine quiet_val' (fun w5 hw5 => er_mv _ rfl (.int .i64 (h : Int)) rfl) ?_
        refine hKQ _ ?_
        clear hKQ KQ
        simp only [Act.put, List.setIfInBounds_toArray, List.set_cons_zero, List.set_cons_succ]
        refine BigFrame.wpQuiet_want rfl (fun KQ hKQ => ?_)
        refine quiet_val' (fun w5 hw5 => er_sub _ _ rfl (pp : Int) (h : Int) (x : Int) rfl rfl HX.out) ?_
        refine hKQ _ ?_
        clear hKQ KQ
        simp only [Act.put, List.setIfInBounds_toArray, List.set_cons_zero, List.set_cons_succ]
        refine BigFrame.wpQuiet_want rfl (fun KQ hKQ => ?_)
        refine quiet_val' (fun w5 hw5 => er_ixi _ _ rfl g n n x HB.out.2.1 HB.out.2.2 rfl rfl) ?_
        refine hKQ _ ?_
        clear hKQ KQ
        simp only [Act.put, List.setIfInBounds_toArray, List.set_cons_zero, List.set_cons_succ]
        refine BigFrame.wpQuiet_want rfl (fun KQ hKQ => ?_)
        refine quiet_val' (fun w5 hw5 => er_ldI _ rfl g x _ rfl ((Cw.keep (Cw.keep HR.out HQ.out.2.2.2.2.2) hw5).at' x HB.out.2.1)) ?_
        refine hKQ _ ?_
        clear hKQ KQ
        simp only [Act.put, List.setIfInBounds_toArray, List.set_cons_zero, List.set_cons_succ]
        refine BigFrame.wpQuiet_want rfl (fun KQ hKQ => ?_)
        refine quiet_val' (fun w5 hw5 => er_mv _ rfl (.slice (some ⟨g, 0, none⟩) n n) rfl) ?_
        refine hKQ _ ?_
        clear hKQ KQ
        simp only [Act.put, List.setIfInBounds_toArray, List.set_cons_zero, List.set_cons_succ]
        refine BigFrame.wpQuiet_want rfl (fun KQ hKQ => ?_)
        refine quiet_val' (fun w5 hw5 => er_mv _ rfl (.int .i64 (h : Int)) rfl) ?_
        refine hKQ _ ?_
        clear hKQ KQ
        simp only [Act.put, List.setIfInBounds_toArray, List.set_cons_zero, List.set_cons_succ]
        refine BigFrame.wpQuiet_want rfl (fun KQ hKQ => ?_)
        refine quiet_val' (fun w5 hw5 => er_ixi _ _ rfl g n n h HB.out.1 HB.out.2.2 rfl rfl) ?_
        refine hKQ _ ?_
        clear hKQ KQ
        simp only [Act.put, List.setIfInBounds_toArray, List.set_cons_zero, List.set_cons_succ]
        refine BigFrame.wpQuiet_want rfl (fun KQ hKQ => ?_)
        refine quiet_val' (fun w5 hw5 => er_ldI _ rfl g h _ rfl ((Cw.keep (Cw.keep HR.out HQ.out.2.2.2.2.2) hw5).at' h HB.out.1)) ?_
        refine hKQ _ ?_
        clear hKQ KQ
        simp only [Act.put, List.setIfInBounds_toArray, List.set_cons_zero, List.set_cons_succ]
        refine BigFrame.wpQuiet_want rfl (fun KQ hKQ => ?_)
        refine quiet_cmp _ _ _ rfl f #[.pointer (some ⟨pb, 0, none⟩)] (.int .i64 (D x : Int)) (.int .i64 (D h : Int)) (.int .i64 (cvK K (D x) (D h))) rfl rfl rfl HEn.out (fun w5 hw5 => (HC.out w5 (((HQ.out.2.2.2.2.2.mono (fun _ h => h.elim)).trans hw5 (fun _ h => h.elim))) _ _ (HNN.out _ HB.out.2.1) (HNN.out _ HB.out.1)).mono (fun e w6 he => ⟨he.1, hw5.trans he.2 (fun _ x => x.elim)⟩)) ?_
        refine hKQ _ ?_
        clear hKQ KQ
        simp only [Act.put, List.setIfInBounds_toArray, List.set_cons_zero, List.set_cons_succ]
        refine BigFrame.wpQuiet_want rfl (fun KQ hKQ => ?_)
        refine quiet_val' (fun w5 hw5 => er_ltI _ _ rfl (cvK K (D x) (D h)) 0 (decide (K (D h) < K (D x))) rfl rfl (cvK_neg _ _ _)) ?_
        refine hKQ _ ?_
        clear hKQ KQ
        simp only [Act.put, List.setIfInBounds_toArray, List.set_cons_zero, List.set_cons_succ]
        refine BigFrame.wpQuiet_want rfl (fun KQ hKQ => ?_)
        refine quiet_val' (fun w5 hw5 => er_notB _ rfl (decide (K (D h) < K (D x))) (!decide (K (D h) < K (D x))) rfl rfl) ?_
        refine hKQ _ ?_
        clear hKQ KQ
        simp only [Act.put, List.setIfInBounds_toArray, List.set_cons_zero, List.set_cons_succ]
        refine wpQuiet_nil ?_
        intro w9 k9
        have HK9 : Hid (Kept No w0 w9) := HQ.out.2.2.2.2.2.trans k9 (fun _ h => h.elim)
        clear k9
        by_cases hk : K (D h) < K (D x)
        · rw [decide_eq_true hk]
          have HF : Hid (∀ c, h ≤ c → c < mid → K (D c) < K (D (mid + m - 1 - c))) := fun c c1 c2 => by
            have hh := HH.out; have hq := HQ.out; have hab := HAB.out; have hrg := HRG.out.r; have hmd := HMD.out
            have := HSo.out.1.le (s := h) (t := c) (by omega) c1 (by omega)
            have := HSo.out.2.1.le (s := mid + m - 1 - c) (t := x) (by omega) (by omega) (by omega)
            omega
          go_wp2
          go_roundw
          case rel => exact ⟨i, h, rfl, rfl, HQ.out.1, by have := HH.out; omega, by have := HH.out; have := HQ.out; omega, HQ.out.2.2.2.1, HF.out, HK9.out⟩
          case measure => have := HH.out; simp [intOf]; omega
        · rw [decide_eq_false hk]
          have HF : Hid (∀ c, lo ≤ c → c < h + 1 → ¬ K (D c) < K (D (mid + m - 1 - c))) := fun c c1 c2 => by
            have hh := HH.out; have hq := HQ.out; have hab := HAB.out; have hrg := HRG.out.r; have hmd := HMD.out
            have := HSo.out.1.le (s := c) (t := h) (by omega) (by omega) (by omega)
            have := HSo.out.2.1.le (s := x) (t := mid + m - 1 - c) (by omega) (by omega) (by omega)
            omega
          go_wp2
          go_roundw
          case rel => exact ⟨h + 1, j, by go_num, rfl, by have := HH.out; have := HQ.out; omega, by have := HH.out; omega, HQ.out.2.2.1, HF.out, HQ.out.2.2.2.2.1, HK9.out⟩
          case measure => have := HH.out; simp [intOf]; omega
    · have e : i = j := by omega
      subst e
      obtain ⟨en, hen⟩ : ∃ en : Nat, en = mid + m - i := ⟨_, rfl⟩
      have hM := mid_of (a := a) (m := m) (b := b) (mid := mid) (lo := lo) (hi := mid) (st := i) (D := D) (K := K) HSo.out.1 HSo.out.2.1 hab.1 hab.2.1 hmd.1 HRG.out q1 q3 HQ.out.2.2.2.1 HQ.out.2.2.2.2.1
      rw [← hen] at hM
      have HM : Hid (Mid K a m b mid i en D) := hM
      have HW : Hid (Kept No w0 wr) := HQ.out.2.2.2.2.2
      have ee : (nn : Int) - (i : Int) = (en : Int) := by omega
      have ee2 : (en : Int) ≤ 4000 := by omega
      clear q1 q2 q3 hen hM hij hlh hmd hrg HQ hab
      generalize wr = wo at *
      go_upto_region 39 with fail
      clear ee ee2
      obtain ⟨bb185, hbb⟩ : ∃ bb : Bool, bb = (decide (i < m) && decide (m < en)) := ⟨_, rfl⟩
      have HB1 : Hid (bb185 = (decide (i < m) && decide (m < en))) := hbb
      clear hbb
      go_cut [185] (fun t wx => t = .bool bb185 ∧ wx = wo)
      case first =>
        as_aux_lemma =>
          by_cases g1 : i < m
          · by_cases g2 : m < en
            · have gz1 : (i : Int) < (m : Int) := by omega
              have gz2 : (m : Int) < (en : Int) := by omega
              have e : bb185 = true := by rw [HB1.out, decide_eq_true g1, decide_eq_true g2]; rfl
              subst e
              clear g1 g2
              go_wp2
              go_meet
              exact ⟨rfl, rfl⟩
            · have gz1 : (i : Int) < (m : Int) := by omega
              have gz2 : ¬ (m : Int) < (en : Int) := by omega
              have gz3 : decide ((m : Int) < (en : Int)) = false := decide_eq_false gz2
              have e : bb185 = false := by rw [HB1.out, decide_eq_true g1, decide_eq_false g2]; rfl
              subst e
              clear g1 g2
              go_wp2
              go_meet
              exact ⟨rfl, rfl⟩
          · have gz1 : ¬ (i : Int) < (m : Int) := by omega
            have gz3 : decide ((i : Int) < (m : Int)) = false := decide_eq_false gz1
            have e : bb185 = false := by rw [HB1.out, decide_eq_false g1]; rfl
            subst e
            clear g1
            go_wp2
            go_meet
            exact ⟨rfl, rfl⟩
      case rest =>
      as_aux_lemma =>
        obtain ⟨rfl, hw⟩ := hcut
        obtain rfl := hw.symm
        clear hw
        go_upto_if 185 with fail
        go_cut [] (fun wx => Kept (fun k => k = g) w0 wx ∧ Rp wx g n (rotF D i m en) ∧ Pm a b D (rotF D i m en))
        case first =>
          as_aux_lemma =>
            cases bb185
            · have e : rotF D i m en = D := by
                have hb := HB1.out
                have q2 := HM.out.h2
                have q3 := HM.out.h3
                by_cases g1 : i < m
                · have g2 : ¬ m < en := fun g2 => by rw [decide_eq_true g1, decide_eq_true g2] at hb; cases hb
                  rw [show en = m by omega]; exact rot_none2 D q2
                · rw [show i = m by omega]; exact rot_none1 D q3
              have HEE := hid e
              clear e
              go_wp2
              go_meet
              rw [HEE.out]
              exact ⟨HW.out.mono (fun _ h => h.elim), Cw.keep HR.out HW.out, Pm.refl _ _ _⟩
            · have hg : i < m ∧ m < en := by
                have hb := HB1.out.symm
                simp only [Bool.and_eq_true, decide_eq_true_eq] at hb
                exact hb
              have hc := rot_any (w0 := wo) (g := g) (n := n) (a := i) (m := m) (b := en) (v := .func (.func f) #[] #[.pointer (some ⟨pb, 0, none⟩)]) (D := D) hg.1 hg.2 (by have := HM.out.h4; have := HAB.out; omega) HAB.out.2.2.2 (Cw.keep HR.out HW.out)
              clear hg
              go_wp2_with (go_at_call 95; refine hc.mono ?_; rintro e w2 ⟨rfl, k2, hr2, hp2⟩; have H2 : Hid (Kept (fun k => k = g) wo w2 ∧ Rp w2 g n (rotF D i m en) ∧ Pm i en D (rotF D i m en)) := ⟨k2, hr2, hp2⟩; clear hc k2 hr2 hp2)
              go_meet
              exact ⟨(HW.out.mono (fun _ h => h.elim)).trans H2.out.1 (fun _ h => .inl h), H2.out.2.1, H2.out.2.2.wide HM.out.h1 HM.out.h4⟩
        case rest =>
        as_aux_lemma =>
          obtain ⟨D1, hD1⟩ : ∃ D1, D1 = rotF D i m en := ⟨_, rfl⟩
          rw [← hD1] at hcut
          have HD1 : Hid (D1 = rotF D i m en) := hD1
          have H1 : Hid (Kept (fun k => k = g) w0 wc ∧ Rp wc g n D1 ∧ Pm a b D D1) := hcut
          clear hcut hD1
          generalize wc = w1 at *
          have HN1 : Hid (∀ t, t < n → D1 t < N) := fun t ht => by
            by_cases c : a ≤ t ∧ t < b
            · obtain ⟨s, s1, s2, e⟩ := H1.out.2.2.mem t c.1 c.2
              rw [e]; exact HNN.out s (by have := HAB.out; omega)
            · rw [H1.out.2.2.oth t (by omega)]; exact HNN.out t ht
          go_upto_region 41 with fail
          obtain ⟨bb199, hbb⟩ : ∃ bb : Bool, bb = (decide (a < i) && decide (i < mid)) := ⟨_, rfl⟩
          have HB2 : Hid (bb199 = (decide (a < i) && decide (i < mid))) := hbb
          clear hbb
          go_cut [199] (fun t wx => t = .bool bb199 ∧ wx = w1)
          case first =>
            as_aux_lemma =>
              by_cases g1 : a < i
              · by_cases g2 : i < mid
                · have gz1 : (a : Int) < (i : Int) := by omega
                  have gz2 : (i : Int) < (mid : Int) := by omega
                  have e : bb199 = true := by rw [HB2.out, decide_eq_true g1, decide_eq_true g2]; rfl
                  subst e
                  clear g1 g2
                  go_wp2
                  go_meet
                  exact ⟨rfl, rfl⟩
                · have gz1 : (a : Int) < (i : Int) := by omega
                  have gz2 : ¬ (i : Int) < (mid : Int) := by omega
                  have gz3 : decide ((i : Int) < (mid : Int)) = false := decide_eq_false gz2
                  have e : bb199 = false := by rw [HB2.out, decide_eq_true g1, decide_eq_false g2]; rfl
                  subst e
                  clear g1 g2
                  go_wp2
                  go_meet
                  exact ⟨rfl, rfl⟩
              · have gz1 : ¬ (a : Int) < (i : Int) := by omega
                have gz3 : decide ((a : Int) < (i : Int)) = false := decide_eq_false gz1
                have e : bb199 = false := by rw [HB2.out, decide_eq_false g1]; rfl
                subst e
                clear g1
                go_wp2
                go_meet
                exact ⟨rfl, rfl⟩
          case rest =>
          as_aux_lemma =>
            obtain ⟨rfl, hw⟩ := hcut
            obtain rfl := hw.symm
            clear hw
            go_upto_if 199 with fail
            go_cut [] (fun wx => ∃ D2, Kept (fun k => k = g) w0 wx ∧ Rp wx g n D2 ∧ Pm a mid D1 D2 ∧ So K a mid D2)
            case first =>
              as_aux_lemma =>
                have hso := HM.out.left HSo.out.1 HSo.out.2.1
                have hxl := HM.out.lx HSo.out.2.2
                rw [← HD1.out] at hso hxl
                have HSX : Hid ((So K a i D1 ∧ So K i mid D1) ∧ Xl a i mid D1) := ⟨hso, hxl⟩
                clear hso hxl
                cases bb199
                · have HO : Hid (So K a mid D1) := So.one HSX.out.1.1 HSX.out.1.2 (by
                    have hb := HB2.out
                    have q1 := HM.out.h1
                    have q6 := HM.out.h6
                    by_cases g1 : a < i
                    · have g2 : ¬ i < mid := fun g2 => by rw [decide_eq_true g1, decide_eq_true g2] at hb; cases hb
                      exact .inr (by omega)
                    · exact .inl (by omega))
                  go_wp2
                  go_meet
                  exact ⟨D1, H1.out.1, H1.out.2.1, Pm.refl _ _ _, HO.out⟩
                · have hg : a < i ∧ i < mid := by
                    have hb := HB2.out.symm
                    simp only [Bool.and_eq_true, decide_eq_true_eq] at hb
                    exact hb
                  have hc := HIH.out a i mid D1 w1 (by have := HM.out; have := this.h4; have := HMD.out; have := HAB.out; omega) hg.1 hg.2 (by have := HMD.out; have := HAB.out; omega) (HC.out.on H1.out.1) H1.out.2.1 HN1.out HSX.out.1.1 HSX.out.1.2 HSX.out.2
                  clear hg
                  go_wp2_with (go_at_call 77; refine hc.mono ?_; rintro e w2 ⟨rfl, k2, hr2⟩; have H2 := hid (And.intro k2 hr2); clear hc k2 hr2)
                  go_meet
                  obtain ⟨k2, D2, r2, p2, o2⟩ := H2.out
                  exact ⟨D2, H1.out.1.trans k2 (fun _ h => .inl h), r2, p2, o2⟩
            case rest =>
            as_aux_lemma =>
              obtain ⟨D2, k2, r2, p2, o2⟩ := hcut
              have H2 : Hid (Kept (fun k => k = g) w0 wc ∧ Rp wc g n D2 ∧ Pm a mid D1 D2 ∧ So K a mid D2) := ⟨k2, r2, p2, o2⟩
              clear k2 r2 p2 o2
              generalize wc = w2 at *
              have HN2 : Hid (∀ t, t < n → D2 t < N) := fun t ht => by
                by_cases c : a ≤ t ∧ t < mid
                · obtain ⟨s, s1, s2, e⟩ := H2.out.2.2.1.mem t c.1 c.2
                  rw [e]; exact HN1.out s (by have := HAB.out; have := HMD.out; omega)
                · rw [H2.out.2.2.1.oth t (by omega)]; exact HN1.out t ht
              have hso := HM.out.right HSo.out.1 HSo.out.2.1
              have hxl := HM.out.rx HSo.out.2.2
              rw [← HD1.out] at hso hxl
              have HSX : Hid ((So K mid en D2 ∧ So K en b D2) ∧ Xl mid en b D2) := by
                have hp := H2.out.2.2.1
                have : mid ≤ en := by have := HM.out.h5; have := HM.out.h2; omega
                refine ⟨⟨fun s t s1 st t1 => ?_, fun s t s1 st t1 => ?_⟩, fun s t s1 s2 t1 t2 => ?_⟩
                · rw [hp.oth s (by omega), hp.oth t (by omega)]; exact hso.1 s t s1 st t1
                · rw [hp.oth s (by omega), hp.oth t (by omega)]; exact hso.2 s t s1 st t1
                · rw [hp.oth s (by omega), hp.oth t (by omega)]; exact hxl s t s1 s2 t1 t2
              clear hso hxl
              have HFIN : Hid (∀ D3, Pm mid b D2 D3 → So K mid b D3 → Pm a b D D3 ∧ So K a b D3) := fun D3 p3 o3 => by
                have p2 := H2.out.2.2.1
                have hab := HAB.out
                have hmd := HMD.out
                refine ⟨(H1.out.2.2.trans (p2.wide (Nat.le_refl _) (by omega))).trans (p3.wide (by omega) (Nat.le_refl _)), ?_⟩
                rw [HD1.out] at p2
                exact HM.out.all HSo.out.1 HSo.out.2.1 HSo.out.2.2 p2 H2.out.2.2.2 p3 o3
              by_cases g1 : mid < en
              · by_cases g2 : en < b
                · have gz1 : (mid : Int) < (en : Int) := by omega
                  have gz2 : (en : Int) < (b : Int) := by omega
                  have hc := HIH.out mid en b D2 w2 (by have := HMD.out; have := HAB.out; omega) g1 g2 HAB.out.2.2.1 (HC.out.on H2.out.1) H2.out.2.1 HN2.out HSX.out.1.1 HSX.out.1.2 HSX.out.2
                  clear g1 g2
                  go_wp2_with (go_at_call 77; refine hc.mono ?_; rintro e w3 ⟨rfl, k3, hr3⟩; have H3 := hid (And.intro k3 hr3); clear hc k3 hr3)
                  go_end0
                  obtain ⟨k3, D3, r3, p3, o3⟩ := H3.out
                  exact ⟨rfl, H2.out.1.trans k3 (fun _ h => .inl h), D3, r3, HFIN.out D3 p3 o3⟩
                · have gz1 : (mid : Int) < (en : Int) := by omega
                  have gz2 : ¬ (en : Int) < (b : Int) := by omega
                  have gz3 : decide ((en : Int) < (b : Int)) = false := decide_eq_false gz2
                  have HO : Hid (So K mid b D2) := So.one HSX.out.1.1 HSX.out.1.2 (.inr (by have := HM.out.h4; omega))
                  clear g1 g2
                  go_wp2
                  go_end0
                  exact ⟨rfl, H2.out.1, D2, H2.out.2.1, HFIN.out D2 (Pm.refl _ _ _) HO.out⟩
              · have gz1 : ¬ (mid : Int) < (en : Int) := by omega
                have gz3 : decide ((mid : Int) < (en : Int)) = false := decide_eq_false gz1
                have HO : Hid (So K mid b D2) := So.one HSX.out.1.1 HSX.out.1.2 (.inl (by have := HM.out.h5; have := HM.out.h2; omega))
                clear g1
                go_wp2
                go_end0
                exact ⟨rfl, H2.out.1, D2, H2.out.2.1, HFIN.out D2 (Pm.refl _ _ _) HO.out⟩
        
set_option maxHeartbeats 16000000 in
theorem sym3F {w0 : World} {g f n a m b pb N : Nat} {K : Nat → Int} {D : Nat → Nat} (ham : a < m) (hmb : m < b) (hb : b ≤ n) (hn : n ≤ 1000) (hc : CmpK w0 g f #[.pointer (some ⟨pb, 0, none⟩)] N K) (hR : Rp w0 g n D) (hN : ∀ i, i < n → D i < N) (hs1 : So K a m D) (hs2 : So K m b D) (hx : Xl a m b D) (hE : Tyg f) (h1 : m ≠ a + 1) (h2 : b ≠ m + 1) (hcase : m ≤ (a + b) / 2)
    (IH : ∀ (a' m' b' : Nat) (D' : Nat → Nat) (w' : World), b' - a' < b - a → a' < m' → m' < b' → b' ≤ n → CmpK w' g f #[.pointer (some ⟨pb, 0, none⟩)] N K → Rp w' g n D' → (∀ i, i < n → D' i < N) → So K a' m' D' → So K m' b' D' → Xl a' m' b' D' →
      Calls Tryz.prog 77 #[.slice (some ⟨g, 0, none⟩) n n, .int .i64 (a' : Int), .int .i64 (m' : Int), .int .i64 (b' : Int), .func (.func f) #[] #[.pointer (some ⟨pb, 0, none⟩)]] w' fun e w'' => e = .returned (.tuple #[]) ∧ Kept (fun k => k = g) w' w'' ∧ ∃ D'', Rp w'' g n D'' ∧ Pm a' b' D' D'' ∧ So K a' b' D'') :
    Calls Tryz.prog 77 #[.slice (some ⟨g, 0, none⟩) n n, .int .i64 (a : Int), .int .i64 (m : Int), .int .i64 (b : Int), .func (.func f) #[] #[.pointer (some ⟨pb, 0, none⟩)]] w0 fun e w' => e = .returned (.tuple #[]) ∧ Kept (fun k => k = g) w0 w' ∧ ∃ D', Rp w' g n D' ∧ Pm a b D D' ∧ So K a b D' := by
  have HC : Hid (CmpK w0 g f #[.pointer (some ⟨pb, 0, none⟩)] N K) := hc
  have HNN : Hid (∀ i, i < n → D i < N) := hN
  have HEn : Hid (Tyg f) := hE
  have HR : Hid (Rp w0 g n D) := hR
  have HAB : Hid (a < m ∧ m < b ∧ b ≤ n ∧ n ≤ 1000) := ⟨ham, hmb, hb, hn⟩
  have HSo : Hid (So K a m D ∧ So K m b D ∧ Xl a m b D) := ⟨hs1, hs2, hx⟩
  clear hc hN hE hR hs1 hs2 hx
  have HIH := hid IH
  clear IH
  obtain ⟨d, hd⟩ : ∃ d : Nat, d = m - a := ⟨_, rfl⟩
  obtain ⟨d2, hd2⟩ : ∃ d2 : Nat, d2 = b - m := ⟨_, rfl⟩
  obtain ⟨mid, hmid⟩ : ∃ mid : Nat, mid = (a + b) / 2 := ⟨_, rfl⟩
  obtain ⟨nn, hnn⟩ : ∃ nn : Nat, nn = mid + m := ⟨_, rfl⟩
  obtain ⟨pp, hpp⟩ : ∃ pp : Nat, pp = mid + m - 1 := ⟨_, rfl⟩
  rw [← hmid] at hcase
  have HRG : Hid (Rng a m b mid a m) := ⟨by omega⟩
  have HMD : Hid (mid = (a + b) / 2 ∧ nn = mid + m ∧ pp = mid + m - 1) := ⟨hmid, hnn, hpp⟩
  have HLH : Hid (a ≤ m ∧ m ≤ m ∧ m ≤ mid ∧ a ≤ a) := by
    show _ ∧ _ ∧ _ ∧ _
    omega
  have e1 : (m : Int) - (a : Int) = (d : Int) := by omega
  have e2 : ((d : Int) == 1) = false := by simp; omega
  have e4 : ¬ (d : Int) = 1 := by omega
  have e5 : (d : Int) ≤ 1000 := by omega
  have q1 : (b : Int) - (m : Int) = (d2 : Int) := by omega
  have q2 : ((d2 : Int) == 1) = false := by simp; omega
  have q4 : ¬ (d2 : Int) = 1 := by omega
  have q5 : (d2 : Int) ≤ 1000 := by omega
  have r1 : ((a : Int) + (b : Int)) / 2 = (mid : Int) := by omega
  have r2 : (a : Int) + (b : Int) ≤ 2000 := by omega
  have r3 : (mid : Int) + (m : Int) = (nn : Int) := by omega
  have r4 : (nn : Int) ≤ 3000 := by omega
  have r5 : (nn : Int) - (1 : Int) = (pp : Int) := by omega
  have r6 : (mid : Int) ≤ 1000 := by omega
  have r7 : ¬ (mid : Int) < (m : Int) := by omega
  clear h1 h2 ham hmb hb hn hd hd2 hmid hnn hpp hcase
  go_enter Tryz.func77, Tryz.ntmps77
  go_wp2
  clear e1 e2 e4 e5 q1 q2 q4 q5 r1 r2 r3 r4 r5 r6 r7
  go_loopw [20, 21] (fun x y wr => ∃ i j : Nat, x = .int .i64 i ∧ y = .int .i64 j ∧ a ≤ i ∧ i ≤ j ∧ j ≤ m ∧ (∀ c, a ≤ c → c < i → ¬ K (D c) < K (D (mid + m - 1 - c))) ∧ (∀ c, j ≤ c → c < m → K (D c) < K (D (mid + m - 1 - c))) ∧ Kept No w0 wr) (fun x y _ => (intOf y).toNat - (intOf x).toNat)
  case atStart => exact ⟨a, m, rfl, rfl, Nat.le_refl _, HLH.out.1, Nat.le_refl _, fun h q1 q2 => by omega, fun h q1 q2 => by omega, Kept.refl _ _⟩
  case round =>
    obtain ⟨i, j, rfl, rfl, q1, q2, q3, q4, q5, q6⟩ := hrel
    have HQ : Hid (a ≤ i ∧ i ≤ j ∧ j ≤ m ∧ (∀ c, a ≤ c → c < i → ¬ K (D c) < K (D (mid + m - 1 - c))) ∧ (∀ c, j ≤ c → c < m → K (D c) < K (D (mid + m - 1 - c))) ∧ Kept No w0 wr) := ⟨q1, q2, q3, q4, q5, q6⟩
    have hab := HAB.out
    have hlh := HLH.out
    have hmd := HMD.out
    have hrg := HRG.out.r
    clear q4 q5 q6
    by_cases hij : i < j
    · as_aux_lemma =>
        have hij2 : (i : Int) < (j : Int) := by omega
        obtain ⟨h, hh⟩ : ∃ h : Nat, h = (i + j) / 2 := ⟨_, rfl⟩
        obtain ⟨x, hx⟩ : ∃ x : Nat, x = mid + m - 1 - h := ⟨_, rfl⟩
        have hr : i ≤ h ∧ h < j := by omega
        have HH : Hid (i ≤ h ∧ h < j ∧ x = mid + m - 1 - h) := ⟨hr.1, hr.2, hx⟩
        have HX : Hid (wrap64 ((pp : Int) - (h : Int)) = (x : Int)) := by
          show wrap64 _ = _
          rw [show (pp : Int) - (h : Int) = (x : Int) by omega]
          have : (x : Int) ≤ 4000 := by omega
          unfold wrap64; omega
        have HB : Hid (h < n ∧ x < n ∧ n ≤ 9223372036854775807) := ⟨by omega, by omega, by omega⟩
        have ew : ((i : Int) + (j : Int)) / 2 = (h : Int) := by omega
        have hbd : (i : Int) + (j : Int) ≤ 2000 := by omega
        have hh1 : (h : Int) ≤ 2000 := by omega
        clear q1 q2 q3 hr hh hab hlh hmd hrg hx
        go_upto_region 35 with fail
        refine wp_region_kept wr (by kernel_rfl) (by kernel_rfl) (Kept.refl No wr) ?_
        refine BigFrame.wpQuiet_want rfl (fun KQ hKQ => ?_)
        refine quiet_val' (fun w5 hw5 => er_mv _ rfl (.func (.func f) #[] #[.pointer (some ⟨pb, 0, none⟩)]) rfl) ?_
        refine hKQ _ ?_
        clear hKQ KQ
        simp only [Act.put, List.setIfInBounds_toArray, List.set_cons_zero, List.set_cons_succ]
        refine BigFrame.wpQuiet_want rfl (fun KQ hKQ => ?_)
        refine quiet_val' (fun w5 hw5 => er_mv _ rfl (.slice (some ⟨g, 0, none⟩) n n) rfl) ?_
        refine hKQ _ ?_
        clear hKQ KQ
        simp only [Act.put, List.setIfInBounds_toArray, List.set_cons_zero, List.set_cons_succ]
        refine BigFrame.wpQuiet_want rfl (fun KQ hKQ => ?_)
        refine quiet_val' (fun w5 hw5 => er_mv _ rfl (.int .i64 (pp : Int)) rfl) ?_
        refine hKQ _ ?_
        clear hKQ KQ
        simp only [Act.put, List.setIfInBounds_toArray, List.set_cons_zero, List.set_cons_succ]
        refine BigFrame.wpQuiet_want rfl (fun KQ hKQ => ?_)
        refine quiet_val' (fun w5 hw5 => er_mv _ rfl (.int .i64 (h : Int)) rfl) ?_
        refine hKQ _ ?_
        clear hKQ KQ
        simp only [Act.put, List.setIfInBounds_toArray, List.set_cons_zero, List.set_cons_succ]
        refine BigFrame.wpQuiet_want rfl (fun KQ hKQ => ?_)
        refine quiet_val' (fun w5 hw5 => er_sub _ _ rfl (pp : Int) (h : Int) (x : Int) rfl rfl HX.out) ?_
        refine hKQ _ ?_
        clear hKQ KQ
        simp only [Act.put, List.setIfInBounds_toArray, List.set_cons_zero, List.set_cons_succ]
        refine BigFrame.wpQuiet_want rfl (fun KQ hKQ => ?_)
        refine quiet_val' (fun w5 hw5 => er_ixi _ _ rfl g n n x HB.out.2.1 HB.out.2.2 rfl rfl) ?_
        refine hKQ _ ?_
        clear hKQ KQ
        simp only [Act.put, List.setIfInBounds_toArray, List.set_cons_zero, List.set_cons_succ]
        refine BigFrame.wpQuiet_want rfl (fun KQ hKQ => ?_)
        refine quiet_val' (fun w5 hw5 => er_ldI _ rfl g x _ rfl ((Cw.keep (Cw.keep HR.out HQ.out.2.2.2.2.2) hw5).at' x HB.out.2.1)) ?_
        refine hKQ _ ?_
        clear hKQ KQ
        simp only [Act.put, List.setIfInBounds_toArray, List.set_cons_zero, List.set_cons_succ]
        refine BigFrame.wpQuiet_want rfl (fun KQ hKQ => ?_)
        refine quiet_val' (fun w5 hw5 => er_mv _ rfl (.slice (some ⟨g, 0, none⟩) n n) rfl) ?_
        refine hKQ _ ?_
        clear hKQ KQ
        simp only [Act.put, List.setIfInBounds_toArray, List.set_cons_zero, List.set_cons_succ]
        refine BigFrame.wpQuiet_want rfl (fun KQ hKQ => ?_)
        refine quiet_val' (fun w5 hw5 => er_mv _ rfl (.int .i64 (h : Int)) rfl) ?_
        refine hKQ _ ?_
        clear hKQ KQ
        simp only [Act.put, List.setIfInBounds_toArray, List.set_cons_zero, List.set_cons_succ]
        refine BigFrame.wpQuiet_want rfl (fun KQ hKQ => ?_)
        refine quiet_val' (fun w5 hw5 => er_ixi _ _ rfl g n n h HB.out.1 HB.out.2.2 rfl rfl) ?_
        refine hKQ _ ?_
        clear hKQ KQ
        simp only [Act.put, List.setIfInBounds_toArray, List.set_cons_zero, List.set_cons_succ]
        refine BigFrame.wpQuiet_want rfl (fun KQ hKQ => ?_)
        refine quiet_val' (fun w5 hw5 => er_ldI _ rfl g h _ rfl ((Cw.keep (Cw.keep HR.out HQ.out.2.2.2.2.2) hw5).at' h HB.out.1)) ?_
        refine hKQ _ ?_
        clear hKQ KQ
        simp only [Act.put, List.setIfInBounds_toArray, List.set_cons_zero, List.set_cons_succ]
        refine BigFrame.wpQuiet_want rfl (fun KQ hKQ => ?_)
        refine quiet_cmp _ _ _ rfl f #[.pointer (some ⟨pb, 0, none⟩)] (.int .i64 (D x : Int)) (.int .i64 (D h : Int)) (.int .i64 (cvK K (D x) (D h))) rfl rfl rfl HEn.out (fun w5 hw5 => (HC.out w5 (((HQ.out.2.2.2.2.2.mono (fun _ h => h.elim)).trans hw5 (fun _ h => h.elim))) _ _ (HNN.out _ HB.out.2.1) (HNN.out _ HB.out.1)).mono (fun e w6 he => ⟨he.1, hw5.trans he.2 (fun _ x => x.elim)⟩)) ?_
        refine hKQ _ ?_
        clear hKQ KQ
        simp only [Act.put, List.setIfInBounds_toArray, List.set_cons_zero, List.set_cons_succ]
        refine BigFrame.wpQuiet_want rfl (fun KQ hKQ => ?_)
        refine quiet_val' (fun w5 hw5 => er_ltI _ _ rfl (cvK K (D x) (D h)) 0 (decide (K (D h) < K (D x))) rfl rfl (cvK_neg _ _ _)) ?_
        refine hKQ _ ?_
        clear hKQ KQ
        simp only [Act.put, List.setIfInBounds_toArray, List.set_cons_zero, List.set_cons_succ]
        refine BigFrame.wpQuiet_want rfl (fun KQ hKQ => ?_)
        refine quiet_val' (fun w5 hw5 => er_notB _ rfl (decide (K (D h) < K (D x))) (!decide (K (D h) < K (D x))) rfl rfl) ?_
        refine hKQ _ ?_
        clear hKQ KQ
        simp only [Act.put, List.setIfInBounds_toArray, List.set_cons_zero, List.set_cons_succ]
        refine wpQuiet_nil ?_
        intro w9 k9
        have HK9 : Hid (Kept No w0 w9) := HQ.out.2.2.2.2.2.trans k9 (fun _ h => h.elim)
        clear k9
        by_cases hk : K (D h) < K (D x)
        · rw [decide_eq_true hk]
          have HF : Hid (∀ c, h ≤ c → c < m → K (D c) < K (D (mid + m - 1 - c))) := fun c c1 c2 => by
            have hh := HH.out; have hq := HQ.out; have hab := HAB.out; have hrg := HRG.out.r; have hmd := HMD.out
            have := HSo.out.1.le (s := h) (t := c) (by omega) c1 (by omega)
            have := HSo.out.2.1.le (s := mid + m - 1 - c) (t := x) (by omega) (by omega) (by omega)
            omega
          go_wp2
          go_roundw
          case rel => exact ⟨i, h, rfl, rfl, HQ.out.1, by have := HH.out; omega, by have := HH.out; have := HQ.out; omega, HQ.out.2.2.2.1, HF.out, HK9.out⟩
          case measure => have := HH.out; simp [intOf]; omega
        · rw [decide_eq_false hk]
          have HF : Hid (∀ c, a ≤ c → c < h + 1 → ¬ K (D c) < K (D (mid + m - 1 - c))) := fun c c1 c2 => by
            have hh := HH.out; have hq := HQ.out; have hab := HAB.out; have hrg := HRG.out.r; have hmd := HMD.out
            have := HSo.out.1.le (s := c) (t := h) (by omega) (by omega) (by omega)
            have := HSo.out.2.1.le (s := x) (t := mid + m - 1 - c) (by omega) (by omega) (by omega)
            omega
          go_wp2
          go_roundw
          case rel => exact ⟨h + 1, j, by go_num, rfl, by have := HH.out; have := HQ.out; omega, by have := HH.out; omega, HQ.out.2.2.1, HF.out, HQ.out.2.2.2.2.1, HK9.out⟩
          case measure => have := HH.out; simp [intOf]; omega
    · have e : i = j := by omega
      subst e
      obtain ⟨en, hen⟩ : ∃ en : Nat, en = mid + m - i := ⟨_, rfl⟩
      have hM := mid_of (a := a) (m := m) (b := b) (mid := mid) (lo := a) (hi := m) (st := i) (D := D) (K := K) HSo.out.1 HSo.out.2.1 hab.1 hab.2.1 hmd.1 HRG.out q1 q3 HQ.out.2.2.2.1 HQ.out.2.2.2.2.1
      rw [← hen] at hM
      have HM : Hid (Mid K a m b mid i en D) := hM
      have HW : Hid (Kept No w0 wr) := HQ.out.2.2.2.2.2
      have ee : (nn : Int) - (i : Int) = (en : Int) := by omega
      have ee2 : (en : Int) ≤ 4000 := by omega
      clear q1 q2 q3 hen hM hij hlh hmd hrg HQ hab
      generalize wr = wo at *
      go_upto_region 39 with fail
      clear ee ee2
      obtain ⟨bb185, hbb⟩ : ∃ bb : Bool, bb = (decide (i < m) && decide (m < en)) := ⟨_, rfl⟩
      have HB1 : Hid (bb185 = (decide (i < m) && decide (m < en))) := hbb
      clear hbb
      go_cut [185] (fun t wx => t = .bool bb185 ∧ wx = wo)
      case first =>
        as_aux_lemma =>
          by_cases g1 : i < m
          · by_cases g2 : m < en
            · have gz1 : (i : Int) < (m : Int) := by omega
              have gz2 : (m : Int) < (en : Int) := by omega
              have e : bb185 = true := by rw [HB1.out, decide_eq_true g1, decide_eq_true g2]; rfl
              subst e
              clear g1 g2
              go_wp2
              go_meet
              exact ⟨rfl, rfl⟩
            · have gz1 : (i : Int) < (m : Int) := by omega
              have gz2 : ¬ (m : Int) < (en : Int) := by omega
              have gz3 : decide ((m : Int) < (en : Int)) = false := decide_eq_false gz2
              have e : bb185 = false := by rw [HB1.out, decide_eq_true g1, decide_eq_false g2]; rfl
              subst e
              clear g1 g2
              go_wp2
              go_meet
              exact ⟨rfl, rfl⟩
          · have gz1 : ¬ (i : Int) < (m : Int) := by omega
            have gz3 : decide ((i : Int) < (m : Int)) = false := decide_eq_false gz1
            have e : bb185 = false := by rw [HB1.out, decide_eq_false g1]; rfl
            subst e
            clear g1
            go_wp2
            go_meet
            exact ⟨rfl, rfl⟩
      case rest =>
      as_aux_lemma =>
        obtain ⟨rfl, hw⟩ := hcut
        obtain rfl := hw.symm
        clear hw
        go_upto_if 185 with fail
        go_cut [] (fun wx => Kept (fun k => k = g) w0 wx ∧ Rp wx g n (rotF D i m en) ∧ Pm a b D (rotF D i m en))
        case first =>
          as_aux_lemma =>
            cases bb185
            · have e : rotF D i m en = D := by
                have hb := HB1.out
                have q2 := HM.out.h2
                have q3 := HM.out.h3
                by_cases g1 : i < m
                · have g2 : ¬ m < en := fun g2 => by rw [decide_eq_true g1, decide_eq_true g2] at hb; cases hb
                  rw [show en = m by omega]; exact rot_none2 D q2
                · rw [show i = m by omega]; exact rot_none1 D q3
              have HEE := hid e
              clear e
              go_wp2
              go_meet
              rw [HEE.out]
              exact ⟨HW.out.mono (fun _ h => h.elim), Cw.keep HR.out HW.out, Pm.refl _ _ _⟩
            · have hg : i < m ∧ m < en := by
                have hb := HB1.out.symm
                simp only [Bool.and_eq_true, decide_eq_true_eq] at hb
                exact hb
              have hc := rot_any (w0 := wo) (g := g) (n := n) (a := i) (m := m) (b := en) (v := .func (.func f) #[] #[.pointer (some ⟨pb, 0, none⟩)]) (D := D) hg.1 hg.2 (by have := HM.out.h4; have := HAB.out; omega) HAB.out.2.2.2 (Cw.keep HR.out HW.out)
              clear hg
              go_wp2_with (go_at_call 95; refine hc.mono ?_; rintro e w2 ⟨rfl, k2, hr2, hp2⟩; have H2 : Hid (Kept (fun k => k = g) wo w2 ∧ Rp w2 g n (rotF D i m en) ∧ Pm i en D (rotF D i m en)) := ⟨k2, hr2, hp2⟩; clear hc k2 hr2 hp2)
              go_meet
              exact ⟨(HW.out.mono (fun _ h => h.elim)).trans H2.out.1 (fun _ h => .inl h), H2.out.2.1, H2.out.2.2.wide HM.out.h1 HM.out.h4⟩
        case rest =>
        as_aux_lemma =>
          obtain ⟨D1, hD1⟩ : ∃ D1, D1 = rotF D i m en := ⟨_, rfl⟩
          rw [← hD1] at hcut
          have HD1 : Hid (D1 = rotF D i m en) := hD1
          have H1 : Hid (Kept (fun k => k = g) w0 wc ∧ Rp wc g n D1 ∧ Pm a b D D1) := hcut
          clear hcut hD1
          generalize wc = w1 at *
          have HN1 : Hid (∀ t, t < n → D1 t < N) := fun t ht => by
            by_cases c : a ≤ t ∧ t < b
            · obtain ⟨s, s1, s2, e⟩ := H1.out.2.2.mem t c.1 c.2
              rw [e]; exact HNN.out s (by have := HAB.out; omega)
            · rw [H1.out.2.2.oth t (by omega)]; exact HNN.out t ht
          go_upto_region 41 with fail
          obtain ⟨bb199, hbb⟩ : ∃ bb : Bool, bb = (decide (a < i) && decide (i < mid)) := ⟨_, rfl⟩
          have HB2 : Hid (bb199 = (decide (a < i) && decide (i < mid))) := hbb
          clear hbb
          go_cut [199] (fun t wx => t = .bool bb199 ∧ wx = w1)
          case first =>
            as_aux_lemma =>
              by_cases g1 : a < i
              · by_cases g2 : i < mid
                · have gz1 : (a : Int) < (i : Int) := by omega
                  have gz2 : (i : Int) < (mid : Int) := by omega
                  have e : bb199 = true := by rw [HB2.out, decide_eq_true g1, decide_eq_true g2]; rfl
                  subst e
                  clear g1 g2
                  go_wp2
                  go_meet
                  exact ⟨rfl, rfl⟩
                · have gz1 : (a : Int) < (i : Int) := by omega
                  have gz2 : ¬ (i : Int) < (mid : Int) := by omega
                  have gz3 : decide ((i : Int) < (mid : Int)) = false := decide_eq_false gz2
                  have e : bb199 = false := by rw [HB2.out, decide_eq_true g1, decide_eq_false g2]; rfl
                  subst e
                  clear g1 g2
                  go_wp2
                  go_meet
                  exact ⟨rfl, rfl⟩
              · have gz1 : ¬ (a : Int) < (i : Int) := by omega
                have gz3 : decide ((a : Int) < (i : Int)) = false := decide_eq_false gz1
                have e : bb199 = false := by rw [HB2.out, decide_eq_false g1]; rfl
                subst e
                clear g1
                go_wp2
                go_meet
                exact ⟨rfl, rfl⟩
          case rest =>
          as_aux_lemma =>
            obtain ⟨rfl, hw⟩ := hcut
            obtain rfl := hw.symm
            clear hw
            go_upto_if 199 with fail
            go_cut [] (fun wx => ∃ D2, Kept (fun k => k = g) w0 wx ∧ Rp wx g n D2 ∧ Pm a mid D1 D2 ∧ So K a mid D2)
            case first =>
              as_aux_lemma =>
                have hso := HM.out.left HSo.out.1 HSo.out.2.1
                have hxl := HM.out.lx HSo.out.2.2
                rw [← HD1.out] at hso hxl
                have HSX : Hid ((So K a i D1 ∧ So K i mid D1) ∧ Xl a i mid D1) := ⟨hso, hxl⟩
                clear hso hxl
                cases bb199
                · have HO : Hid (So K a mid D1) := So.one HSX.out.1.1 HSX.out.1.2 (by
                    have hb := HB2.out
                    have q1 := HM.out.h1
                    have q6 := HM.out.h6
                    by_cases g1 : a < i
                    · have g2 : ¬ i < mid := fun g2 => by rw [decide_eq_true g1, decide_eq_true g2] at hb; cases hb
                      exact .inr (by omega)
                    · exact .inl (by omega))
                  go_wp2
                  go_meet
                  exact ⟨D1, H1.out.1, H1.out.2.1, Pm.refl _ _ _, HO.out⟩
                · have hg : a < i ∧ i < mid := by
                    have hb := HB2.out.symm
                    simp only [Bool.and_eq_true, decide_eq_true_eq] at hb
                    exact hb
                  have hc := HIH.out a i mid D1 w1 (by have := HM.out; have := this.h4; have := HMD.out; have := HAB.out; omega) hg.1 hg.2 (by have := HMD.out; have := HAB.out; omega) (HC.out.on H1.out.1) H1.out.2.1 HN1.out HSX.out.1.1 HSX.out.1.2 HSX.out.2
                  clear hg
                  go_wp2_with (go_at_call 77; refine hc.mono ?_; rintro e w2 ⟨rfl, k2, hr2⟩; have H2 := hid (And.intro k2 hr2); clear hc k2 hr2)
                  go_meet
                  obtain ⟨k2, D2, r2, p2, o2⟩ := H2.out
                  exact ⟨D2, H1.out.1.trans k2 (fun _ h => .inl h), r2, p2, o2⟩
            case rest =>
            as_aux_lemma =>
              obtain ⟨D2, k2, r2, p2, o2⟩ := hcut
              have H2 : Hid (Kept (fun k => k = g) w0 wc ∧ Rp wc g n D2 ∧ Pm a mid D1 D2 ∧ So K a mid D2) := ⟨k2, r2, p2, o2⟩
              clear k2 r2 p2 o2
              generalize wc = w2 at *
              have HN2 : Hid (∀ t, t < n → D2 t < N) := fun t ht => by
                by_cases c : a ≤ t ∧ t < mid
                · obtain ⟨s, s1, s2, e⟩ := H2.out.2.2.1.mem t c.1 c.2
                  rw [e]; exact HN1.out s (by have := HAB.out; have := HMD.out; omega)
                · rw [H2.out.2.2.1.oth t (by omega)]; exact HN1.out t ht
              have hso := HM.out.right HSo.out.1 HSo.out.2.1
              have hxl := HM.out.rx HSo.out.2.2
              rw [← HD1.out] at hso hxl
              have HSX : Hid ((So K mid en D2 ∧ So K en b D2) ∧ Xl mid en b D2) := by
                have hp := H2.out.2.2.1
                have : mid ≤ en := by have := HM.out.h5; have := HM.out.h2; omega
                refine ⟨⟨fun s t s1 st t1 => ?_, fun s t s1 st t1 => ?_⟩, fun s t s1 s2 t1 t2 => ?_⟩
                · rw [hp.oth s (by omega), hp.oth t (by omega)]; exact hso.1 s t s1 st t1
                · rw [hp.oth s (by omega), hp.oth t (by omega)]; exact hso.2 s t s1 st t1
                · rw [hp.oth s (by omega), hp.oth t (by omega)]; exact hxl s t s1 s2 t1 t2
              clear hso hxl
              have HFIN : Hid (∀ D3, Pm mid b D2 D3 → So K mid b D3 → Pm a b D D3 ∧ So K a b D3) := fun D3 p3 o3 => by
                have p2 := H2.out.2.2.1
                have hab := HAB.out
                have hmd := HMD.out
                refine ⟨(H1.out.2.2.trans (p2.wide (Nat.le_refl _) (by omega))).trans (p3.wide (by omega) (Nat.le_refl _)), ?_⟩
                rw [HD1.out] at p2
                exact HM.out.all HSo.out.1 HSo.out.2.1 HSo.out.2.2 p2 H2.out.2.2.2 p3 o3
              by_cases g1 : mid < en
              · by_cases g2 : en < b
                · have gz1 : (mid : Int) < (en : Int) := by omega
                  have gz2 : (en : Int) < (b : Int) := by omega
                  have hc := HIH.out mid en b D2 w2 (by have := HMD.out; have := HAB.out; omega) g1 g2 HAB.out.2.2.1 (HC.out.on H2.out.1) H2.out.2.1 HN2.out HSX.out.1.1 HSX.out.1.2 HSX.out.2
                  clear g1 g2
                  go_wp2_with (go_at_call 77; refine hc.mono ?_; rintro e w3 ⟨rfl, k3, hr3⟩; have H3 := hid (And.intro k3 hr3); clear hc k3 hr3)
                  go_end0
                  obtain ⟨k3, D3, r3, p3, o3⟩ := H3.out
                  exact ⟨rfl, H2.out.1.trans k3 (fun _ h => .inl h), D3, r3, HFIN.out D3 p3 o3⟩
                · have gz1 : (mid : Int) < (en : Int) := by omega
                  have gz2 : ¬ (en : Int) < (b : Int) := by omega
                  have gz3 : decide ((en : Int) < (b : Int)) = false := decide_eq_false gz2
                  have HO : Hid (So K mid b D2) := So.one HSX.out.1.1 HSX.out.1.2 (.inr (by have := HM.out.h4; omega))
                  clear g1 g2
                  go_wp2
                  go_end0
                  exact ⟨rfl, H2.out.1, D2, H2.out.2.1, HFIN.out D2 (Pm.refl _ _ _) HO.out⟩
              · have gz1 : ¬ (mid : Int) < (en : Int) := by omega
                have gz3 : decide ((mid : Int) < (en : Int)) = false := decide_eq_false gz1
                have HO : Hid (So K mid b D2) := So.one HSX.out.1.1 HSX.out.1.2 (.inl (by have := HM.out.h5; have := HM.out.h2; omega))
                clear g1
                go_wp2
                go_end0
                exact ⟨rfl, H2.out.1, D2, H2.out.2.1, HFIN.out D2 (Pm.refl _ _ _) HO.out⟩
        
theorem sym_any {g f n pb N : Nat} {K : Nat → Int} (hn : n ≤ 1000) (hE : Tyg f) : ∀ (sz a m b : Nat) (D : Nat → Nat) (w0 : World), b - a ≤ sz → a < m → m < b → b ≤ n → CmpK w0 g f #[.pointer (some ⟨pb, 0, none⟩)] N K → Rp w0 g n D → (∀ i, i < n → D i < N) → So K a m D → So K m b D → Xl a m b D → Calls Tryz.prog 77 #[.slice (some ⟨g, 0, none⟩) n n, .int .i64 (a : Int), .int .i64 (m : Int), .int .i64 (b : Int), .func (.func f) #[] #[.pointer (some ⟨pb, 0, none⟩)]] w0 fun e w' => e = .returned (.tuple #[]) ∧ Kept (fun k => k = g) w0 w' ∧ ∃ D', Rp w' g n D' ∧ Pm a b D D' ∧ So K a b D'
  | 0, a, m, b, D, w0, hsz, ham, hmb, _, _, _, _, _, _, _ => by omega
  | sz + 1, a, m, b, D, w0, hsz, ham, hmb, hb, hc, hR, hN, hs1, hs2, hx => by
    by_cases h1 : m = a + 1
    · exact sym1 ham hmb hb hn hc hR hN hs1 hs2 hx hE h1
    · by_cases h2 : b = m + 1
      · exact sym2 ham hmb hb hn hc hR hN hs1 hs2 hx hE h1 h2
      · by_cases hcase : (a + b) / 2 < m
        · exact sym3T ham hmb hb hn hc hR hN hs1 hs2 hx hE h1 h2 hcase (fun a' m' b' D' w' hlt => sym_any hn hE sz a' m' b' D' w' (by omega))
        · exact sym3F ham hmb hb hn hc hR hN hs1 hs2 hx hE h1 h2 (by omega) (fun a' m' b' D' w' hlt => sym_any hn hE sz a' m' b' D' w' (by omega))
end Go.Proofs.YtibmgpinfdcaoaaGreatDoor
