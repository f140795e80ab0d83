/-
  One text: ZSym.
-/
import Derived.Test.YtibmgpinfdcaoaaGreatDoorG12
namespace Go.Proofs.YtibmgpinfdcaoaaGreatDoor
open Go.RowKit Go.Shelf Plain
set_option linter.unusedVariables false
set_option linter.unusedSimpArgs false
set_option maxRecDepth 100000

abbrev Tyg (f : Nat) : Prop := ∀ args w, (callFunc f args).run Tryz.prog w = .ok (.enter f args) w
def PbL (pb : Nat) : Array Value := #[.pointer (some ⟨pb, 0, none⟩)]

set_option maxHeartbeats 8000000 in
theorem sym1 {w0 : World} {g f n a m b pb N : Nat} {K : Nat → Int} {D : Nat → Nat} (ham : a < m) (hmb : m < b) (hb : b ≤ n) (hn : n ≤ 1000) (hc : CmpK w0 g f #[.pointer (some ⟨pb, 0, none⟩)] N K) (hR : Rp w0 g n D) (hN : ∀ i, i < n → D i < N) (hs1 : So K a m D) (hs2 : So K m b D) (hx : Xl a m b D) (hE : Tyg f) (h1 : m = a + 1) :
    Calls Tryz.prog 77 #[.slice (some ⟨g, 0, none⟩) n n, .int .i64 (a : Int), .int .i64 (m : Int), .int .i64 (b : Int), .func (.func f) #[] #[.pointer (some ⟨pb, 0, none⟩)]] w0 fun e w' => e = .returned (.tuple #[]) ∧ Kept (fun k => k = g) w0 w' ∧ ∃ D', Rp w' g n D' ∧ Pm a b D D' ∧ So K a b D' := by
  have HC : Hid (CmpK w0 g f #[.pointer (some ⟨pb, 0, none⟩)] N K) := hc
  have HNN : Hid (∀ i, i < n → D i < N) := hN
  have HEn : Hid (Tyg f) := hE
  have HR : Hid (Rp w0 g n D) := hR
  have HAB : Hid (a < m ∧ m < b ∧ b ≤ n ∧ n ≤ 1000) := ⟨ham, hmb, hb, hn⟩
  have HSo : Hid (So K a m D ∧ So K m b D ∧ Xl a m b D) := ⟨hs1, hs2, hx⟩
  clear hc hN hE hR hs1 hs2 hx
  have e1 : (m : Int) - (a : Int) = 1 := by omega
  have HM1 : Hid (m = a + 1) := h1
  clear h1 ham hmb hb hn
  go_enter Tryz.func77, Tryz.ntmps77
  go_wp2
  clear e1
  go_loopw [10, 11] (fun x y wr => ∃ i j : Nat, x = .int .i64 i ∧ y = .int .i64 j ∧ m ≤ i ∧ i ≤ j ∧ j ≤ b ∧ (∀ h, m ≤ h → h < i → K (D a) < K (D h)) ∧ (∀ h, j ≤ h → h < b → ¬ K (D a) < K (D h)) ∧ Kept No w0 wr) (fun x y _ => (intOf y).toNat - (intOf x).toNat)
  case atStart => exact ⟨m, b, rfl, rfl, Nat.le_refl _, by have := HAB.out; omega, Nat.le_refl _, fun h q1 q2 => by omega, fun h q1 q2 => by omega, Kept.refl _ _⟩
  case round =>
    obtain ⟨i, j, rfl, rfl, q1, q2, q3, q4, q5, q6⟩ := hrel
    have HQ : Hid (m ≤ i ∧ i ≤ j ∧ j ≤ b ∧ (∀ h, m ≤ h → h < i → K (D a) < K (D h)) ∧ (∀ h, j ≤ h → h < b → ¬ K (D a) < K (D h)) ∧ Kept No w0 wr) := ⟨q1, q2, q3, q4, q5, q6⟩
    have hab := HAB.out
    clear q4 q5 q6
    by_cases hij : i < j
    · have hij2 : (i : Int) < (j : Int) := by omega
      obtain ⟨h, hh⟩ : ∃ h : Nat, h = (i + j) / 2 := ⟨_, rfl⟩
      have hr : i ≤ h ∧ h < j := by omega
      have HH : Hid (i ≤ h ∧ h < j) := hr
      have HB : Hid (h < n ∧ a < n ∧ n ≤ 9223372036854775807) := ⟨by omega, by omega, by omega⟩
      have ew : ((i : Int) + (j : Int)) / 2 = (h : Int) := by omega
      have hbd : (i : Int) + (j : Int) ≤ 2000 := by omega
      have hh1 : (h : Int) ≤ 2000 := by omega
      clear q1 q2 q3 hr hh hab
      go_upto_region 5 with fail
      refine wp_region_kept wr (by kernel_rfl) (by kernel_rfl) (Kept.refl No wr) ?_
      refine BigFrame.wpQuiet_want rfl (fun KQ hKQ => ?_)
      refine quiet_val' (fun w5 hw5 => er_mv _ rfl (.func (.func f) #[] #[.pointer (some ⟨pb, 0, none⟩)]) rfl) ?_
      refine hKQ _ ?_
      clear hKQ KQ
      simp only [Act.put, List.setIfInBounds_toArray, List.set_cons_zero, List.set_cons_succ]
      refine BigFrame.wpQuiet_want rfl (fun KQ hKQ => ?_)
      refine quiet_val' (fun w5 hw5 => er_mv _ rfl (.slice (some ⟨g, 0, none⟩) n n) rfl) ?_
      refine hKQ _ ?_
      clear hKQ KQ
      simp only [Act.put, List.setIfInBounds_toArray, List.set_cons_zero, List.set_cons_succ]
      refine BigFrame.wpQuiet_want rfl (fun KQ hKQ => ?_)
      refine quiet_val' (fun w5 hw5 => er_mv _ rfl (.int .i64 (h : Int)) rfl) ?_
      refine hKQ _ ?_
      clear hKQ KQ
      simp only [Act.put, List.setIfInBounds_toArray, List.set_cons_zero, List.set_cons_succ]
      refine BigFrame.wpQuiet_want rfl (fun KQ hKQ => ?_)
      refine quiet_val' (fun w5 hw5 => er_ixi _ _ rfl g n n h HB.out.1 HB.out.2.2 rfl rfl) ?_
      refine hKQ _ ?_
      clear hKQ KQ
      simp only [Act.put, List.setIfInBounds_toArray, List.set_cons_zero, List.set_cons_succ]
      refine BigFrame.wpQuiet_want rfl (fun KQ hKQ => ?_)
      refine quiet_val' (fun w5 hw5 => er_ldI _ rfl g h _ rfl ((Cw.keep (Cw.keep HR.out HQ.out.2.2.2.2.2) hw5).at' h HB.out.1)) ?_
      refine hKQ _ ?_
      clear hKQ KQ
      simp only [Act.put, List.setIfInBounds_toArray, List.set_cons_zero, List.set_cons_succ]
      refine BigFrame.wpQuiet_want rfl (fun KQ hKQ => ?_)
      refine quiet_val' (fun w5 hw5 => er_mv _ rfl (.slice (some ⟨g, 0, none⟩) n n) rfl) ?_
      refine hKQ _ ?_
      clear hKQ KQ
      simp only [Act.put, List.setIfInBounds_toArray, List.set_cons_zero, List.set_cons_succ]
      refine BigFrame.wpQuiet_want rfl (fun KQ hKQ => ?_)
      refine quiet_val' (fun w5 hw5 => er_mv _ rfl (.int .i64 (a : Int)) rfl) ?_
      refine hKQ _ ?_
      clear hKQ KQ
      simp only [Act.put, List.setIfInBounds_toArray, List.set_cons_zero, List.set_cons_succ]
      refine BigFrame.wpQuiet_want rfl (fun KQ hKQ => ?_)
      refine quiet_val' (fun w5 hw5 => er_ixi _ _ rfl g n n a HB.out.2.1 HB.out.2.2 rfl rfl) ?_
      refine hKQ _ ?_
      clear hKQ KQ
      simp only [Act.put, List.setIfInBounds_toArray, List.set_cons_zero, List.set_cons_succ]
      refine BigFrame.wpQuiet_want rfl (fun KQ hKQ => ?_)
      refine quiet_val' (fun w5 hw5 => er_ldI _ rfl g a _ rfl ((Cw.keep (Cw.keep HR.out HQ.out.2.2.2.2.2) hw5).at' a HB.out.2.1)) ?_
      refine hKQ _ ?_
      clear hKQ KQ
      simp only [Act.put, List.setIfInBounds_toArray, List.set_cons_zero, List.set_cons_succ]
      refine BigFrame.wpQuiet_want rfl (fun KQ hKQ => ?_)
      refine quiet_cmp _ _ _ rfl f #[.pointer (some ⟨pb, 0, none⟩)] (.int .i64 (D h : Int)) (.int .i64 (D a : Int)) (.int .i64 (cvK K (D h) (D a))) rfl rfl rfl HEn.out (fun w5 hw5 => (HC.out w5 (((HQ.out.2.2.2.2.2.mono (fun _ h => h.elim)).trans hw5 (fun _ h => h.elim))) _ _ (HNN.out _ HB.out.1) (HNN.out _ HB.out.2.1)).mono (fun e w6 he => ⟨he.1, hw5.trans he.2 (fun _ x => x.elim)⟩)) ?_
      refine hKQ _ ?_
      clear hKQ KQ
      simp only [Act.put, List.setIfInBounds_toArray, List.set_cons_zero, List.set_cons_succ]
      refine BigFrame.wpQuiet_want rfl (fun KQ hKQ => ?_)
      refine quiet_val' (fun w5 hw5 => er_ltI _ _ rfl (cvK K (D h) (D a)) 0 (decide (K (D a) < K (D h))) rfl rfl (cvK_neg _ _ _)) ?_
      refine hKQ _ ?_
      clear hKQ KQ
      simp only [Act.put, List.setIfInBounds_toArray, List.set_cons_zero, List.set_cons_succ]
      refine wpQuiet_nil ?_
      intro w9 k9
      have HK9 : Hid (Kept No w0 w9) := HQ.out.2.2.2.2.2.trans k9 (fun _ h => h.elim)
      clear k9
      by_cases hk : K (D a) < K (D h)
      · rw [decide_eq_true hk]
        have HF : Hid (∀ x, m ≤ x → x < h + 1 → K (D a) < K (D x)) := fun x x1 x2 => by
          have := HSo.out.2.1.le (s := x) (t := h) x1 (by omega) (by have := HH.out; have := HQ.out; omega)
          omega
        go_wp2
        go_roundw
        case rel => exact ⟨h + 1, j, by go_num, rfl, by have := HH.out; have := HQ.out; omega, by have := HH.out; omega, HQ.out.2.2.1, HF.out, HQ.out.2.2.2.2.1, HK9.out⟩
        case measure => have := HH.out; simp [intOf]; omega
      · rw [decide_eq_false hk]
        have HF : Hid (∀ x, h ≤ x → x < b → ¬ K (D a) < K (D x)) := fun x x1 x2 => by
          have := HSo.out.2.1.le (s := h) (t := x) (by have := HH.out; have := HQ.out; omega) x1 x2
          omega
        go_wp2
        go_roundw
        case rel => exact ⟨i, h, rfl, rfl, HQ.out.1, by have := HH.out; omega, by have := HH.out; have := HQ.out; omega, HQ.out.2.2.2.1, HF.out, HK9.out⟩
        case measure => have := HH.out; simp [intOf]; omega
    · have e : i = j := by omega
      subst e
      obtain ⟨z, hz⟩ : ∃ z, i = z + 1 := ⟨i - 1, by omega⟩
      have HZ : Hid (i = z + 1) := hz
      have ez : (i : Int) - 1 = (z : Int) := by omega
      have HFIN : Hid (Pm a b D (mvU D a z) ∧ So K a b (mvU D a z)) := by
        have h1 := HM1.out
        have h2 := HQ.out
        refine ⟨?_, ?_⟩
        · have := mvU_pm D a b (z - a) (by omega)
          rw [show a + (z - a) = z by omega] at this
          exact this
        · have h3 := mvU_so (a := a) (b := b) (i := i) (D := D) (K := K) (by rw [← h1]; exact HSo.out.2.1) (by omega) (by omega) (fun t t1 t2 => HSo.out.2.2 a t (Nat.le_refl _) (by omega) (by omega) t2) (fun t t1 t2 => h2.2.2.2.1 t (by omega) t2) (fun t t1 t2 => h2.2.2.2.2.1 t t1 t2)
          rw [show i - 1 = z by omega] at h3
          exact h3
      clear q1 q2 q3 hz hab hij
      generalize wr = wo at *
      go_wp2
      clear ez
      go_loopw [13] (fun x wr => ∃ k : Nat, x = .int .i64 k ∧ a ≤ k ∧ k ≤ z ∧ Kept (fun k => k = g) w0 wr ∧ Rp wr g n (mvU D a k)) (fun x _ => z - (intOf x).toNat)
      case atStart => exact ⟨a, rfl, Nat.le_refl _, by have := HM1.out; have := HZ.out; have := HQ.out; omega, HQ.out.2.2.2.2.2.mono (fun _ h => h.elim), by rw [mvU_start]; exact Cw.keep HR.out HQ.out.2.2.2.2.2⟩
      case round =>
        obtain ⟨k, rfl, k1, k2, kk, kr⟩ := hrel
        have HL : Hid (a ≤ k ∧ k ≤ z ∧ Kept (fun k => k = g) w0 wr ∧ Rp wr g n (mvU D a k)) := ⟨k1, k2, kk, kr⟩
        have ez : (i : Int) - 1 = (z : Int) := by have := HZ.out; omega
        have hz3 : (z : Int) ≤ 1000 := by have := HZ.out; have := HAB.out; have := HQ.out; omega
        clear kk kr
        by_cases hkz : k < z
        · have hk2 : (k : Int) < (z : Int) := by omega
          have HST : Hid (swD (mvU D a k) k (k + 1) = mvU D a (k + 1)) := mvU_step D k1
          have hb1 : k < n ∧ k + 1 < n := by have := HZ.out; have := HQ.out; have := HAB.out; omega
          have c0 := HL.out.2.2.2.at' k hb1.1
          have c1 := HL.out.2.2.2.at' (k + 1) hb1.2
          have hfz := HL.out.2.2.2.fz
          generalize mvU D a k = D1 at *
          have g1 : (k : Int) < (n : Int) := by omega
          have g2 : (k : Int) + 1 < (n : Int) := by omega
          have hn3 : (n : Int) ≤ 1000 := by have := HAB.out; omega
          clear k1 k2 hkz hb1
          go_upto_region 11 with fail
          go_region
          go_wp2
          go_roundw
          case rel =>
            refine ⟨k + 1, by go_num, by have := HL.out; omega, by omega, ((HL.out.2.2.1.trans kept_set (fun _ h => .inl h)).trans kept_set (fun _ h => .inl h)).drew, ?_⟩
            rw [← HST.out]
            exact Cw.keep (Rp.swap (i := k) (j := k + 1) HL.out.2.2.2) ((Kept.refl No _).drew)
          case measure => simp [intOf]; omega
        · have e : k = z := by omega
          subst e
          have hz4 : ¬ (k : Int) < (k : Int) := by omega
          go_wp2
          refine bodyPost_ret (results_none rfl _ _ _) rfl ?_
          exact ⟨rfl, HL.out.2.2.1, _, HL.out.2.2.2, HFIN.out.1, HFIN.out.2⟩

set_option maxHeartbeats 8000000 in
theorem sym2 {w0 : World} {g f n a m b pb N : Nat} {K : Nat → Int} {D : Nat → Nat} (ham : a < m) (hmb : m < b) (hb : b ≤ n) (hn : n ≤ 1000) (hc : CmpK w0 g f #[.pointer (some ⟨pb, 0, none⟩)] N K) (hR : Rp w0 g n D) (hN : ∀ i, i < n → D i < N) (hs1 : So K a m D) (hs2 : So K m b D) (hx : Xl a m b D) (hE : Tyg f) (h1 : m ≠ a + 1) (h2 : b = m + 1) :
    Calls Tryz.prog 77 #[.slice (some ⟨g, 0, none⟩) n n, .int .i64 (a : Int), .int .i64 (m : Int), .int .i64 (b : Int), .func (.func f) #[] #[.pointer (some ⟨pb, 0, none⟩)]] w0 fun e w' => e = .returned (.tuple #[]) ∧ Kept (fun k => k = g) w0 w' ∧ ∃ D', Rp w' g n D' ∧ Pm a b D D' ∧ So K a b D' := by
  have HC : Hid (CmpK w0 g f #[.pointer (some ⟨pb, 0, none⟩)] N K) := hc
  have HNN : Hid (∀ i, i < n → D i < N) := hN
  have HEn : Hid (Tyg f) := hE
  have HR : Hid (Rp w0 g n D) := hR
  have HAB : Hid (a < m ∧ m < b ∧ b ≤ n ∧ n ≤ 1000) := ⟨ham, hmb, hb, hn⟩
  have HSo : Hid (So K a m D ∧ So K m b D ∧ Xl a m b D) := ⟨hs1, hs2, hx⟩
  clear hc hN hE hR hs1 hs2 hx
  obtain ⟨d, hd⟩ : ∃ d : Nat, d = m - a := ⟨_, rfl⟩
  have e1 : (m : Int) - (a : Int) = (d : Int) := by omega
  have e2 : ((d : Int) == 1) = false := by simp; omega
  have e4 : ¬ (d : Int) = 1 := by omega
  have e5 : (d : Int) ≤ 1000 := by omega
  have e3 : (b : Int) - (m : Int) = 1 := by omega
  have HM1 : Hid (b = m + 1) := h2
  clear h1 h2 ham hmb hb hn hd
  go_enter Tryz.func77, Tryz.ntmps77
  go_wp2
  clear e1 e2 e3 e4 e5
  go_loopw [14, 15] (fun x y wr => ∃ i j : Nat, x = .int .i64 i ∧ y = .int .i64 j ∧ a ≤ i ∧ i ≤ j ∧ j ≤ m ∧ (∀ h, a ≤ h → h < i → ¬ K (D h) < K (D m)) ∧ (∀ h, j ≤ h → h < m → K (D h) < K (D m)) ∧ Kept No w0 wr) (fun x y _ => (intOf y).toNat - (intOf x).toNat)
  case atStart => exact ⟨a, m, rfl, rfl, Nat.le_refl _, by have := HAB.out; omega, Nat.le_refl _, fun h q1 q2 => by omega, fun h q1 q2 => by omega, Kept.refl _ _⟩
  case round =>
    obtain ⟨i, j, rfl, rfl, q1, q2, q3, q4, q5, q6⟩ := hrel
    have HQ : Hid (a ≤ i ∧ i ≤ j ∧ j ≤ m ∧ (∀ h, a ≤ h → h < i → ¬ K (D h) < K (D m)) ∧ (∀ h, j ≤ h → h < m → K (D h) < K (D m)) ∧ Kept No w0 wr) := ⟨q1, q2, q3, q4, q5, q6⟩
    have hab := HAB.out
    clear q4 q5 q6
    by_cases hij : i < j
    · have hij2 : (i : Int) < (j : Int) := by omega
      obtain ⟨h, hh⟩ : ∃ h : Nat, h = (i + j) / 2 := ⟨_, rfl⟩
      have hr : i ≤ h ∧ h < j := by omega
      have HH : Hid (i ≤ h ∧ h < j) := hr
      have HB : Hid (h < n ∧ m < n ∧ n ≤ 9223372036854775807) := ⟨by omega, by omega, by omega⟩
      have ew : ((i : Int) + (j : Int)) / 2 = (h : Int) := by omega
      have hbd : (i : Int) + (j : Int) ≤ 2000 := by omega
      have hh1 : (h : Int) ≤ 2000 := by omega
      clear q1 q2 q3 hr hh hab
      go_upto_region 17 with fail
      refine wp_region_kept wr (by kernel_rfl) (by kernel_rfl) (Kept.refl No wr) ?_
      refine BigFrame.wpQuiet_want rfl (fun KQ hKQ => ?_)
      refine quiet_val' (fun w5 hw5 => er_mv _ rfl (.func (.func f) #[] #[.pointer (some ⟨pb, 0, none⟩)]) rfl) ?_
      refine hKQ _ ?_
      clear hKQ KQ
      simp only [Act.put, List.setIfInBounds_toArray, List.set_cons_zero, List.set_cons_succ]
      refine BigFrame.wpQuiet_want rfl (fun KQ hKQ => ?_)
      refine quiet_val' (fun w5 hw5 => er_mv _ rfl (.slice (some ⟨g, 0, none⟩) n n) rfl) ?_
      refine hKQ _ ?_
      clear hKQ KQ
      simp only [Act.put, List.setIfInBounds_toArray, List.set_cons_zero, List.set_cons_succ]
      refine BigFrame.wpQuiet_want rfl (fun KQ hKQ => ?_)
      refine quiet_val' (fun w5 hw5 => er_mv _ rfl (.int .i64 (m : Int)) rfl) ?_
      refine hKQ _ ?_
      clear hKQ KQ
      simp only [Act.put, List.setIfInBounds_toArray, List.set_cons_zero, List.set_cons_succ]
      refine BigFrame.wpQuiet_want rfl (fun KQ hKQ => ?_)
      refine quiet_val' (fun w5 hw5 => er_ixi _ _ rfl g n n m HB.out.2.1 HB.out.2.2 rfl rfl) ?_
      refine hKQ _ ?_
      clear hKQ KQ
      simp only [Act.put, List.setIfInBounds_toArray, List.set_cons_zero, List.set_cons_succ]
      refine BigFrame.wpQuiet_want rfl (fun KQ hKQ => ?_)
      refine quiet_val' (fun w5 hw5 => er_ldI _ rfl g m _ rfl ((Cw.keep (Cw.keep HR.out HQ.out.2.2.2.2.2) hw5).at' m HB.out.2.1)) ?_
      refine hKQ _ ?_
      clear hKQ KQ
      simp only [Act.put, List.setIfInBounds_toArray, List.set_cons_zero, List.set_cons_succ]
      refine BigFrame.wpQuiet_want rfl (fun KQ hKQ => ?_)
      refine quiet_val' (fun w5 hw5 => er_mv _ rfl (.slice (some ⟨g, 0, none⟩) n n) rfl) ?_
      refine hKQ _ ?_
      clear hKQ KQ
      simp only [Act.put, List.setIfInBounds_toArray, List.set_cons_zero, List.set_cons_succ]
      refine BigFrame.wpQuiet_want rfl (fun KQ hKQ => ?_)
      refine quiet_val' (fun w5 hw5 => er_mv _ rfl (.int .i64 (h : Int)) rfl) ?_
      refine hKQ _ ?_
      clear hKQ KQ
      simp only [Act.put, List.setIfInBounds_toArray, List.set_cons_zero, List.set_cons_succ]
      refine BigFrame.wpQuiet_want rfl (fun KQ hKQ => ?_)
      refine quiet_val' (fun w5 hw5 => er_ixi _ _ rfl g n n h HB.out.1 HB.out.2.2 rfl rfl) ?_
      refine hKQ _ ?_
      clear hKQ KQ
      simp only [Act.put, List.setIfInBounds_toArray, List.set_cons_zero, List.set_cons_succ]
      refine BigFrame.wpQuiet_want rfl (fun KQ hKQ => ?_)
      refine quiet_val' (fun w5 hw5 => er_ldI _ rfl g h _ rfl ((Cw.keep (Cw.keep HR.out HQ.out.2.2.2.2.2) hw5).at' h HB.out.1)) ?_
      refine hKQ _ ?_
      clear hKQ KQ
      simp only [Act.put, List.setIfInBounds_toArray, List.set_cons_zero, List.set_cons_succ]
      refine BigFrame.wpQuiet_want rfl (fun KQ hKQ => ?_)
      refine quiet_cmp _ _ _ rfl f #[.pointer (some ⟨pb, 0, none⟩)] (.int .i64 (D m : Int)) (.int .i64 (D h : Int)) (.int .i64 (cvK K (D m) (D h))) rfl rfl rfl HEn.out (fun w5 hw5 => (HC.out w5 (((HQ.out.2.2.2.2.2.mono (fun _ h => h.elim)).trans hw5 (fun _ h => h.elim))) _ _ (HNN.out _ HB.out.2.1) (HNN.out _ HB.out.1)).mono (fun e w6 he => ⟨he.1, hw5.trans he.2 (fun _ x => x.elim)⟩)) ?_
      refine hKQ _ ?_
      clear hKQ KQ
      simp only [Act.put, List.setIfInBounds_toArray, List.set_cons_zero, List.set_cons_succ]
      refine BigFrame.wpQuiet_want rfl (fun KQ hKQ => ?_)
      refine quiet_val' (fun w5 hw5 => er_ltI _ _ rfl (cvK K (D m) (D h)) 0 (decide (K (D h) < K (D m))) rfl rfl (cvK_neg _ _ _)) ?_
      refine hKQ _ ?_
      clear hKQ KQ
      simp only [Act.put, List.setIfInBounds_toArray, List.set_cons_zero, List.set_cons_succ]
      refine BigFrame.wpQuiet_want rfl (fun KQ hKQ => ?_)
      refine quiet_val' (fun w5 hw5 => er_notB _ rfl (decide (K (D h) < K (D m))) (!decide (K (D h) < K (D m))) rfl rfl) ?_
      refine hKQ _ ?_
      clear hKQ KQ
      simp only [Act.put, List.setIfInBounds_toArray, List.set_cons_zero, List.set_cons_succ]
      refine wpQuiet_nil ?_
      intro w9 k9
      have HK9 : Hid (Kept No w0 w9) := HQ.out.2.2.2.2.2.trans k9 (fun _ h => h.elim)
      clear k9
      by_cases hk : K (D h) < K (D m)
      · rw [decide_eq_true hk]
        have HF : Hid (∀ x, h ≤ x → x < m → K (D x) < K (D m)) := fun x x1 x2 => by
          have := HSo.out.1.le (s := h) (t := x) (by have := HH.out; have := HQ.out; omega) x1 x2
          omega
        go_wp2
        go_roundw
        case rel => exact ⟨i, h, rfl, rfl, HQ.out.1, by have := HH.out; omega, by have := HH.out; have := HQ.out; omega, HQ.out.2.2.2.1, HF.out, HK9.out⟩
        case measure => have := HH.out; simp [intOf]; omega
      · rw [decide_eq_false hk]
        have HF : Hid (∀ x, a ≤ x → x < h + 1 → ¬ K (D x) < K (D m)) := fun x x1 x2 => by
          have := HSo.out.1.le (s := x) (t := h) x1 (by omega) (by have := HH.out; have := HQ.out; omega)
          omega
        go_wp2
        go_roundw
        case rel => exact ⟨h + 1, j, by go_num, rfl, by have := HH.out; have := HQ.out; omega, by have := HH.out; omega, HQ.out.2.2.1, HF.out, HQ.out.2.2.2.2.1, HK9.out⟩
        case measure => have := HH.out; simp [intOf]; omega
    · have e : i = j := by omega
      subst e
      have HFIN : Hid (Pm a b D (mvD D m i) ∧ So K a b (mvD D m i)) := by
        have h1 := HM1.out
        have h2 := HQ.out
        refine ⟨?_, ?_⟩
        · have := mvD_pm D a m (m - i) (by omega) (by omega)
          rw [show m - (m - i) = i by omega, ← h1] at this
          exact this
        · have h3 := mvD_so (a := a) (m := m) (i := i) (D := D) (K := K) HSo.out.1 (by omega) (by omega) (fun t t1 t2 => HSo.out.2.2 t m t1 t2 (Nat.le_refl _) (by omega)) h2.2.2.2.1 h2.2.2.2.2.1
          rw [← h1] at h3
          exact h3
      clear q1 q2 q3 hab hij
      generalize wr = wo at *
      go_wp2
      go_loopw [17] (fun x wr => ∃ k : Nat, x = .int .i64 k ∧ i ≤ k ∧ k ≤ m ∧ Kept (fun k => k = g) w0 wr ∧ Rp wr g n (mvD D m k)) (fun x _ => (intOf x).toNat - i)
      case atStart => exact ⟨m, rfl, by have := HQ.out; omega, Nat.le_refl _, HQ.out.2.2.2.2.2.mono (fun _ h => h.elim), by rw [mvD_start]; exact Cw.keep HR.out HQ.out.2.2.2.2.2⟩
      case round =>
        obtain ⟨k, rfl, k1, k2, kk, kr⟩ := hrel
        have HL : Hid (i ≤ k ∧ k ≤ m ∧ Kept (fun k => k = g) w0 wr ∧ Rp wr g n (mvD D m k)) := ⟨k1, k2, kk, kr⟩
        clear kk kr
        by_cases hkz : i < k
        · obtain ⟨z, hz⟩ : ∃ z, k = z + 1 := ⟨k - 1, by omega⟩
          subst hz
          have hk2 : (i : Int) < (z : Int) + 1 := by omega
          have HST : Hid (swD (mvD D m (z + 1)) (z + 1) z = mvD D m z) := mvD_step D k2
          have hb1 : z < n ∧ z + 1 < n := by have := HAB.out; omega
          have HZN : Hid (z < n ∧ z + 1 < n) := hb1
          have c0 := HL.out.2.2.2.at' z hb1.1
          have c1 := HL.out.2.2.2.at' (z + 1) hb1.2
          have hfz := HL.out.2.2.2.fz
          generalize mvD D m (z + 1) = D1 at *
          have g1 : (z : Int) < (n : Int) := by omega
          have g2 : (z : Int) + 1 < (n : Int) := by omega
          have g3 : (z : Int) + 1 - 1 = (z : Int) := by omega
          have hn3 : (n : Int) ≤ 1000 := by have := HAB.out; omega
          clear k1 k2 hkz hb1
          go_upto_region 23 with fail
          go_region
          go_wp2
          go_roundw
          case rel =>
            refine ⟨z, by go_num, by have := HL.out; omega, by have := HL.out; omega, ((HL.out.2.2.1.trans kept_set (fun _ h => .inl h)).trans kept_set (fun _ h => .inl h)).drew, ?_⟩
            rw [← HST.out]
            exact Cw.keep (Rp.swap (i := z + 1) (j := z) HL.out.2.2.2) ((Kept.refl No _).drew)
          case measure => simp [intOf]; omega
        · have e : k = i := by omega
          subst e
          go_wp2
          refine bodyPost_ret (results_none rfl _ _ _) rfl ?_
          exact ⟨rfl, HL.out.2.2.1, _, HL.out.2.2.2, HFIN.out.1, HFIN.out.2⟩
end Go.Proofs.YtibmgpinfdcaoaaGreatDoor
