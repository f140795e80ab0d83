/-
  One text: ZLu, ZLv.
-/
import Derived.Test.YtgpaaoflhffcbaaGreatDoorGW
namespace Go.Proofs.YtgpaaoflhffcbaaGreatDoor
open Go.RowKit Go.Shelf Plain
set_option linter.unusedVariables false
set_option linter.unusedSimpArgs false
set_option maxRecDepth 100000

set_option maxHeartbeats 16000000 in
theorem adds_tim {F : Nat → Prop} {a : Option Addr} {n c : Nat} {xs : List Srv} (fr be : Int) (w : World) (hg : Gl w) (h : Sv w F a n c xs) {q : Int × Int} (ht : timF xs n = some q) :
    Calls Tryz.prog 3 #[.slice a n c, .int .i64 fr, .int .i64 be] w fun e w' => e = .returned (.bool true) ∧ Kept No w w' := by
  have hc := hyper_any F a n c xs w hg h
  rw [show hyE xs n = q.1 by unfold hyE; rw [ht]] at hc
  have g0 := tim_neQ ht
  generalize hyV xs n = v at *
  have HU : Hid (∀ W, Kept No w W → Calls Tryz.prog 5 #[.slice a n c, .int .i64 fr, .int .i64 be] W fun e w' => e = .returned (.tuple #[.slice none 0 0, .int .i64 q.1]) ∧ Kept No W w') := fun W k => used_err fr be q.1 W g0 (spanE_tim fr be W (hg.kept k) (h.keep k) ht)
  have HS : Hid (∀ W, Kept No w W → Calls Tryz.prog 6 #[.slice a n c] W fun e w' => e = .returned (.tuple #[.slice none 0 0, .int .i64 q.1]) ∧ Kept No W w') := fun W k => shares_err W (hg.kept k) (h.keep k) ht
  have HW : Hid (∀ W, Kept No w W → Calls Tryz.prog 7 #[] W fun e w' => e = .returned (.bool true) ∧ Kept No W w') := fun W k => works_any W (hg.kept k)
  obtain ⟨z, hz⟩ : ∃ z, z = q.1 := ⟨_, rfl⟩
  rw [← hz] at hc g0 HU HS
  have g1 : (z != 0) = true := by simpa using g0
  have g2 : (z == z) = true := by simp
  clear h ht hg hz
  go_enter Tryz.func3, Tryz.ntmps3
  go_wp2_with (first
    | (go_at_call 4; refine hc.mono ?_; rintro e w1 ⟨rfl, hk1⟩; have HK1 : Hid (Kept No w w1) := hk1; have hu := HU.out w1 HK1.out; clear hk1 hc)
    | (go_at_call 5; refine hu.mono ?_; rintro e w2 ⟨rfl, hk2⟩; have HK2 : Hid (Kept No w w2) := HK1.out.trans hk2 (fun _ h => h.elim); have hsh := HS.out w2 HK2.out; clear hk2 hu)
    | (go_at_call 6; refine hsh.mono ?_; rintro e w3 ⟨rfl, hk3⟩; have HK3 : Hid (Kept No w w3) := HK2.out.trans hk3 (fun _ h => h.elim); have hwk := HW.out w3 HK3.out; clear hk3 hsh)
    | (go_at_call 7; refine hwk.mono ?_; rintro e w4 ⟨rfl, hk4⟩; have HK4 : Hid (Kept No w w4) := HK3.out.trans hk4 (fun _ h => h.elim); clear hk4 hwk))
  go_ret
  exact ⟨rfl, HK4.out⟩

set_option maxHeartbeats 16000000 in
theorem adds_bad {F : Nat → Prop} {a : Option Addr} {c : Nat} {xs : List Srv} (fr be : Int) (w : World) (hg : Gl w) (h : Sv w F a xs.length c xs) (ht : timF xs xs.length = none) (hb : fr < 0 ∨ be < fr ∨ 1099511627776 < be) :
    Calls Tryz.prog 3 #[.slice a xs.length c, .int .i64 fr, .int .i64 be] w fun e w' => e = .returned (.bool true) ∧ Kept No w w' := by
  have hc := hyper_any F a xs.length c xs w hg h
  rw [(tim_yes ht).1, (tim_yes ht).2] at hc
  have HU : Hid (∀ W, Kept No w W → Calls Tryz.prog 5 #[.slice a xs.length c, .int .i64 fr, .int .i64 be] W fun e w' => e = .returned (.tuple #[.slice none 0 0, .int .i64 2]) ∧ Kept No W w') := fun W k => used_err fr be 2 W (by decide) (spanE_bad fr be W (hg.kept k) (h.keep k) ht hb)
  have HW : Hid (∀ W, Kept No w W → Calls Tryz.prog 7 #[] W fun e w' => e = .returned (.bool true) ∧ Kept No W w') := fun W k => works_any W (hg.kept k)
  clear h ht hg
  by_cases h0 : fr < 0
  · have k0 : decide (fr < 0) = true := decide_eq_true h0
    clear hb
    go_enter Tryz.func3, Tryz.ntmps3
    go_wp2_with (first
      | (go_at_call 4; refine hc.mono ?_; rintro e w1 ⟨rfl, hk1⟩; have HK1 : Hid (Kept No w w1) := hk1; have hu := HU.out w1 HK1.out; clear hk1 hc)
      | (go_at_call 5; refine hu.mono ?_; rintro e w2 ⟨rfl, hk2⟩; have HK2 : Hid (Kept No w w2) := HK1.out.trans hk2 (fun _ h => h.elim); have hwk := HW.out w2 HK2.out; clear hk2 hu)
      | (go_at_call 7; refine hwk.mono ?_; rintro e w4 ⟨rfl, hk4⟩; have HK4 : Hid (Kept No w w4) := HK2.out.trans hk4 (fun _ h => h.elim); clear hk4 hwk))
    go_ret
    exact ⟨rfl, HK4.out⟩
  · have k0 : decide (fr < 0) = false := decide_eq_false h0
    by_cases h1 : be < fr
    · have k1 : decide (be < fr) = true := decide_eq_true h1
      clear hb
      go_enter Tryz.func3, Tryz.ntmps3
      go_wp2_with (first
        | (go_at_call 4; refine hc.mono ?_; rintro e w1 ⟨rfl, hk1⟩; have HK1 : Hid (Kept No w w1) := hk1; have hu := HU.out w1 HK1.out; clear hk1 hc)
        | (go_at_call 5; refine hu.mono ?_; rintro e w2 ⟨rfl, hk2⟩; have HK2 : Hid (Kept No w w2) := HK1.out.trans hk2 (fun _ h => h.elim); have hwk := HW.out w2 HK2.out; clear hk2 hu)
        | (go_at_call 7; refine hwk.mono ?_; rintro e w4 ⟨rfl, hk4⟩; have HK4 : Hid (Kept No w w4) := HK2.out.trans hk4 (fun _ h => h.elim); clear hk4 hwk))
      go_ret
      exact ⟨rfl, HK4.out⟩
    · have k1 : decide (be < fr) = false := decide_eq_false h1
      have h2 : (1099511627776 : Int) < be := by omega
      have k2 : decide ((1099511627776 : Int) < be) = true := decide_eq_true h2
      clear hb
      go_enter Tryz.func3, Tryz.ntmps3
      go_wp2_with (first
        | (go_at_call 4; refine hc.mono ?_; rintro e w1 ⟨rfl, hk1⟩; have HK1 : Hid (Kept No w w1) := hk1; have hu := HU.out w1 HK1.out; clear hk1 hc)
        | (go_at_call 5; refine hu.mono ?_; rintro e w2 ⟨rfl, hk2⟩; have HK2 : Hid (Kept No w w2) := HK1.out.trans hk2 (fun _ h => h.elim); have hwk := HW.out w2 HK2.out; clear hk2 hu)
        | (go_at_call 7; refine hwk.mono ?_; rintro e w4 ⟨rfl, hk4⟩; have HK4 : Hid (Kept No w w4) := HK2.out.trans hk4 (fun _ h => h.elim); clear hk4 hwk))
      go_ret
      exact ⟨rfl, HK4.out⟩
end Go.Proofs.YtgpaaoflhffcbaaGreatDoor

namespace Go.Proofs.YtgpaaoflhffcbaaGreatDoor
open Go.RowKit Go.Shelf Plain
set_option linter.unusedVariables false
set_option linter.unusedSimpArgs false
set_option maxRecDepth 100000

theorem sm_part {f : Nat → Int} {n : Nat} (h : ∀ i, i < n → 0 ≤ f i) : ∀ d i, i + d = n → sm f i ≤ sm f n
  | 0, i, e => by rw [show i = n by omega]; exact Int.le_refl _
  | d + 1, i, e => by
    have h1 := sm_part h d (i + 1) (by omega)
    have h2 := h i (by omega)
    rw [sm] at h1
    omega
set_option maxHeartbeats 32000000 in
theorem adds_good {F : Nat → Prop} {a : Option Addr} {c : Nat} {xs : List Srv} (fr be : Nat) (w : World) (hg : Gl w) (h : Sv w F a xs.length c xs) (hF : ∀ k, F k → k < w.heap.size) (ht : timF xs xs.length = none) (h1 : fr ≤ be) (h2 : be ≤ 1099511627776) :
    Calls Tryz.prog 3 #[.slice a xs.length c, .int .i64 (fr : Int), .int .i64 (be : Int)] w fun e w' => e = .returned (.bool true) ∧ Kept No w w' := by
  have hc := hyper_any F a xs.length c xs w hg h
  rw [(tim_yes ht).1, (tim_yes ht).2] at hc
  have hv := vd_of ht
  have hlF : ∀ W, Kept No w W → ∀ k, F k → k < W.heap.size := fun W k q hq => Nat.lt_of_lt_of_le (hF q hq) k.size
  have HU : Hid (∀ W (f b : Nat), Kept No w W → f ≤ b → b ≤ 1099511627776 → Calls Tryz.prog 5 #[.slice a xs.length c, .int .i64 (f : Int), .int .i64 (b : Int)] W fun e w' => ∃ g, e = .returned (.tuple #[.slice (some ⟨g, 0, none⟩) (xs.length + 1) (xs.length + 1), .int .i64 0]) ∧ W.heap.size ≤ g ∧ Cw w' g (xs.length + 1) (usF xs f b) ∧ Kept No W w') := fun W f b k q1 q2 => used_yes f b W (hg.kept k) (h.keep k) (hlF W k) ht q1 q2
  have HSU : Hid (∀ (W : World) (p : Nat), Kept No w W → 1 ≤ p → p ≤ xs.length → Calls Tryz.prog 8 #[.slice a xs.length c, .int .i64 p, .int .i64 fr, .int .i64 be] W fun e w' => e = .returned (.tuple #[.int .i64 (usF xs fr be p), .int .i64 0]) ∧ Kept No W w') := fun W p k p1 p2 => by
    rw [us_at xs fr be p1 p2]
    exact supply_yes p fr be W (hg.kept k) (h.keep k) (hlF W k) ht p1 p2 h1 h2
  have HW : Hid (∀ W, Kept No w W → Calls Tryz.prog 7 #[] W fun e w' => e = .returned (.bool true) ∧ Kept No W w') := fun W k => works_any W (hg.kept k)
  have hH1 := hv.hyp1
  have hH2 := hv.hyp2
  have hcb : ∀ i, i < xs.length + 1 → 0 ≤ usF xs (hyp xs) (2 * hyp xs) i ∧ usF xs (hyp xs) (2 * hyp xs) i ≤ (hyp xs : Int) := fun i hi => by
    have := us_bd xs (show hyp xs ≤ 2 * hyp xs by omega) i hi
    omega
  have hcs : sm (usF xs (hyp xs) (2 * hyp xs)) (xs.length + 1) = (hyp xs : Int) := by rw [us_all]; omega
  have hlb := left_bd (show (1 : Int) ≤ (hyp xs : Int) by omega) hcs
  obtain ⟨L, hL⟩ : ∃ L : Nat, 1000000 - sm (fun i => usF xs (hyp xs) (2 * hyp xs) i * 1000000 / (hyp xs : Int)) (xs.length + 1) = (L : Int) := ⟨_, (Int.toNat_of_nonneg hlb.1).symm⟩
  rw [hL] at hlb
  have HSH : Hid (∀ W, Kept No w W → Calls Tryz.prog 6 #[.slice a xs.length c] W fun e w' => ∃ (g : Nat) (D : Nat → Nat), e = .returned (.tuple #[.slice (some ⟨g, 0, none⟩) (xs.length + 1) (xs.length + 1), .int .i64 0]) ∧ W.heap.size ≤ g ∧ Cw w' g (xs.length + 1) (fun i => loS (usF xs (hyp xs) (2 * hyp xs)) (hyp xs) i + incN D L i) ∧ Pm 0 (xs.length + 1) (fun i => i) D ∧ So (rmK (usF xs (hyp xs) (2 * hyp xs)) (hyp xs)) 0 (xs.length + 1) D ∧ Kept No W w') := fun W k => shares_yes W (hg.kept k) (h.keep k) (hlF W k) ht hcb L (by rw [lfS_eq]; exact hL) (by omega)
  have HUB : Hid ((∀ i, i < xs.length + 1 → 0 ≤ usF xs fr be i) ∧ sm (usF xs fr be) (xs.length + 1) = (be : Int) - fr) := ⟨fun i hi => (us_bd xs h1 i hi).1, us_all xs fr be⟩
  have HCB := hid (And.intro hcb hcs)
  have HLL := hid (And.intro hL hlb)
  have HUA := HU.out w fr be (Kept.refl No w) h1 h2
  have hn := hv.num
  have H2H := HU
  obtain ⟨n, hnn⟩ : ∃ n, n = xs.length := ⟨_, rfl⟩
  rw [← hnn] at HUB HCB HLL HU HSU HSH hn hc
  rw [← hnn]
  have HUH : Hid (∀ W, Kept No w W → Calls Tryz.prog 5 #[.slice a n c, .int .i64 (hyp xs : Int), .int .i64 (2 * (hyp xs : Int))] W fun e w' => ∃ g, e = .returned (.tuple #[.slice (some ⟨g, 0, none⟩) (n + 1) (n + 1), .int .i64 0]) ∧ W.heap.size ≤ g ∧ Cw w' g (n + 1) (usF xs (hyp xs) (2 * hyp xs)) ∧ Kept No W w') := fun W k => by
    have := HU.out W (hyp xs) (2 * hyp xs) k (by omega) (by omega)
    rw [show ((2 * hyp xs : Nat) : Int) = 2 * (hyp xs : Int) by omega] at this
    exact this
  have HUG : Hid (∀ W, Kept No w W → Calls Tryz.prog 5 #[.slice a n c, .int .i64 (fr : Int), .int .i64 (be : Int)] W fun e w' => ∃ g, e = .returned (.tuple #[.slice (some ⟨g, 0, none⟩) (n + 1) (n + 1), .int .i64 0]) ∧ W.heap.size ≤ g ∧ Cw w' g (n + 1) (usF xs fr be) ∧ Kept No W w') := fun W k => HU.out W fr be k h1 h2
  clear HU HUA H2H hlF h hF ht hg hcb hcs hL hlb hv hnn
  generalize usF xs (hyp xs) (2 * hyp xs) = cy at *
  generalize usF xs fr be = us at *
  generalize hyp xs = H at *
  have HB : Hid (n ≤ 32 ∧ 1 ≤ H ∧ H ≤ 1048576 ∧ fr ≤ be ∧ be ≤ 1099511627776) := ⟨hn, hH1, hH2, h1, h2⟩
  have k0 : ¬ (fr : Int) < 0 := by omega
  have k1 : ¬ (be : Int) < (fr : Int) := by omega
  have k2 : ¬ (1099511627776 : Int) < (be : Int) := by omega
  have e0 : decide ((fr : Int) < 0) = false := decide_eq_false k0
  have e1 : decide ((be : Int) < (fr : Int)) = false := decide_eq_false k1
  have e2 : decide ((1099511627776 : Int) < (be : Int)) = false := decide_eq_false k2
  have e1n : decide (be < fr) = false := decide_eq_false (by omega)
  have k1n : ¬ be < fr := by omega
  have hH3 : (H : Int) ≤ 1048576 := by omega
  have hH4 : (0 : Int) ≤ (H : Int) := by omega
  have hn3 : (n : Int) ≤ 32 := by omega
  have hnn : ((n : Int) + 1 != (n : Int) + 1) = false := by simp
  have hd0 : (0 : Int) ≤ (be : Int) - (fr : Int) := by omega
  have hd1 : (be : Int) - (fr : Int) ≤ 1099511627776 := by omega
  clear h1 h2 hH1 hH2 hn
  go_enter Tryz.func3, Tryz.ntmps3
  go_upto_region 11 with (first
    | (go_at_call 4; refine hc.mono ?_; rintro e w1 ⟨rfl, hk1⟩; have HK1 : Hid (Kept No w w1) := hk1; have hu := HUG.out w1 HK1.out; clear hk1 hc)
    | (go_at_call 5; refine hu.mono ?_; rintro e w2 ⟨gu, rfl, q1, q2, q3⟩; have H2 : Hid (Cw w2 gu (n + 1) us ∧ Kept No w w2) := ⟨q2, HK1.out.trans q3 (fun _ h => h.elim)⟩; clear hu q1 q2 q3))
  clear k0 k1 k2 e0 e1 e2 e1n k1n hnn
  go_wp2
  go_loopw [15, 16] (fun x y wr => ∃ i : Nat, y = .int .i64 i ∧ x = .int .i64 (sm us i) ∧ i ≤ n + 1 ∧ Kept No w2 wr) (fun _ y _ => n + 1 - (intOf y).toNat)
  case atStart => exact ⟨0, rfl, rfl, Nat.zero_le _, Kept.refl _ _⟩
  case round =>
    obtain ⟨i, rfl, rfl, hi, K⟩ := hrel
    have HKR := hid K
    clear K
    by_cases hlt : i < n + 1
    · have hin : (i : Int) < (n : Int) + 1 := by omega
      have c0 := (H2.out.1.keep HKR.out).at' i hlt
      have HS1 : Hid (sm us (i + 1) = sm us i + us i) := rfl
      have hb1 : 0 ≤ sm us i := sm_nonneg i (fun j hj => HUB.out.1 j (by omega))
      have hb2 : sm us i + us i ≤ 1099511627776 := by
        have := sm_part HUB.out.1 (n + 1 - (i + 1)) (i + 1) (by omega)
        rw [HUB.out.2, sm] at this
        omega
      have hb3 : 0 ≤ us i := HUB.out.1 i hlt
      have HII := hid hlt
      have hsp := HSU.out wr i (H2.out.2.trans HKR.out (fun _ h => h.elim))
      have hcw := hid (fun w' (k : Kept No wr w') => (H2.out.1.keep (HKR.out.trans k (fun _ h => h.elim))).at' i hlt)
      generalize sm us i = s at *
      generalize us i = v at *
      have hvv : (v != v) = false := by simp
      clear hlt
      by_cases h0 : i = 0
      · subst h0
        clear hsp hcw
        go_wp2
        go_roundw
        case rel => exact ⟨1, by go_num, by rw [HS1.out], by have := HII.out; omega, HKR.out⟩
        case measure => simp [intOf]
      · have hi0 : (0 : Int) < (i : Int) := by omega
        have hsq := hsp (by omega) (by omega)
        clear hsp h0
        go_wp2_with (go_at_call 8; refine hsq.mono ?_; rintro e w3 ⟨rfl, k3⟩; have H3 : Hid (Kept No w2 w3) := HKR.out.trans k3 (fun _ h => h.elim); have c3 := hcw.out w3 k3; clear hsq k3 c0 hcw)
        go_roundw
        case rel => exact ⟨i + 1, by go_num, by rw [HS1.out], by have := HII.out; omega, H3.out⟩
        case measure => have := HII.out; simp [intOf]; omega
    · have e : i = n + 1 := by omega
      subst e
      have hs0 : sm us (n + 1) = (be : Int) - (fr : Int) := HUB.out.2
      rw [hs0]
      have hu0 := HUB.out.1 0 (by omega)
      have c0 := (H2.out.1.keep HKR.out).at' 0 (by omega)
      have HKA : Hid (Kept No w wr) := H2.out.2.trans HKR.out (fun _ h => h.elim)
      have hsh := HSH.out wr HKA.out
      have hf : ¬ (((n + 1 : Nat) : Int) < (n : Int) + 1) := by omega
      generalize us 0 = u0 at *
      have k3 : ¬ u0 < 0 := by omega
      have e3 : decide (u0 < 0) = false := decide_eq_false k3
      have g1 : ((n : Int) + 1 != (n : Int) + 1) = false := by simp
      have g2 : ((be : Int) - (fr : Int) != (be : Int) - (fr : Int)) = false := by simp
      have HC0 := hid (fun w' (k : Kept No wr w') => k.cell c0 (fun h => h))
      clear c0 hs0 hlt hi hu0
      generalize wr = wo at *
      go_upto_region 24 with (first
        | (go_at_call 6; refine hsh.mono ?_; rintro e w3 ⟨gs, D, rfl, _, q2, q3, q4, q5⟩; have H3 := hid (And.intro q2 (And.intro q3 (And.intro q4 q5))); have huh := HUH.out w3 (HKA.out.trans q5 (fun _ h => h.elim)); clear hsh q2 q3 q4 q5)
        | (go_at_call 5; refine huh.mono ?_; rintro e w4 ⟨gc, rfl, _, q2, q3⟩; have H4 := hid (And.intro q2 q3); have c5 := HC0.out w4 (H3.out.2.2.2.trans q3 (fun _ h => h.elim)); clear huh q2 q3))
      clear c5 k3 e3 g1 g2 hf
      have HKB : Hid (Kept No w w4) := (HKA.out.trans H3.out.2.2.2 (fun _ h => h.elim)).trans H4.out.2 (fun _ h => h.elim)
      have HSC : Hid (Cw w4 gs (n + 1) (fun i => loS cy H i + incN D L i)) := H3.out.1.keep H4.out.2
      have HSB : Hid (∀ i, i < n + 1 → 0 ≤ loS cy H i ∧ loS cy H i ≤ 1000000 ∧ ((incN D L i = 0) ∨ (incN D L i = 1 ∧ 0 < (cy i * 1000000) % (H : Int)))) := fun i hi => by
        have hb := HB.out
        have hcb := HCB.out.1 i hi
        refine ⟨(loS_bd (f := cy) (H := (H : Int)) (by omega) (by omega)).1, loS_le (by omega) hcb, ?_⟩
        rcases inc_one H3.out.2.1 L i (by have := HLL.out.2; omega) with ⟨q1, _⟩ | ⟨q1, s, q2, q3⟩
        · exact .inl (by rw [incM_eq]; exact q1)
        · refine .inr ⟨by rw [incM_eq]; exact q1, ?_⟩
          rw [q3]
          exact left_pos (n := n + 1) (by omega) HCB.out.2 HLL.out.1 H3.out.2.1 H3.out.2.2.1 q2 (by have := HLL.out.2; omega)
      have HST : Hid (sm (fun i => loS cy H i + incN D L i) (n + 1) = 1000000) := by
        show sm _ _ = _
        have e1 : sm (incN D L) (n + 1) = (L : Int) := by
          rw [sm_congr (n + 1) (fun i _ => incM_eq D L i)]
          exact inc_sum H3.out.2.1 L (by have := HLL.out.2; omega)
        have e2 := HLL.out.1
        have e3 : sm (loS cy H) (n + 1) = sm (fun i => cy i * 1000000 / (H : Int)) (n + 1) := rfl
        rw [sm_add (loS cy H) (incN D L), e1, e3]
        omega
      generalize w4 = w5 at *
      go_wp2
      go_loopw [23, 24] (fun x y wr => ∃ i : Nat, y = .int .i64 i ∧ x = .int .i64 (sm (fun i => loS cy H i + incN D L i) i) ∧ i ≤ n + 1 ∧ wr = w5) (fun _ y _ => n + 1 - (intOf y).toNat)
      case atStart => exact ⟨0, rfl, rfl, Nat.zero_le _, rfl⟩
      case round =>
        obtain ⟨i, rfl, rfl, hi, hw⟩ := hrel
        obtain rfl := hw.symm
        clear hw
        by_cases hlt : i < n + 1
        · have hin : (i : Int) < (n : Int) + 1 := by omega
          have c0 := HSC.out.at' i hlt
          have c1 := H4.out.1.at' i hlt
          have HII := hid hlt
          have HS1 : Hid (sm (fun i => loS cy H i + incN D L i) (i + 1) = sm (fun i => loS cy H i + incN D L i) i + (loS cy H i + incN D L i)) := rfl
          have hsb := HSB.out i hlt
          have hcb := HCB.out.1 i hlt
          have hb := HB.out
          have hb1 : 0 ≤ sm (fun i => loS cy H i + incN D L i) i := sm_nonneg i (fun j hj => by have := HSB.out j (by omega); omega)
          have hb2 : sm (fun i => loS cy H i + incN D L i) i ≤ 1000000 := by
            have := sm_part (f := fun i => loS cy H i + incN D L i) (n := n + 1) (fun j hj => by have := HSB.out j (by omega); omega) (n + 1 - i) i (by omega)
            rw [HST.out] at this
            exact this
          have hlo : Int.tdiv (cy i * 1000000) (H : Int) = loS cy H i := Int.tdiv_eq_ediv_of_nonneg (by omega)
          have hrm : Int.tmod (cy i * 1000000) (H : Int) = (cy i * 1000000) % (H : Int) := Int.tmod_eq_emod_of_nonneg (by omega)
          have hH5 : ¬ (H : Int) = 0 := by omega
          generalize sm (fun i => loS cy H i + incN D L i) i = s at *
          generalize (cy i * 1000000) % (H : Int) = r at *
          generalize loS cy H i = lo at *
          generalize incN D L i = ic at *
          generalize cy i = v at *
          obtain ⟨b1, b2, b3⟩ := hsb
          have hv0 : 0 ≤ v := hcb.1
          have hv1 : v ≤ 1048576 := by omega
          clear hcb hb hlt hi
          rcases b3 with rfl | ⟨rfl, hr⟩
          · have k1 : ¬ (lo + 0 < lo) := by omega
            have k2 : ¬ (lo + 1 < lo + 0) := by omega
            have k3 : (lo + 0 == lo + 1) = false := by simp; omega
            rw [Int.add_zero] at c0 k1 k2 k3 HS1
            have e1 : decide (lo < lo) = false := decide_eq_false k1
            have e2 : decide (lo + 1 < lo) = false := decide_eq_false k2
            go_wp2
            go_roundw
            case rel => exact ⟨i + 1, by go_num, by rw [HS1.out], by have := HII.out; omega, trivial⟩
            case measure => have := HII.out; simp [intOf]; omega
          · have k1 : ¬ (lo + 1 < lo) := by omega
            have k2 : ¬ (lo + 1 < lo + 1) := by omega
            have k3 : (lo + 1 == lo + 1) = true := by simp
            have k4 : (r == 0) = false := by simp; omega
            have e1 : decide (lo + 1 < lo) = false := decide_eq_false k1
            have e2 : decide (lo + 1 < lo + 1) = false := decide_eq_false k2
            go_wp2
            go_roundw
            case rel => exact ⟨i + 1, by go_num, by rw [HS1.out], by have := HII.out; omega, trivial⟩
            case measure => have := HII.out; simp [intOf]; omega
        · have e : i = n + 1 := by omega
          subst e
          rw [HST.out]
          have hwk := HW.out w5 HKB.out
          have hf : ¬ (((n + 1 : Nat) : Int) < (n : Int) + 1) := by omega
          clear hlt hi
          go_wp2_with (go_at_call 7; refine hwk.mono ?_; rintro e w6 ⟨rfl, hk6⟩; have HK6 : Hid (Kept No w w6) := HKB.out.trans hk6 (fun _ h => h.elim); clear hk6 hwk)
          go_ret
          exact ⟨rfl, HK6.out⟩
end Go.Proofs.YtgpaaoflhffcbaaGreatDoor
