/-
  slices.swapRangeCmpFunc, rotateCmpFunc.
-/
import Derived.Test.YthdmbikmjimmkaaGreatDoorZIns
import Derived.BigRegion
namespace Go.Proofs.YthdmbikmjimmkaaGreatDoor
open Go.RowKit Go.Shelf Plain
set_option linter.unusedVariables false
set_option linter.unusedSimpArgs false
set_option maxRecDepth 100000

/-- two stretches of m exchanged -/
def swR (D : Nat → Nat) (a b m : Nat) : Nat → Nat := fun t => if a ≤ t ∧ t < a + m then D (b + (t - a)) else if b ≤ t ∧ t < b + m then D (a + (t - b)) else D t
theorem swR_zero (D : Nat → Nat) (a b : Nat) : swR D a b 0 = D := by
  funext t; unfold swR; rw [if_neg (by omega), if_neg (by omega)]
theorem swR_succ (D : Nat → Nat) {a b i : Nat} (h : a + i < b) : swD (swR D a b i) (a + i) (b + i) = swR D a b (i + 1) := by
  funext t
  have e1 : swR D a b i (b + i) = D (b + i) := by unfold swR; rw [if_neg (by omega), if_neg (by omega)]
  have e2 : swR D a b i (a + i) = D (a + i) := by unfold swR; rw [if_neg (by omega), if_neg (by omega)]
  unfold swD
  rw [e1, e2]
  by_cases h1 : t = a + i
  · subst h1; rw [if_pos rfl]; unfold swR; rw [if_pos (by omega), show b + (a + i - a) = b + i by omega]
  · rw [if_neg h1]
    by_cases h2 : t = b + i
    · subst h2; rw [if_pos rfl]; unfold swR; rw [if_neg (by omega), if_pos (by omega), show a + (b + i - b) = a + i by omega]
    · rw [if_neg h2]
      unfold swR
      by_cases h3 : a ≤ t ∧ t < a + i
      · rw [if_pos h3, if_pos (by omega)]
      · rw [if_neg h3, if_neg (show ¬ (a ≤ t ∧ t < a + (i + 1)) by omega)]
        by_cases h4 : b ≤ t ∧ t < b + i
        · rw [if_pos h4, if_pos (show b ≤ t ∧ t < b + (i + 1) by omega)]
        · rw [if_neg h4, if_neg (show ¬ (b ≤ t ∧ t < b + (i + 1)) by omega)]
theorem swR_pm (D : Nat → Nat) (a b : Nat) : ∀ m, a + m ≤ b → Pm a (b + m) D (swR D a b m)
  | 0, _ => by rw [swR_zero]; exact Pm.refl _ _ _
  | m + 1, h => by
    rw [← swR_succ D (show a + m < b by omega)]
    exact ((swR_pm D a b m (by omega)).wide (Nat.le_refl _) (by omega)).trans (Pm.swap (by omega) (by omega) (by omega) (by omega))

set_option maxHeartbeats 8000000 in
theorem swr_any {w0 : World} {g n a b m : Nat} {v : Value} {D : Nat → Nat} (hab : a + m ≤ b) (hb : b + m ≤ n) (hn : n ≤ 1000) (hR : Rp w0 g n D) :
    Calls Tryz.prog 103 #[.slice (some ⟨g, 0, none⟩) n n, .int .i64 (a : Int), .int .i64 (b : Int), .int .i64 (m : Int), v] w0 fun e w' => e = .returned (.tuple #[]) ∧ Kept (fun k => k = g) w0 w' ∧ Rp w' g n (swR D a b m) := by
  have HR : Hid (Rp w0 g n D) := hR
  have HAB : Hid (a + m ≤ b ∧ b + m ≤ n ∧ n ≤ 1000) := ⟨hab, hb, hn⟩
  clear hR
  go_enter Tryz.func103, Tryz.ntmps103
  go_wp2
  go_loopw [10] (fun i wr => ∃ q : Nat, q ≤ m ∧ i = .int .i64 q ∧ Kept (fun k => k = g) w0 wr ∧ Rp wr g n (swR D a b q)) (fun i _ => m - (intOf i).toNat)
  case atStart => exact ⟨0, by omega, rfl, Kept.refl _ _, by rw [swR_zero]; exact HR.out⟩
  case round =>
    obtain ⟨q, hq, rfl, K, hr⟩ := hrel
    have HJ : Hid (Kept (fun k => k = g) w0 wr ∧ Rp wr g n (swR D a b q)) := ⟨K, hr⟩
    clear K hr
    by_cases hlt : q < m
    · have HS : Hid (swD (swR D a b q) (a + q) (b + q) = swR D a b (q + 1)) := swR_succ D (by omega)
      have c0 := HJ.out.2.at' (a + q) (by omega)
      have c1 := HJ.out.2.at' (b + q) (by omega)
      have hfz := HJ.out.2.fz
      generalize swR D a b q = D1 at *
      have i0 : (a : Int) + (q : Int) = ((a + q : Nat) : Int) := by omega
      have i1 : (b : Int) + (q : Int) = ((b + q : Nat) : Int) := by omega
      have ha : a + q < n := by omega
      have hb' : b + q < n := by omega
      have HW : Hid (a + q < n ∧ b + q < n ∧ n ≤ 1000) := ⟨ha, hb', hn⟩
      have hlt2 : (q : Int) < (m : Int) := by omega
      clear hab hb
      obtain ⟨x, hx⟩ : ∃ x, x = a + q := ⟨_, rfl⟩
      obtain ⟨y, hy⟩ : ∃ y, y = b + q := ⟨_, rfl⟩
      rw [← hx] at i0 ha c0 HS
      rw [← hy] at i1 hb' c1 HS
      have hxy : x ≠ y := by have := HAB.out; omega
      have hyx : y ≠ x := fun e => hxy e.symm
      clear hx hy
      have ha2 : (x : Int) < (n : Int) := by omega
      have hb2 : (y : Int) < (n : Int) := by omega
      go_upto_region 3 with fail
      go_region
      go_wp2
      go_roundw
      case rel =>
        refine ⟨q + 1, by omega, by go_num, ((HJ.out.1.trans kept_set (fun _ h => .inl h)).trans kept_set (fun _ h => .inl h)).drew, ?_⟩
        rw [← HS.out]
        exact Cw.keep (Rp.swap (i := x) (j := y) HJ.out.2) ((Kept.refl No _).drew)
      case measure => simp [intOf]; omega
    · have e : q = m := by omega
      subst e
      go_wp2
      go_end0
      exact ⟨rfl, HJ.out.1, HJ.out.2⟩
/-- two neighbours exchanged -/
def rotF (D : Nat → Nat) (a m b : Nat) : Nat → Nat := fun t => if a ≤ t ∧ t < a + (b - m) then D (t + (m - a)) else if a + (b - m) ≤ t ∧ t < b then D (t - (b - m)) else D t
theorem rot_gt (D : Nat → Nat) {p i j : Nat} (h : j < i) : rotF (swR D p (p + i) j) (p + j) (p + i) (p + i + j) = rotF D p (p + i) (p + i + j) := by
  funext t
  simp only [rotF, swR]
  repeat' split
  all_goals first | rfl | (exfalso; omega) | (congr 1; omega)
theorem rot_lt (D : Nat → Nat) {p i j : Nat} (h : i < j) : rotF (swR D p (p + j) i) p (p + i) (p + j) = rotF D p (p + i) (p + i + j) := by
  funext t
  simp only [rotF, swR]
  repeat' split
  all_goals first | rfl | (exfalso; omega) | (congr 1; omega)
theorem rot_eq (D : Nat → Nat) {p i : Nat} : swR D p (p + i) i = rotF D p (p + i) (p + i + i) := by
  funext t
  simp only [rotF, swR]
  repeat' split
  all_goals first | rfl | (exfalso; omega) | (congr 1; omega)

set_option maxHeartbeats 8000000 in
theorem rot_any {w0 : World} {g n a m b : Nat} {v : Value} {D : Nat → Nat} (ham : a < m) (hmb : m < b) (hb : b ≤ n) (hn : n ≤ 1000) (hR : Rp w0 g n D) :
    Calls Tryz.prog 91 #[.slice (some ⟨g, 0, none⟩) n n, .int .i64 (a : Int), .int .i64 (m : Int), .int .i64 (b : Int), v] w0 fun e w' => e = .returned (.tuple #[]) ∧ Kept (fun k => k = g) w0 w' ∧ Rp w' g n (rotF D a m b) ∧ Pm a b D (rotF D a m b) := by
  have HAB : Hid (a < m ∧ m < b ∧ b ≤ n ∧ n ≤ 1000) := ⟨ham, hmb, hb, hn⟩
  have HR : Hid (Rp w0 g n D) := hR
  obtain ⟨i0, hi0⟩ : ∃ i0 : Nat, i0 = m - a := ⟨_, rfl⟩
  obtain ⟨j0, hj0⟩ : ∃ j0 : Nat, j0 = b - m := ⟨_, rfl⟩
  have HIJ : Hid (i0 = m - a ∧ j0 = b - m) := ⟨hi0, hj0⟩
  have e1 : (m : Int) - (a : Int) = (i0 : Int) := by omega
  have e2 : (b : Int) - (m : Int) = (j0 : Int) := by omega
  clear hR hi0 hj0
  go_enter Tryz.func91, Tryz.ntmps91
  go_wp2
  clear e1 e2
  go_loopw [10, 11] (fun x y wr => ∃ (i j p : Nat) (D1 : Nat → Nat), x = .int .i64 i ∧ y = .int .i64 j ∧ m = p + i ∧ a ≤ p ∧ 1 ≤ i ∧ 1 ≤ j ∧ m + j ≤ b ∧ Kept (fun k => k = g) w0 wr ∧ Rp wr g n D1 ∧ Pm a b D D1 ∧ rotF D1 p m (m + j) = rotF D a m b) (fun x y _ => (intOf x).toNat + (intOf y).toNat)
  case atStart =>
    obtain ⟨h1, h2⟩ := HIJ.out
    exact ⟨i0, j0, a, D, rfl, rfl, by omega, Nat.le_refl _, by omega, by omega, by omega, Kept.refl _ _, HR.out, Pm.refl _ _ _, by rw [show m + j0 = b by omega]⟩
  case round =>
    obtain ⟨i, j, p, D1, rfl, rfl, hm, hp, hi, hj, hmj, K, hr, hpm, hrot⟩ := hrel
    have HJ : Hid (Kept (fun k => k = g) w0 wr ∧ Rp wr g n D1 ∧ Pm a b D D1 ∧ rotF D1 p m (m + j) = rotF D a m b) := ⟨K, hr, hpm, hrot⟩
    have HQ : Hid (m = p + i ∧ a ≤ p ∧ 1 ≤ i ∧ 1 ≤ j ∧ m + j ≤ b) := ⟨hm, hp, hi, hj, hmj⟩
    have e3 : (m : Int) - (i : Int) = (p : Int) := by omega
    clear K hr hpm hrot HIJ
    by_cases hij : i = j
    · subst hij
      have hc := swr_any (w0 := wr) (g := g) (n := n) (a := p) (b := m) (m := i) (v := v) (D := D1) (by omega) (by omega) hn HJ.out.2.1
      clear hm hp hi hj hmj
      go_wp2_with (go_at_call 103; refine hc.mono ?_; rintro e w2 ⟨rfl, k2, hr2⟩; have H2 : Hid (Kept (fun k => k = g) wr w2 ∧ Rp w2 g n (swR D1 p m i)) := ⟨k2, hr2⟩; clear hc k2 hr2)
      go_end0
      obtain ⟨q1, q2, q3, q4, q5⟩ := HQ.out
      have e4 : swR D1 p m i = rotF D a m b := by rw [← HJ.out.2.2.2, q1, rot_eq]
      have hP : Pm p (m + i) D1 (swR D1 p m i) := swR_pm D1 p m i (by omega)
      refine ⟨rfl, HJ.out.1.trans H2.out.1 (fun _ h => .inl h), ?_, ?_⟩
      · rw [← e4]; exact H2.out.2
      · rw [← e4]; exact HJ.out.2.2.1.trans (hP.wide q2 q5)
    · have hne : ¬ (i : Int) = (j : Int) := by omega
      have hne2 : ((i : Int) != (j : Int)) = true := by simpa using hne
      by_cases hgt : j < i
      · have hgt2 : (j : Int) < (i : Int) := by omega
        have hc := swr_any (w0 := wr) (g := g) (n := n) (a := p) (b := m) (m := j) (v := v) (D := D1) (by omega) (by omega) hn HJ.out.2.1
        obtain ⟨i1, hi1⟩ : ∃ i1, i = i1 + j := ⟨i - j, by omega⟩
        have e5 : (i : Int) - (j : Int) = (i1 : Int) := by omega
        have HI1 : Hid (i = i1 + j) := hi1
        clear hm hp hi hj hmj hi1 hij hgt
        go_wp2_with (go_at_call 103; refine hc.mono ?_; rintro e w2 ⟨rfl, k2, hr2⟩; have H2 : Hid (Kept (fun k => k = g) wr w2 ∧ Rp w2 g n (swR D1 p m j)) := ⟨k2, hr2⟩; clear hc k2 hr2)
        go_roundw
        case rel =>
          obtain ⟨q1, q2, q3, q4, q5⟩ := HQ.out
          have q6 := HI1.out
          have hP : Pm p (m + j) D1 (swR D1 p m j) := swR_pm D1 p m j (by omega)
          refine ⟨i1, j, p + j, swR D1 p m j, rfl, rfl, by omega, by omega, by omega, q4, q5, HJ.out.1.trans H2.out.1 (fun _ h => .inl h), H2.out.2, HJ.out.2.2.1.trans (hP.wide q2 q5), ?_⟩
          rw [← HJ.out.2.2.2, q1]
          exact rot_gt D1 (by omega)
        case measure => have := HI1.out; have := HQ.out; simp [intOf]; omega
      · have hgt2 : ¬ (j : Int) < (i : Int) := by omega
        obtain ⟨j1, hj1⟩ : ∃ j1, j = j1 + i := ⟨j - i, by omega⟩
        obtain ⟨z, hz⟩ : ∃ z : Nat, z = p + j := ⟨_, rfl⟩
        have hc := swr_any (w0 := wr) (g := g) (n := n) (a := p) (b := z) (m := i) (v := v) (D := D1) (by omega) (by omega) hn HJ.out.2.1
        have e5 : (j : Int) - (i : Int) = (j1 : Int) := by omega
        have e6 : (m : Int) + (j : Int) - (i : Int) = (z : Int) := by omega
        have HI1 : Hid (j = j1 + i ∧ z = p + j) := ⟨hj1, hz⟩
        have hmb2 : (m : Int) + (j : Int) ≤ 1000 := by omega
        clear hm hp hi hj hmj hj1 hz hij hgt
        go_wp2_with (go_at_call 103; refine hc.mono ?_; rintro e w2 ⟨rfl, k2, hr2⟩; have H2 : Hid (Kept (fun k => k = g) wr w2 ∧ Rp w2 g n (swR D1 p z i)) := ⟨k2, hr2⟩; clear hc k2 hr2)
        go_roundw
        case rel =>
          obtain ⟨q1, q2, q3, q4, q5⟩ := HQ.out
          obtain ⟨q6, q7⟩ := HI1.out
          have hP : Pm p (z + i) D1 (swR D1 p z i) := swR_pm D1 p z i (by omega)
          refine ⟨i, j1, p, swR D1 p z i, rfl, rfl, q1, q2, q3, by omega, by omega, HJ.out.1.trans H2.out.1 (fun _ h => .inl h), H2.out.2, HJ.out.2.2.1.trans (hP.wide q2 (by omega)), ?_⟩
          rw [← HJ.out.2.2.2, q7, q1, show p + i + j1 = p + j by omega]
          exact rot_lt D1 (by omega)
        case measure => have := HI1.out; have := HQ.out; simp [intOf]; omega
end Go.Proofs.YthdmbikmjimmkaaGreatDoor
