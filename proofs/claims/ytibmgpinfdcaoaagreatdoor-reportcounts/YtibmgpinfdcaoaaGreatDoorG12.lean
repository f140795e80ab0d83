/-
  One text: ZRot, ZSyP.
-/
import Derived.Test.YtibmgpinfdcaoaaGreatDoorHZIns
import Derived.BigRegion
namespace Go.Proofs.YtibmgpinfdcaoaaGreatDoor
open Go.RowKit Go.Shelf Plain
set_option linter.unusedVariables false
set_option linter.unusedSimpArgs false
set_option maxRecDepth 100000

/-- two stretches of m exchanged -/
def swR (D : Nat → Nat) (a b m : Nat) : Nat → Nat := fun t => if a ≤ t ∧ t < a + m then D (b + (t - a)) else if b ≤ t ∧ t < b + m then D (a + (t - b)) else D t
theorem swR_zero (D : Nat → Nat) (a b : Nat) : swR D a b 0 = D := by
  funext t; unfold swR; rw [if_neg (by omega), if_neg (by omega)]
theorem swR_succ (D : Nat → Nat) {a b i : Nat} (h : a + i < b) : swD (swR D a b i) (a + i) (b + i) = swR D a b (i + 1) := by
  funext t
  have e1 : swR D a b i (b + i) = D (b + i) := by unfold swR; rw [if_neg (by omega), if_neg (by omega)]
  have e2 : swR D a b i (a + i) = D (a + i) := by unfold swR; rw [if_neg (by omega), if_neg (by omega)]
  unfold swD
  rw [e1, e2]
  by_cases h1 : t = a + i
  · subst h1; rw [if_pos rfl]; unfold swR; rw [if_pos (by omega), show b + (a + i - a) = b + i by omega]
  · rw [if_neg h1]
    by_cases h2 : t = b + i
    · subst h2; rw [if_pos rfl]; unfold swR; rw [if_neg (by omega), if_pos (by omega), show a + (b + i - b) = a + i by omega]
    · rw [if_neg h2]
      unfold swR
      by_cases h3 : a ≤ t ∧ t < a + i
      · rw [if_pos h3, if_pos (by omega)]
      · rw [if_neg h3, if_neg (show ¬ (a ≤ t ∧ t < a + (i + 1)) by omega)]
        by_cases h4 : b ≤ t ∧ t < b + i
        · rw [if_pos h4, if_pos (show b ≤ t ∧ t < b + (i + 1) by omega)]
        · rw [if_neg h4, if_neg (show ¬ (b ≤ t ∧ t < b + (i + 1)) by omega)]
theorem swR_pm (D : Nat → Nat) (a b : Nat) : ∀ m, a + m ≤ b → Pm a (b + m) D (swR D a b m)
  | 0, _ => by rw [swR_zero]; exact Pm.refl _ _ _
  | m + 1, h => by
    rw [← swR_succ D (show a + m < b by omega)]
    exact ((swR_pm D a b m (by omega)).wide (Nat.le_refl _) (by omega)).trans (Pm.swap (by omega) (by omega) (by omega) (by omega))

set_option maxHeartbeats 8000000 in
theorem swr_any {w0 : World} {g n a b m : Nat} {v : Value} {D : Nat → Nat} (hab : a + m ≤ b) (hb : b + m ≤ n) (hn : n ≤ 1000) (hR : Rp w0 g n D) :
    Calls Tryz.prog 101 #[.slice (some ⟨g, 0, none⟩) n n, .int .i64 (a : Int), .int .i64 (b : Int), .int .i64 (m : Int), v] w0 fun e w' => e = .returned (.tuple #[]) ∧ Kept (fun k => k = g) w0 w' ∧ Rp w' g n (swR D a b m) := by
  have HR : Hid (Rp w0 g n D) := hR
  have HAB : Hid (a + m ≤ b ∧ b + m ≤ n ∧ n ≤ 1000) := ⟨hab, hb, hn⟩
  clear hR
  go_enter Tryz.func101, Tryz.ntmps101
  go_wp2
  go_loopw [10] (fun i wr => ∃ q : Nat, q ≤ m ∧ i = .int .i64 q ∧ Kept (fun k => k = g) w0 wr ∧ Rp wr g n (swR D a b q)) (fun i _ => m - (intOf i).toNat)
  case atStart => exact ⟨0, by omega, rfl, Kept.refl _ _, by rw [swR_zero]; exact HR.out⟩
  case round =>
    obtain ⟨q, hq, rfl, K, hr⟩ := hrel
    have HJ : Hid (Kept (fun k => k = g) w0 wr ∧ Rp wr g n (swR D a b q)) := ⟨K, hr⟩
    clear K hr
    by_cases hlt : q < m
    · have HS : Hid (swD (swR D a b q) (a + q) (b + q) = swR D a b (q + 1)) := swR_succ D (by omega)
      have c0 := HJ.out.2.at' (a + q) (by omega)
      have c1 := HJ.out.2.at' (b + q) (by omega)
      have hfz := HJ.out.2.fz
      generalize swR D a b q = D1 at *
      have i0 : (a : Int) + (q : Int) = ((a + q : Nat) : Int) := by omega
      have i1 : (b : Int) + (q : Int) = ((b + q : Nat) : Int) := by omega
      have ha : a + q < n := by omega
      have hb' : b + q < n := by omega
      have HW : Hid (a + q < n ∧ b + q < n ∧ n ≤ 1000) := ⟨ha, hb', hn⟩
      have hlt2 : (q : Int) < (m : Int) := by omega
      clear hab hb
      obtain ⟨x, hx⟩ : ∃ x, x = a + q := ⟨_, rfl⟩
      obtain ⟨y, hy⟩ : ∃ y, y = b + q := ⟨_, rfl⟩
      rw [← hx] at i0 ha c0 HS
      rw [← hy] at i1 hb' c1 HS
      have hxy : x ≠ y := by have := HAB.out; omega
      have hyx : y ≠ x := fun e => hxy e.symm
      clear hx hy
      have ha2 : (x : Int) < (n : Int) := by omega
      have hb2 : (y : Int) < (n : Int) := by omega
      go_upto_region 3 with fail
      go_region
      go_wp2
      go_roundw
      case rel =>
        refine ⟨q + 1, by omega, by go_num, ((HJ.out.1.trans kept_set (fun _ h => .inl h)).trans kept_set (fun _ h => .inl h)).drew, ?_⟩
        rw [← HS.out]
        exact Cw.keep (Rp.swap (i := x) (j := y) HJ.out.2) ((Kept.refl No _).drew)
      case measure => simp [intOf]; omega
    · have e : q = m := by omega
      subst e
      go_wp2
      go_end0
      exact ⟨rfl, HJ.out.1, HJ.out.2⟩
/-- two neighbours exchanged -/
def rotF (D : Nat → Nat) (a m b : Nat) : Nat → Nat := fun t => if a ≤ t ∧ t < a + (b - m) then D (t + (m - a)) else if a + (b - m) ≤ t ∧ t < b then D (t - (b - m)) else D t
theorem rot_gt (D : Nat → Nat) {p i j : Nat} (h : j < i) : rotF (swR D p (p + i) j) (p + j) (p + i) (p + i + j) = rotF D p (p + i) (p + i + j) := by
  funext t
  simp only [rotF, swR]
  repeat' split
  all_goals first | rfl | (exfalso; omega) | (congr 1; omega)
theorem rot_lt (D : Nat → Nat) {p i j : Nat} (h : i < j) : rotF (swR D p (p + j) i) p (p + i) (p + j) = rotF D p (p + i) (p + i + j) := by
  funext t
  simp only [rotF, swR]
  repeat' split
  all_goals first | rfl | (exfalso; omega) | (congr 1; omega)
theorem rot_eq (D : Nat → Nat) {p i : Nat} : swR D p (p + i) i = rotF D p (p + i) (p + i + i) := by
  funext t
  simp only [rotF, swR]
  repeat' split
  all_goals first | rfl | (exfalso; omega) | (congr 1; omega)

set_option maxHeartbeats 8000000 in
theorem rot_any {w0 : World} {g n a m b : Nat} {v : Value} {D : Nat → Nat} (ham : a < m) (hmb : m < b) (hb : b ≤ n) (hn : n ≤ 1000) (hR : Rp w0 g n D) :
    Calls Tryz.prog 95 #[.slice (some ⟨g, 0, none⟩) n n, .int .i64 (a : Int), .int .i64 (m : Int), .int .i64 (b : Int), v] w0 fun e w' => e = .returned (.tuple #[]) ∧ Kept (fun k => k = g) w0 w' ∧ Rp w' g n (rotF D a m b) ∧ Pm a b D (rotF D a m b) := by
  have HAB : Hid (a < m ∧ m < b ∧ b ≤ n ∧ n ≤ 1000) := ⟨ham, hmb, hb, hn⟩
  have HR : Hid (Rp w0 g n D) := hR
  obtain ⟨i0, hi0⟩ : ∃ i0 : Nat, i0 = m - a := ⟨_, rfl⟩
  obtain ⟨j0, hj0⟩ : ∃ j0 : Nat, j0 = b - m := ⟨_, rfl⟩
  have HIJ : Hid (i0 = m - a ∧ j0 = b - m) := ⟨hi0, hj0⟩
  have e1 : (m : Int) - (a : Int) = (i0 : Int) := by omega
  have e2 : (b : Int) - (m : Int) = (j0 : Int) := by omega
  clear hR hi0 hj0
  go_enter Tryz.func95, Tryz.ntmps95
  go_wp2
  clear e1 e2
  go_loopw [10, 11] (fun x y wr => ∃ (i j p : Nat) (D1 : Nat → Nat), x = .int .i64 i ∧ y = .int .i64 j ∧ m = p + i ∧ a ≤ p ∧ 1 ≤ i ∧ 1 ≤ j ∧ m + j ≤ b ∧ Kept (fun k => k = g) w0 wr ∧ Rp wr g n D1 ∧ Pm a b D D1 ∧ rotF D1 p m (m + j) = rotF D a m b) (fun x y _ => (intOf x).toNat + (intOf y).toNat)
  case atStart =>
    obtain ⟨h1, h2⟩ := HIJ.out
    exact ⟨i0, j0, a, D, rfl, rfl, by omega, Nat.le_refl _, by omega, by omega, by omega, Kept.refl _ _, HR.out, Pm.refl _ _ _, by rw [show m + j0 = b by omega]⟩
  case round =>
    obtain ⟨i, j, p, D1, rfl, rfl, hm, hp, hi, hj, hmj, K, hr, hpm, hrot⟩ := hrel
    have HJ : Hid (Kept (fun k => k = g) w0 wr ∧ Rp wr g n D1 ∧ Pm a b D D1 ∧ rotF D1 p m (m + j) = rotF D a m b) := ⟨K, hr, hpm, hrot⟩
    have HQ : Hid (m = p + i ∧ a ≤ p ∧ 1 ≤ i ∧ 1 ≤ j ∧ m + j ≤ b) := ⟨hm, hp, hi, hj, hmj⟩
    have e3 : (m : Int) - (i : Int) = (p : Int) := by omega
    clear K hr hpm hrot HIJ
    by_cases hij : i = j
    · subst hij
      have hc := swr_any (w0 := wr) (g := g) (n := n) (a := p) (b := m) (m := i) (v := v) (D := D1) (by omega) (by omega) hn HJ.out.2.1
      clear hm hp hi hj hmj
      go_wp2_with (go_at_call 101; refine hc.mono ?_; rintro e w2 ⟨rfl, k2, hr2⟩; have H2 : Hid (Kept (fun k => k = g) wr w2 ∧ Rp w2 g n (swR D1 p m i)) := ⟨k2, hr2⟩; clear hc k2 hr2)
      go_end0
      obtain ⟨q1, q2, q3, q4, q5⟩ := HQ.out
      have e4 : swR D1 p m i = rotF D a m b := by rw [← HJ.out.2.2.2, q1, rot_eq]
      have hP : Pm p (m + i) D1 (swR D1 p m i) := swR_pm D1 p m i (by omega)
      refine ⟨rfl, HJ.out.1.trans H2.out.1 (fun _ h => .inl h), ?_, ?_⟩
      · rw [← e4]; exact H2.out.2
      · rw [← e4]; exact HJ.out.2.2.1.trans (hP.wide q2 q5)
    · have hne : ¬ (i : Int) = (j : Int) := by omega
      have hne2 : ((i : Int) != (j : Int)) = true := by simpa using hne
      by_cases hgt : j < i
      · have hgt2 : (j : Int) < (i : Int) := by omega
        have hc := swr_any (w0 := wr) (g := g) (n := n) (a := p) (b := m) (m := j) (v := v) (D := D1) (by omega) (by omega) hn HJ.out.2.1
        obtain ⟨i1, hi1⟩ : ∃ i1, i = i1 + j := ⟨i - j, by omega⟩
        have e5 : (i : Int) - (j : Int) = (i1 : Int) := by omega
        have HI1 : Hid (i = i1 + j) := hi1
        clear hm hp hi hj hmj hi1 hij hgt
        go_wp2_with (go_at_call 101; refine hc.mono ?_; rintro e w2 ⟨rfl, k2, hr2⟩; have H2 : Hid (Kept (fun k => k = g) wr w2 ∧ Rp w2 g n (swR D1 p m j)) := ⟨k2, hr2⟩; clear hc k2 hr2)
        go_roundw
        case rel =>
          obtain ⟨q1, q2, q3, q4, q5⟩ := HQ.out
          have q6 := HI1.out
          have hP : Pm p (m + j) D1 (swR D1 p m j) := swR_pm D1 p m j (by omega)
          refine ⟨i1, j, p + j, swR D1 p m j, rfl, rfl, by omega, by omega, by omega, q4, q5, HJ.out.1.trans H2.out.1 (fun _ h => .inl h), H2.out.2, HJ.out.2.2.1.trans (hP.wide q2 q5), ?_⟩
          rw [← HJ.out.2.2.2, q1]
          exact rot_gt D1 (by omega)
        case measure => have := HI1.out; have := HQ.out; simp [intOf]; omega
      · have hgt2 : ¬ (j : Int) < (i : Int) := by omega
        obtain ⟨j1, hj1⟩ : ∃ j1, j = j1 + i := ⟨j - i, by omega⟩
        obtain ⟨z, hz⟩ : ∃ z : Nat, z = p + j := ⟨_, rfl⟩
        have hc := swr_any (w0 := wr) (g := g) (n := n) (a := p) (b := z) (m := i) (v := v) (D := D1) (by omega) (by omega) hn HJ.out.2.1
        have e5 : (j : Int) - (i : Int) = (j1 : Int) := by omega
        have e6 : (m : Int) + (j : Int) - (i : Int) = (z : Int) := by omega
        have HI1 : Hid (j = j1 + i ∧ z = p + j) := ⟨hj1, hz⟩
        have hmb2 : (m : Int) + (j : Int) ≤ 1000 := by omega
        clear hm hp hi hj hmj hj1 hz hij hgt
        go_wp2_with (go_at_call 101; refine hc.mono ?_; rintro e w2 ⟨rfl, k2, hr2⟩; have H2 : Hid (Kept (fun k => k = g) wr w2 ∧ Rp w2 g n (swR D1 p z i)) := ⟨k2, hr2⟩; clear hc k2 hr2)
        go_roundw
        case rel =>
          obtain ⟨q1, q2, q3, q4, q5⟩ := HQ.out
          obtain ⟨q6, q7⟩ := HI1.out
          have hP : Pm p (z + i) D1 (swR D1 p z i) := swR_pm D1 p z i (by omega)
          refine ⟨i, j1, p, swR D1 p z i, rfl, rfl, q1, q2, q3, by omega, by omega, HJ.out.1.trans H2.out.1 (fun _ h => .inl h), H2.out.2, HJ.out.2.2.1.trans (hP.wide q2 (by omega)), ?_⟩
          rw [← HJ.out.2.2.2, q7, q1, show p + i + j1 = p + j by omega]
          exact rot_lt D1 (by omega)
        case measure => have := HI1.out; have := HQ.out; simp [intOf]; omega
end Go.Proofs.YtibmgpinfdcaoaaGreatDoor

namespace Go.Proofs.YtibmgpinfdcaoaaGreatDoor
set_option linter.unusedVariables false

/-- the one at a set behind those up to k -/
def mvU (D : Nat → Nat) (a k : Nat) : Nat → Nat := fun t => if a ≤ t ∧ t < k then D (t + 1) else if t = k then D a else D t
theorem mvU_start (D : Nat → Nat) (a : Nat) : mvU D a a = D := by
  funext t; unfold mvU; rw [if_neg (by omega)]; split
  · rename_i h; rw [h]
  · rfl
theorem mvU_step (D : Nat → Nat) {a k : Nat} (h : a ≤ k) : swD (mvU D a k) k (k + 1) = mvU D a (k + 1) := by
  funext t
  simp only [swD, mvU]
  repeat' split
  all_goals first | rfl | (exfalso; omega) | (exfalso; simp at *; done) | (exact absurd trivial (by assumption)) | (congr 1; omega)
theorem mvU_pm (D : Nat → Nat) (a b : Nat) : ∀ q, a + q < b → Pm a b D (mvU D a (a + q))
  | 0, _ => by rw [Nat.add_zero, mvU_start]; exact Pm.refl _ _ _
  | q + 1, h => by
    have := mvU_step D (a := a) (k := a + q) (by omega)
    rw [show a + (q + 1) = a + q + 1 by omega, ← this]
    exact (mvU_pm D a b q (by omega)).trans (Pm.swap (by omega) (by omega) (by omega) (by omega))
theorem mvU_so {K : Nat → Int} {D : Nat → Nat} {a b i : Nat} (h2 : So K (a + 1) b D) (hi1 : a + 1 ≤ i) (hi2 : i ≤ b) (hl : ∀ t, a + 1 ≤ t → t < b → D a < D t) (hb : ∀ h, a + 1 ≤ h → h < i → K (D a) < K (D h)) (ha : ∀ h, i ≤ h → h < b → ¬ K (D a) < K (D h)) : So K a b (mvU D a (i - 1)) := by
  intro s t s1 st t1
  have e1 : ∀ x, a ≤ x → x < i - 1 → mvU D a (i - 1) x = D (x + 1) := fun x x1 x2 => by unfold mvU; rw [if_pos ⟨x1, x2⟩]
  have e2 : mvU D a (i - 1) (i - 1) = D a := by unfold mvU; rw [if_neg (by omega), if_pos rfl]
  have e3 : ∀ x, i - 1 < x → mvU D a (i - 1) x = D x := fun x x1 => by unfold mvU; rw [if_neg (by omega), if_neg (by omega)]
  by_cases c1 : s < i - 1
  · rw [e1 s s1 c1]
    by_cases c2 : t < i - 1
    · rw [e1 t (by omega) c2]; exact h2 _ _ (by omega) (by omega) (by omega)
    · by_cases c3 : t = i - 1
      · rw [c3, e2]; exact .inl (hb _ (by omega) (by omega))
      · rw [e3 t (by omega)]; exact h2 _ _ (by omega) (by omega) (by omega)
  · by_cases c3 : s = i - 1
    · rw [c3, e2, e3 t (by omega)]
      have := ha t (by omega) t1
      have := hl t (by omega) t1
      unfold ltK; omega
    · rw [e3 s (by omega), e3 t (by omega)]; exact h2 _ _ (by omega) (by omega) (by omega)
/-- the one at m set ahead of those from k on -/
def mvD (D : Nat → Nat) (m k : Nat) : Nat → Nat := fun t => if t = k then D m else if k < t ∧ t ≤ m then D (t - 1) else D t
theorem mvD_start (D : Nat → Nat) (m : Nat) : mvD D m m = D := by
  funext t; unfold mvD; split
  · rename_i h; rw [h]
  · rw [if_neg (by omega)]
theorem mvD_step (D : Nat → Nat) {m k : Nat} (h : k + 1 ≤ m) : swD (mvD D m (k + 1)) (k + 1) k = mvD D m k := by
  funext t
  simp only [swD, mvD]
  repeat' split
  all_goals first | rfl | (exfalso; omega) | (exfalso; simp at *; done) | (exact absurd trivial (by assumption)) | (congr 1; omega)
theorem mvD_pm (D : Nat → Nat) (a m : Nat) : ∀ q, q ≤ m - a → a ≤ m → Pm a (m + 1) D (mvD D m (m - q))
  | 0, _, _ => by rw [Nat.sub_zero, mvD_start]; exact Pm.refl _ _ _
  | q + 1, h, ha => by
    have e : m - q = (m - (q + 1)) + 1 := by omega
    have h1 := mvD_pm D a m q (by omega) ha
    rw [e] at h1
    rw [← mvD_step D (m := m) (k := m - (q + 1)) (by omega)]
    exact h1.trans (Pm.swap (by omega) (by omega) (by omega) (by omega))
theorem mvD_so {K : Nat → Int} {D : Nat → Nat} {a m i : Nat} (h1 : So K a m D) (hi1 : a ≤ i) (hi2 : i ≤ m) (hl : ∀ t, a ≤ t → t < m → D t < D m) (hb : ∀ h, a ≤ h → h < i → ¬ K (D h) < K (D m)) (ha : ∀ h, i ≤ h → h < m → K (D h) < K (D m)) : So K a (m + 1) (mvD D m i) := by
  intro s t s1 st t1
  have e1 : ∀ x, x < i → mvD D m i x = D x := fun x x1 => by unfold mvD; rw [if_neg (by omega), if_neg (by omega)]
  have e2 : mvD D m i i = D m := by unfold mvD; rw [if_pos rfl]
  have e3 : ∀ x, i < x → x ≤ m → mvD D m i x = D (x - 1) := fun x x1 x2 => by unfold mvD; rw [if_neg (by omega), if_pos ⟨x1, x2⟩]
  by_cases c1 : s < i
  · rw [e1 s c1]
    by_cases c2 : t < i
    · rw [e1 t c2]; exact h1 _ _ (by omega) (by omega) (by omega)
    · by_cases c3 : t = i
      · rw [c3, e2]
        have := hb s s1 c1
        have := hl s s1 (by omega)
        unfold ltK; omega
      · rw [e3 t (by omega) (by omega)]; exact h1 _ _ (by omega) (by omega) (by omega)
  · by_cases c3 : s = i
    · rw [c3, e2, e3 t (by omega) (by omega)]
      exact .inl (ha _ (by omega) (by omega))
    · rw [e3 s (by omega) (by omega), e3 t (by omega) (by omega)]; exact h1 _ _ (by omega) (by omega) (by omega)
theorem So.le {K : Nat → Int} {a b : Nat} {D : Nat → Nat} (h : So K a b D) {s t : Nat} (s1 : a ≤ s) (st : s ≤ t) (t1 : t < b) : K (D t) ≤ K (D s) := by
  by_cases e : s = t
  · rw [e]; exact Int.le_refl _
  · have := h s t s1 (by omega) t1
    unfold ltK at this; omega
/-- where the search ends -/
structure Mid (K : Nat → Int) (a m b mid st en : Nat) (D : Nat → Nat) : Prop where
  h1 : a ≤ st
  h2 : st ≤ m
  h3 : m ≤ en
  h4 : en ≤ b
  h5 : st + en = mid + m
  h6 : st ≤ mid
  f1 : ∀ s t, a ≤ s → s < st → en ≤ t → t < b → K (D t) ≤ K (D s)
  f2 : ∀ r l, m ≤ r → r < en → st ≤ l → l < m → K (D l) < K (D r)
/-- the search's own range -/
structure Rng (a m b mid lo hi : Nat) : Prop where
  r : (m > mid ∧ lo + b = mid + m ∧ hi = mid) ∨ (m ≤ mid ∧ lo = a ∧ hi = m)
theorem mid_of {K : Nat → Int} {a m b mid lo hi st : Nat} {D : Nat → Nat} (hs1 : So K a m D) (hs2 : So K m b D) (ham : a < m) (hmb : m < b) (hmid : mid = (a + b) / 2) (hr : Rng a m b mid lo hi) (h1 : lo ≤ st) (h2 : st ≤ hi)
    (b1 : ∀ c, lo ≤ c → c < st → ¬ K (D c) < K (D (mid + m - 1 - c))) (b2 : ∀ c, st ≤ c → c < hi → K (D c) < K (D (mid + m - 1 - c))) : Mid K a m b mid st (mid + m - st) D := by
  have hr := hr.r
  refine ⟨by omega, by omega, by omega, by omega, by omega, by omega, fun s t s1 s2 t1 t2 => ?_, fun r l r1 r2 l1 l2 => ?_⟩
  · have hb := b1 (st - 1) (by omega) (by omega)
    have e1 := hs1.le (s := s) (t := st - 1) s1 (by omega) (by omega)
    have e2 := hs2.le (s := mid + m - 1 - (st - 1)) (t := t) (by omega) (by omega) t2
    omega
  · have hb := b2 st (Nat.le_refl _) (by omega)
    have e1 := hs1.le (s := st) (t := l) (by omega) l1 l2
    have e2 := hs2.le (s := r) (t := mid + m - 1 - st) r1 (by omega) (by omega)
    omega
theorem rot_none1 (D : Nat → Nat) {m b : Nat} (h : m ≤ b) : rotF D m m b = D := by
  funext t; simp only [rotF]
  repeat' split
  all_goals first | rfl | (exfalso; omega) | (exfalso; simp at *; done) | (exact absurd trivial (by assumption)) | (congr 1; omega)
theorem rot_none2 (D : Nat → Nat) {a m : Nat} (h : a ≤ m) : rotF D a m m = D := by
  funext t; simp only [rotF]
  repeat' split
  all_goals first | rfl | (exfalso; omega) | (exfalso; simp at *; done) | (exact absurd trivial (by assumption)) | (congr 1; omega)
section
variable {K : Nat → Int} {a m b mid st en : Nat} {D : Nat → Nat}
theorem Mid.e1 (h : Mid K a m b mid st en D) {t : Nat} (t2 : t < st) : rotF D st m en t = D t := by
  have := h.h1; have := h.h2; have := h.h3; have := h.h4; have := h.h5; have := h.h6
  unfold rotF; rw [if_neg (by omega), if_neg (by omega)]
theorem Mid.e2 (h : Mid K a m b mid st en D) {t : Nat} (t1 : st ≤ t) (t2 : t < mid) : rotF D st m en t = D (t + (m - st)) := by
  have := h.h1; have := h.h2; have := h.h3; have := h.h4; have := h.h5; have := h.h6
  unfold rotF; rw [if_pos (by omega)]
theorem Mid.e3 (h : Mid K a m b mid st en D) {t : Nat} (t1 : mid ≤ t) (t2 : t < en) : rotF D st m en t = D (t - (en - m)) := by
  have := h.h1; have := h.h2; have := h.h3; have := h.h4; have := h.h5; have := h.h6
  unfold rotF; rw [if_neg (by omega), if_pos (by omega)]
theorem Mid.e4 (h : Mid K a m b mid st en D) {t : Nat} (t1 : en ≤ t) : rotF D st m en t = D t := by
  have := h.h1; have := h.h2; have := h.h3; have := h.h4; have := h.h5; have := h.h6
  unfold rotF; rw [if_neg (by omega), if_neg (by omega)]
theorem Mid.left (h : Mid K a m b mid st en D) (s1 : So K a m D) (s2 : So K m b D) : So K a st (rotF D st m en) ∧ So K st mid (rotF D st m en) := by
  have q1 := h.h1; have q2 := h.h2; have q3 := h.h3; have q4 := h.h4; have q5 := h.h5; have q6 := h.h6
  refine ⟨fun s t a1 a2 a3 => ?_, fun s t a1 a2 a3 => ?_⟩
  · rw [h.e1 (by omega), h.e1 (by omega)]; exact s1 s t a1 a2 (by omega)
  · rw [h.e2 a1 (by omega), h.e2 (by omega) a3]; exact s2 _ _ (by omega) (by omega) (by omega)
theorem Mid.right (h : Mid K a m b mid st en D) (s1 : So K a m D) (s2 : So K m b D) : So K mid en (rotF D st m en) ∧ So K en b (rotF D st m en) := by
  have q1 := h.h1; have q2 := h.h2; have q3 := h.h3; have q4 := h.h4; have q5 := h.h5; have q6 := h.h6
  refine ⟨fun s t a1 a2 a3 => ?_, fun s t a1 a2 a3 => ?_⟩
  · rw [h.e3 a1 (by omega), h.e3 (by omega) a3]; exact s1 _ _ (by omega) (by omega) (by omega)
  · rw [h.e4 (by omega), h.e4 (by omega)]; exact s2 s t (by omega) a2 (by omega)
/-- the elder half's numbers are the lesser -/
def Xl (a m b : Nat) (D : Nat → Nat) : Prop := ∀ s t, a ≤ s → s < m → m ≤ t → t < b → D s < D t
theorem Mid.lx (h : Mid K a m b mid st en D) (x : Xl a m b D) : Xl a st mid (rotF D st m en) := by
  have q1 := h.h1; have q2 := h.h2; have q3 := h.h3; have q4 := h.h4; have q5 := h.h5; have q6 := h.h6
  intro s t a1 a2 a3 a4
  rw [h.e1 a2, h.e2 a3 a4]; exact x _ _ a1 (by omega) (by omega) (by omega)
theorem Mid.rx (h : Mid K a m b mid st en D) (x : Xl a m b D) : Xl mid en b (rotF D st m en) := by
  have q1 := h.h1; have q2 := h.h2; have q3 := h.h3; have q4 := h.h4; have q5 := h.h5; have q6 := h.h6
  intro s t a1 a2 a3 a4
  rw [h.e3 a1 a2, h.e4 a3]; exact x _ _ (by omega) (by omega) (by omega) (by omega)
theorem Mid.all (h : Mid K a m b mid st en D) (s1 : So K a m D) (s2 : So K m b D) (x : Xl a m b D) {D2 D3 : Nat → Nat} (p2 : Pm a mid (rotF D st m en) D2) (o2 : So K a mid D2) (p3 : Pm mid b D2 D3) (o3 : So K mid b D3) : So K a b D3 := by
  have q1 := h.h1; have q2 := h.h2; have q3 := h.h3; have q4 := h.h4; have q5 := h.h5; have q6 := h.h6
  intro s t a1 a2 a3
  by_cases c1 : t < mid
  · rw [p3.oth s (by omega), p3.oth t (by omega)]; exact o2 s t a1 a2 c1
  · by_cases c2 : mid ≤ s
    · exact o3 s t c2 a2 a3
    · rw [p3.oth s (by omega)]
      obtain ⟨s', b1, b2, e1⟩ := p2.mem s a1 (by omega)
      obtain ⟨t', b3, b4, e2⟩ := p3.mem t (by omega) a3
      rw [e1, e2, p2.oth t' (by omega)]
      by_cases d1 : s' < st
      · rw [h.e1 d1]
        by_cases d2 : t' < en
        · rw [h.e3 b3 d2]; exact s1 _ _ b1 (by omega) (by omega)
        · rw [h.e4 (by omega)]
          have := h.f1 s' t' b1 d1 (by omega) b4
          have := x s' t' b1 (by omega) (by omega) b4
          unfold ltK; omega
      · rw [h.e2 (by omega) b2]
        by_cases d2 : t' < en
        · rw [h.e3 b3 d2]
          exact .inl (h.f2 _ _ (by omega) (by omega) (by omega) (by omega))
        · rw [h.e4 (by omega)]; exact s2 _ _ (by omega) (by omega) b4
end
theorem So.one {K : Nat → Int} {a m b : Nat} {D : Nat → Nat} (h1 : So K a m D) (h2 : So K m b D) (h : m = a ∨ m = b) : So K a b D := by
  rcases h with rfl | rfl
  · exact h2
  · exact h1
end Go.Proofs.YtibmgpinfdcaoaaGreatDoor
