/-
  slices.SortStableFunc at fewer than 40 places.
-/
import Derived.Test.YthdmbikmjimmkaaGreatDoorZSy3
import Derived.Test.YthdmbikmjimmkaaGreatDoorOSort
namespace Go.Proofs.YthdmbikmjimmkaaGreatDoor
open Go.RowKit Go.Shelf Plain
set_option linter.unusedVariables false
set_option linter.unusedSimpArgs false
set_option maxRecDepth 100000

set_option maxHeartbeats 16000000 in
theorem stab_any {w0 : World} {g f n pb N : Nat} {K : Nat → Int} {D : Nat → Nat} (hn : n < 40) (hc : CmpK w0 g f #[.pointer (some ⟨pb, 0, none⟩)] N K) (hR : Rp w0 g n D) (hN : ∀ i, i < n → D i < N) (hU : Up 0 n D) (hE : Tyg f) :
    Calls Tryz.prog 75 #[.slice (some ⟨g, 0, none⟩) n n, .int .i64 (n : Int), .func (.func f) #[] #[.pointer (some ⟨pb, 0, none⟩)]] w0 fun e w' => e = .returned (.tuple #[]) ∧ Kept (fun k => k = g) w0 w' ∧ ∃ D', Rp w' g n D' ∧ Pm 0 n D D' ∧ So K 0 n D' := by
  have HC := hid hc
  have HNN := hid hN
  have HEn := hid hE
  have HR := hid hR
  have HU := hid hU
  have HN := hid hn
  clear hc hR hN hU hE
  have hn2 : (n : Int) < 40 := by omega
  go_enter Tryz.func75, Tryz.ntmps75
  go_wp2
  go_loopw [7, 8] (fun x y wr => ∃ (k : Nat) (D1 : Nat → Nat), x = .int .i64 ((20 * k : Nat) : Int) ∧ y = .int .i64 ((20 * k + 20 : Nat) : Int) ∧ 20 * k ≤ n ∧ Kept (fun k => k = g) w0 wr ∧ Rp wr g n D1 ∧ Pm 0 (20 * k) D D1 ∧ So K 0 (20 * k) D1) (fun x y _ => n + 20 - (intOf y).toNat)
  case atStart => exact ⟨0, D, rfl, rfl, Nat.zero_le _, Kept.refl _ _, HR.out, Pm.refl _ _ _, fun s t s1 st t1 => by omega⟩
  case round =>
    obtain ⟨k, D1, rfl, rfl, hk, kk, kr, kp, ks⟩ := hrel
    have HL := hid (And.intro kk (And.intro kr (And.intro kp ks)))
    clear kk kr kp ks
    have HN1 : Hid (∀ t, t < n → D1 t < N) := fun t ht => by
      by_cases c : t < 20 * k
      · obtain ⟨s, s1, s2, e⟩ := HL.out.2.2.1.mem t (Nat.zero_le _) c
        rw [e]; exact HNN.out s (by omega)
      · rw [HL.out.2.2.1.oth t (by omega)]; exact HNN.out t ht
    by_cases hlt : 20 * k + 20 ≤ n
    · obtain rfl : k = 0 := by omega
      have hk2 : (20 : Int) ≤ (n : Int) := by omega
      have hD : D1 = D := by funext t; exact HL.out.2.2.1.oth t (by omega)
      subst hD
      have hi := ins_any (w0 := wr) (g := g) (f := f) (n := n) (a := 0) (b := 20) (pb := pb) (N := N) (K := K) (D := D1) (by omega) (by omega) (by omega) rfl (HC.out.on HL.out.1) HL.out.2.1 HNN.out (fun s t s1 st t1 => HU.out s t s1 st (by omega)) HEn.out
      clear hlt hk
      simp only [Nat.mul_zero, Nat.zero_add]
      go_wp2_with (go_at_call 84; refine hi.mono ?_; rintro e w2 ⟨rfl, k2, r2⟩; have H2 := hid (And.intro k2 r2); clear hi k2 r2)
      go_roundw
      case rel =>
        obtain ⟨k2, D2, r2, p2, o2⟩ := H2.out
        exact ⟨1, D2, rfl, rfl, by omega, HL.out.1.trans k2 (fun _ h => .inl h), r2, p2, o2⟩
      case measure => simp [intOf]; omega
    · have hD : ∀ t, 20 * k ≤ t → D1 t = D t := fun t ht => HL.out.2.2.1.oth t (by omega)
      have hi := ins_any (w0 := wr) (g := g) (f := f) (n := n) (a := 20 * k) (b := n) (pb := pb) (N := N) (K := K) (D := D1) (by omega) (by omega) (by omega) rfl (HC.out.on HL.out.1) HL.out.2.1 HN1.out (fun s t s1 st t1 => by rw [hD s (by omega), hD t (by omega)]; exact HU.out s t (by omega) st t1) HEn.out
      have HK := hid hk
      have HLT := hid hlt
      have hlt2 : ¬ ((20 * k + 20 : Nat) : Int) ≤ (n : Int) := by omega
      clear hlt hk
      generalize wr = wo at *
      obtain ⟨c1, hc1⟩ : ∃ c1 : Nat, c1 = 20 * k := ⟨_, rfl⟩
      obtain ⟨c2, hc2⟩ : ∃ c2 : Nat, c2 = 20 * k + 20 := ⟨_, rfl⟩
      rw [← hc1] at hi
      rw [← hc2] at hlt2
      rw [← hc2, ← hc1]
      have HCC := hid (And.intro hc1 hc2)
      clear hc1 hc2 hD
      go_wp2_with (go_at_call 84; refine hi.mono ?_; rintro e w2 ⟨rfl, k2, r2⟩; have H2 := hid (And.intro k2 r2); clear hi k2 r2)
      have H3 : Hid (∃ D2, Kept (fun k => k = g) w0 w2 ∧ Rp w2 g n D2 ∧ Pm 0 n D D2 ∧ So K 0 (min 20 n) D2 ∧ So K (min 20 n) n D2 ∧ Xl 0 (min 20 n) n D2 ∧ (n ≤ 20 → So K 0 n D2)) := by
        obtain ⟨k2, D2, r2, p2, o2⟩ := H2.out
        obtain ⟨ck, cr, cp, cs⟩ := HL.out
        have hck := HCC.out
        have hk := HK.out
        have hlt := HLT.out
        have hn := HN.out
        rw [hck.1] at p2 o2
        have hp : Pm 0 n D D2 := (cp.wide (Nat.le_refl _) hk).trans (p2.wide (Nat.zero_le _) (Nat.le_refl _))
        refine ⟨D2, ck.trans k2 (fun _ h => .inl h), r2, hp, ?_, ?_, ?_, ?_⟩
        · by_cases h0 : k = 0
          · subst h0
            intro s t s1 st t1
            exact o2 s t (by omega) st (by omega)
          · intro s t s1 st t1
            rw [p2.oth s (by omega), p2.oth t (by omega)]
            exact cs s t s1 st (by omega)
        · by_cases h0 : k = 0
          · intro s t s1 st t1
            omega
          · intro s t s1 st t1
            exact o2 s t (by omega) st (by omega)
        · intro s t s1 s2 t1 t2
          by_cases h0 : k = 0
          · omega
          · rw [p2.oth s (by omega)]
            obtain ⟨s', b1, b2, e1⟩ := cp.mem s (Nat.zero_le _) (by omega)
            obtain ⟨t', b3, b4, e2⟩ := p2.mem t (by omega) t2
            rw [e1, e2, cp.oth t' (by omega)]
            exact HU.out s' t' (Nat.zero_le _) (by omega) b4
        · intro h20
          by_cases h0 : k = 0
          · subst h0
            exact o2
          · intro s t s1 st t1
            rw [p2.oth s (by omega), p2.oth t (by omega)]
            exact cs s t s1 st (by omega)
      clear HL HN1 H2 HK HLT HCC
      go_wp2
      go_loopw [6] (fun z wr => (z = .int .i64 20 ∧ wr = w2) ∨ (z = .int .i64 40 ∧ ∃ D3, Kept (fun k => k = g) w0 wr ∧ Rp wr g n D3 ∧ Pm 0 n D D3 ∧ So K 0 n D3)) (fun z _ => 40 - (intOf z).toNat)
      case atStart => exact .inl ⟨rfl, rfl⟩
      case round =>
        rcases hrel with ⟨rfl, hw⟩ | ⟨rfl, D3, k3, r3, p3, o3⟩
        · obtain rfl := hw.symm
          clear hw
          by_cases h20 : 20 < n
          · have hz : (20 : Int) < (n : Int) := by omega
            have hz2 : ¬ (40 : Int) ≤ (n : Int) := by omega
            have HZ := hid h20
            clear h20
            generalize w2 = w3 at *
            go_wp2
            go_loopw [7, 8] (fun x y wr => x = .int .i64 0 ∧ y = .int .i64 40 ∧ wr = w3) (fun x y _ => 0)
            case atStart => exact ⟨rfl, rfl, rfl⟩
            case round =>
              obtain ⟨rfl, rfl, hw⟩ := hrel
              obtain rfl := hw.symm
              clear hw
              obtain ⟨D2, q1, q2, q3, q4, q5, q6, q7⟩ := H3.out
              rw [show min 20 n = 20 by have := HZ.out; omega] at q4 q5 q6
              have hN2 : ∀ t, t < n → D2 t < N := fun t ht => by
                obtain ⟨s, s1, s2, e⟩ := q3.mem t (Nat.zero_le _) ht
                rw [e]; exact HNN.out s s2
              have hm := sym_any (g := g) (f := f) (n := n) (pb := pb) (N := N) (K := K) (by omega) HEn.out n 0 20 n D2 w3 (by omega) (by omega) HZ.out (Nat.le_refl _) (HC.out.on q1) q2 hN2 q4 q5 q6
              have HQ := hid (And.intro q1 q3)
              clear q1 q2 q3 q4 q5 q6 q7 hN2 H3
              go_wp2_with (go_at_call 85; refine hm.mono ?_; rintro e w4 ⟨rfl, k4, r4⟩; have H4 := hid (And.intro k4 r4); clear hm k4 r4)
              go_roundw
              case rel =>
                obtain ⟨k4, D4, r4, p4, o4⟩ := H4.out
                exact .inr ⟨rfl, D4, HQ.out.1.trans k4 (fun _ h => .inl h), r4, HQ.out.2.trans p4, o4⟩
              case measure => simp [intOf]
          · have hz : ¬ (20 : Int) < (n : Int) := by omega
            have HZ := hid h20
            clear h20
            go_wp2
            go_end0
            obtain ⟨D2, q1, q2, q3, q4, q5, q6, q7⟩ := H3.out
            exact ⟨rfl, q1, D2, q2, q3, q7 (by have := HZ.out; omega)⟩
        · have hz : ¬ (40 : Int) < (n : Int) := by omega
          have HF := hid (And.intro k3 (And.intro r3 (And.intro p3 o3)))
          clear k3 r3 p3 o3
          go_wp2
          go_end0
          exact ⟨rfl, HF.out.1, D3, HF.out.2.1, HF.out.2.2.1, HF.out.2.2.2⟩
theorem sstab_any {w0 : World} {g f n pb N : Nat} {K : Nat → Int} {D : Nat → Nat} (hn : n < 40) (hc : CmpK w0 g f #[.pointer (some ⟨pb, 0, none⟩)] N K) (hR : Rp w0 g n D) (hN : ∀ i, i < n → D i < N) (hU : Up 0 n D) (hE : Tyg f) :
    Calls Tryz.prog 51 #[.slice (some ⟨g, 0, none⟩) n n, .func (.func f) #[] #[.pointer (some ⟨pb, 0, none⟩)]] w0 fun e w' => e = .returned (.tuple #[]) ∧ Kept (fun k => k = g) w0 w' ∧ ∃ D', Rp w' g n D' ∧ Pm 0 n D D' ∧ So K 0 n D' := by
  have hs := stab_any hn hc hR hN hU hE
  clear hc hR hN hU hE
  go_enter Tryz.func51, Tryz.ntmps51
  go_wp2_with (go_at_call 75; refine hs.mono ?_; rintro e w2 ⟨rfl, k2, r2⟩; have H2 := hid (And.intro k2 r2); clear hs k2 r2)
  go_end0
  exact ⟨rfl, H2.out.1, H2.out.2⟩
end Go.Proofs.YthdmbikmjimmkaaGreatDoor
