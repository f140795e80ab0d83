/-
  One text: ZSta, OTakeP, OVal.
-/
import Derived.Test.YtibmgpinfdcaoaaGreatDoorHZSy3
import Derived.Test.YtibmgpinfdcaoaaGreatDoorG19
import Derived.Test.YtibmgpinfdcaoaaGreatDoorG15
import Derived.Test.YtibmgpinfdcaoaaGreatDoorG08
import Derived.Test.YtibmgpinfdcaoaaGreatDoorHONext
namespace Go.Proofs.YtibmgpinfdcaoaaGreatDoor
open Go.RowKit Go.Shelf Plain
set_option linter.unusedVariables false
set_option linter.unusedSimpArgs false
set_option maxRecDepth 100000

set_option maxHeartbeats 16000000 in
theorem stab_any {w0 : World} {g f n pb N : Nat} {K : Nat → Int} {D : Nat → Nat} (hn : n < 40) (hc : CmpK w0 g f #[.pointer (some ⟨pb, 0, none⟩)] N K) (hR : Rp w0 g n D) (hN : ∀ i, i < n → D i < N) (hU : Up 0 n D) (hE : Tyg f) :
    Calls Tryz.prog 55 #[.slice (some ⟨g, 0, none⟩) n n, .int .i64 (n : Int), .func (.func f) #[] #[.pointer (some ⟨pb, 0, none⟩)]] w0 fun e w' => e = .returned (.tuple #[]) ∧ Kept (fun k => k = g) w0 w' ∧ ∃ D', Rp w' g n D' ∧ Pm 0 n D D' ∧ So K 0 n D' := by
  have HC := hid hc
  have HNN := hid hN
  have HEn := hid hE
  have HR := hid hR
  have HU := hid hU
  have HN := hid hn
  clear hc hR hN hU hE
  have hn2 : (n : Int) < 40 := by omega
  go_enter Tryz.func55, Tryz.ntmps55
  go_wp2
  go_loopw [7, 8] (fun x y wr => ∃ (k : Nat) (D1 : Nat → Nat), x = .int .i64 ((20 * k : Nat) : Int) ∧ y = .int .i64 ((20 * k + 20 : Nat) : Int) ∧ 20 * k ≤ n ∧ Kept (fun k => k = g) w0 wr ∧ Rp wr g n D1 ∧ Pm 0 (20 * k) D D1 ∧ So K 0 (20 * k) D1) (fun x y _ => n + 20 - (intOf y).toNat)
  case atStart => exact ⟨0, D, rfl, rfl, Nat.zero_le _, Kept.refl _ _, HR.out, Pm.refl _ _ _, fun s t s1 st t1 => by omega⟩
  case round =>
    obtain ⟨k, D1, rfl, rfl, hk, kk, kr, kp, ks⟩ := hrel
    have HL := hid (And.intro kk (And.intro kr (And.intro kp ks)))
    clear kk kr kp ks
    have HN1 : Hid (∀ t, t < n → D1 t < N) := fun t ht => by
      by_cases c : t < 20 * k
      · obtain ⟨s, s1, s2, e⟩ := HL.out.2.2.1.mem t (Nat.zero_le _) c
        rw [e]; exact HNN.out s (by omega)
      · rw [HL.out.2.2.1.oth t (by omega)]; exact HNN.out t ht
    by_cases hlt : 20 * k + 20 ≤ n
    · obtain rfl : k = 0 := by omega
      have hk2 : (20 : Int) ≤ (n : Int) := by omega
      have hD : D1 = D := by funext t; exact HL.out.2.2.1.oth t (by omega)
      subst hD
      have hi := ins_any (w0 := wr) (g := g) (f := f) (n := n) (a := 0) (b := 20) (pb := pb) (N := N) (K := K) (D := D1) (by omega) (by omega) (by omega) rfl (HC.out.on HL.out.1) HL.out.2.1 HNN.out (fun s t s1 st t1 => HU.out s t s1 st (by omega)) HEn.out
      clear hlt hk
      simp only [Nat.mul_zero, Nat.zero_add]
      go_wp2_with (go_at_call 76; refine hi.mono ?_; rintro e w2 ⟨rfl, k2, r2⟩; have H2 := hid (And.intro k2 r2); clear hi k2 r2)
      go_roundw
      case rel =>
        obtain ⟨k2, D2, r2, p2, o2⟩ := H2.out
        exact ⟨1, D2, rfl, rfl, by omega, HL.out.1.trans k2 (fun _ h => .inl h), r2, p2, o2⟩
      case measure => simp [intOf]; omega
    · have hD : ∀ t, 20 * k ≤ t → D1 t = D t := fun t ht => HL.out.2.2.1.oth t (by omega)
      have hi := ins_any (w0 := wr) (g := g) (f := f) (n := n) (a := 20 * k) (b := n) (pb := pb) (N := N) (K := K) (D := D1) (by omega) (by omega) (by omega) rfl (HC.out.on HL.out.1) HL.out.2.1 HN1.out (fun s t s1 st t1 => by rw [hD s (by omega), hD t (by omega)]; exact HU.out s t (by omega) st t1) HEn.out
      have HK := hid hk
      have HLT := hid hlt
      have hlt2 : ¬ ((20 * k + 20 : Nat) : Int) ≤ (n : Int) := by omega
      clear hlt hk
      generalize wr = wo at *
      obtain ⟨c1, hc1⟩ : ∃ c1 : Nat, c1 = 20 * k := ⟨_, rfl⟩
      obtain ⟨c2, hc2⟩ : ∃ c2 : Nat, c2 = 20 * k + 20 := ⟨_, rfl⟩
      rw [← hc1] at hi
      rw [← hc2] at hlt2
      rw [← hc2, ← hc1]
      have HCC := hid (And.intro hc1 hc2)
      clear hc1 hc2 hD
      go_wp2_with (go_at_call 76; refine hi.mono ?_; rintro e w2 ⟨rfl, k2, r2⟩; have H2 := hid (And.intro k2 r2); clear hi k2 r2)
      have H3 : Hid (∃ D2, Kept (fun k => k = g) w0 w2 ∧ Rp w2 g n D2 ∧ Pm 0 n D D2 ∧ So K 0 (min 20 n) D2 ∧ So K (min 20 n) n D2 ∧ Xl 0 (min 20 n) n D2 ∧ (n ≤ 20 → So K 0 n D2)) := by
        obtain ⟨k2, D2, r2, p2, o2⟩ := H2.out
        obtain ⟨ck, cr, cp, cs⟩ := HL.out
        have hck := HCC.out
        have hk := HK.out
        have hlt := HLT.out
        have hn := HN.out
        rw [hck.1] at p2 o2
        have hp : Pm 0 n D D2 := (cp.wide (Nat.le_refl _) hk).trans (p2.wide (Nat.zero_le _) (Nat.le_refl _))
        refine ⟨D2, ck.trans k2 (fun _ h => .inl h), r2, hp, ?_, ?_, ?_, ?_⟩
        · by_cases h0 : k = 0
          · subst h0
            intro s t s1 st t1
            exact o2 s t (by omega) st (by omega)
          · intro s t s1 st t1
            rw [p2.oth s (by omega), p2.oth t (by omega)]
            exact cs s t s1 st (by omega)
        · by_cases h0 : k = 0
          · intro s t s1 st t1
            omega
          · intro s t s1 st t1
            exact o2 s t (by omega) st (by omega)
        · intro s t s1 s2 t1 t2
          by_cases h0 : k = 0
          · omega
          · rw [p2.oth s (by omega)]
            obtain ⟨s', b1, b2, e1⟩ := cp.mem s (Nat.zero_le _) (by omega)
            obtain ⟨t', b3, b4, e2⟩ := p2.mem t (by omega) t2
            rw [e1, e2, cp.oth t' (by omega)]
            exact HU.out s' t' (Nat.zero_le _) (by omega) b4
        · intro h20
          by_cases h0 : k = 0
          · subst h0
            exact o2
          · intro s t s1 st t1
            rw [p2.oth s (by omega), p2.oth t (by omega)]
            exact cs s t s1 st (by omega)
      clear HL HN1 H2 HK HLT HCC
      go_wp2
      go_loopw [6] (fun z wr => (z = .int .i64 20 ∧ wr = w2) ∨ (z = .int .i64 40 ∧ ∃ D3, Kept (fun k => k = g) w0 wr ∧ Rp wr g n D3 ∧ Pm 0 n D D3 ∧ So K 0 n D3)) (fun z _ => 40 - (intOf z).toNat)
      case atStart => exact .inl ⟨rfl, rfl⟩
      case round =>
        rcases hrel with ⟨rfl, hw⟩ | ⟨rfl, D3, k3, r3, p3, o3⟩
        · obtain rfl := hw.symm
          clear hw
          by_cases h20 : 20 < n
          · have hz : (20 : Int) < (n : Int) := by omega
            have hz2 : ¬ (40 : Int) ≤ (n : Int) := by omega
            have HZ := hid h20
            clear h20
            generalize w2 = w3 at *
            go_wp2
            go_loopw [7, 8] (fun x y wr => x = .int .i64 0 ∧ y = .int .i64 40 ∧ wr = w3) (fun x y _ => 0)
            case atStart => exact ⟨rfl, rfl, rfl⟩
            case round =>
              obtain ⟨rfl, rfl, hw⟩ := hrel
              obtain rfl := hw.symm
              clear hw
              obtain ⟨D2, q1, q2, q3, q4, q5, q6, q7⟩ := H3.out
              rw [show min 20 n = 20 by have := HZ.out; omega] at q4 q5 q6
              have hN2 : ∀ t, t < n → D2 t < N := fun t ht => by
                obtain ⟨s, s1, s2, e⟩ := q3.mem t (Nat.zero_le _) ht
                rw [e]; exact HNN.out s s2
              have hm := sym_any (g := g) (f := f) (n := n) (pb := pb) (N := N) (K := K) (by omega) HEn.out n 0 20 n D2 w3 (by omega) (by omega) HZ.out (Nat.le_refl _) (HC.out.on q1) q2 hN2 q4 q5 q6
              have HQ := hid (And.intro q1 q3)
              clear q1 q2 q3 q4 q5 q6 q7 hN2 H3
              go_wp2_with (go_at_call 77; refine hm.mono ?_; rintro e w4 ⟨rfl, k4, r4⟩; have H4 := hid (And.intro k4 r4); clear hm k4 r4)
              go_roundw
              case rel =>
                obtain ⟨k4, D4, r4, p4, o4⟩ := H4.out
                exact .inr ⟨rfl, D4, HQ.out.1.trans k4 (fun _ h => .inl h), r4, HQ.out.2.trans p4, o4⟩
              case measure => simp [intOf]
          · have hz : ¬ (20 : Int) < (n : Int) := by omega
            have HZ := hid h20
            clear h20
            go_wp2
            go_end0
            obtain ⟨D2, q1, q2, q3, q4, q5, q6, q7⟩ := H3.out
            exact ⟨rfl, q1, D2, q2, q3, q7 (by have := HZ.out; omega)⟩
        · have hz : ¬ (40 : Int) < (n : Int) := by omega
          have HF := hid (And.intro k3 (And.intro r3 (And.intro p3 o3)))
          clear k3 r3 p3 o3
          go_wp2
          go_end0
          exact ⟨rfl, HF.out.1, D3, HF.out.2.1, HF.out.2.2.1, HF.out.2.2.2⟩
theorem sstab_any {w0 : World} {g f n pb N : Nat} {K : Nat → Int} {D : Nat → Nat} (hn : n < 40) (hc : CmpK w0 g f #[.pointer (some ⟨pb, 0, none⟩)] N K) (hR : Rp w0 g n D) (hN : ∀ i, i < n → D i < N) (hU : Up 0 n D) (hE : Tyg f) :
    Calls Tryz.prog 40 #[.slice (some ⟨g, 0, none⟩) n n, .func (.func f) #[] #[.pointer (some ⟨pb, 0, none⟩)]] w0 fun e w' => e = .returned (.tuple #[]) ∧ Kept (fun k => k = g) w0 w' ∧ ∃ D', Rp w' g n D' ∧ Pm 0 n D D' ∧ So K 0 n D' := by
  have hs := stab_any hn hc hR hN hU hE
  clear hc hR hN hU hE
  go_enter Tryz.func40, Tryz.ntmps40
  go_wp2_with (go_at_call 55; refine hs.mono ?_; rintro e w2 ⟨rfl, k2, r2⟩; have H2 := hid (And.intro k2 r2); clear hs k2 r2)
  go_end0
  exact ⟨rfl, H2.out.1, H2.out.2⟩
end Go.Proofs.YtibmgpinfdcaoaaGreatDoor

namespace Go.Proofs.YtibmgpinfdcaoaaGreatDoor
namespace Rule
set_option linter.unusedVariables false

/-- the ticks that two spans have in common -/
def com (a b c d : Nat) : Nat := min b d - max a c
def comes (H t a b : Nat) : Nat := if t ≤ H then com a b 0 t else com a b 0 H + (t - H) / H * com a b H (2 * H) + com a b H (H + t % H)

theorem cnt_const (f : Nat → Nat) (p p' x m : Nat) (h : ∀ u, x ≤ u → u < x + m → f u = p') : cnt f p (x + m) = cnt f p x + (if p' = p then m else 0) := by
  induction m with
  | zero => split <;> rfl
  | succ m ih =>
    have := ih (fun u a b => h u a (by omega))
    show cnt f p (x + m) + (if f (x + m) = p then 1 else 0) = _
    rw [this, h (x + m) (by omega) (by omega)]
    split <;> omega
/-- of the ticks below q, those of p from c on and below d -/
def cin (f : Nat → Nat) (p c d q : Nat) : Nat := cnt f p (max c (min q d)) - cnt f p c
theorem cin_step (f : Nat → Nat) (p p' c d q len : Nat) (hcd : c ≤ d) (h : ∀ u, q ≤ u → u < q + len → f u = p') : cin f p c d (q + len) = cin f p c d q + (if p' = p then com q (q + len) c d else 0) := by
  unfold cin com
  obtain ⟨x, hx⟩ : ∃ x, x = max c (min q d) := ⟨_, rfl⟩
  obtain ⟨y, hy⟩ : ∃ y, y = max c (min (q + len) d) := ⟨_, rfl⟩
  rw [← hx, ← hy]
  have hxy : x ≤ y := by omega
  have hcx : c ≤ x := by omega
  have e : min (q + len) d - max q c = y - x := by omega
  rw [e]
  have hc := cnt_const f p p' x (y - x) (fun u a b => h u (by omega) (by omega))
  rw [show x + (y - x) = y by omega] at hc
  have hm := cnt_mono f p hcx
  rw [hc]
  split <;> omega
/-- of the ticks below q, how often they come below t as p's -/
def acc (f : Nat → Nat) (p H t q : Nat) : Nat := if t ≤ H then cin f p 0 t q else cin f p 0 H q + (t - H) / H * cin f p H (2 * H) q + cin f p H (H + t % H) q
theorem acc_zero (f : Nat → Nat) (p H t : Nat) : acc f p H t 0 = 0 := by
  have z : ∀ c d, c ≤ d → cin f p c d 0 = 0 := fun c d h => by unfold cin; rw [show max c (min 0 d) = c by omega]; omega
  unfold acc
  split
  · exact z _ _ (by omega)
  · rw [z _ _ (by omega), z _ _ (by omega), z _ _ (by omega)]; simp
theorem acc_step (f : Nat → Nat) (p p' H t q len : Nat) (h : ∀ u, q ≤ u → u < q + len → f u = p') : acc f p H t (q + len) = acc f p H t q + (if p' = p then comes H t q (q + len) else 0) := by
  unfold acc comes
  by_cases ht : t ≤ H
  · rw [if_pos ht, if_pos ht, if_pos ht, cin_step f p p' 0 t q len (by omega) h]
  · rw [if_neg ht, if_neg ht, if_neg ht, cin_step f p p' 0 H q len (by omega) h, cin_step f p p' H (2 * H) q len (by omega) h, cin_step f p p' H (H + t % H) q len (by omega) h]
    by_cases e : p' = p
    · simp only [e, if_true]
      rw [Nat.mul_add]
      omega
    · simp only [e, if_false, Nat.add_zero]
/-- all told: how many ticks below t are p's -/
theorem acc_all {f : Nat → Nat} {H : Nat} (hH : 1 ≤ H) (hf : ∀ t, H ≤ t → f (t + H) = f t) (p t m : Nat) (hm : m = 2 * H ∨ (t ≤ m ∧ m ≤ 2 * H)) : acc f p H t m = cnt f p t := by
  unfold acc cin
  by_cases ht : t ≤ H
  · rw [if_pos ht, show max 0 (min m t) = t by omega]
    show cnt f p t - 0 = _
    omega
  · rw [if_neg ht]
    have h0 : cnt f p 0 = 0 := rfl
    have h1 := Nat.div_add_mod (t - H) H
    have h2 := Nat.mod_lt (t - H) (show H > 0 by omega)
    have h3 : t % H = (t - H) % H := by rw [Nat.mod_eq_sub_mod (by omega)]
    rw [show max 0 (min m H) = H by omega, h0]
    have hle := cnt_mono f p (show H ≤ H + H by omega)
    rcases hm with hm | ⟨hm, hm2⟩
    · rw [show max H (min m (2 * H)) = H + H by omega, show max H (min m (H + t % H)) = H + t % H by omega, h3]
      have hle2 := cnt_mono f p (show H ≤ H + (t - H) % H by omega)
      have h4 := cnt_turns hf p ((t - H) % H) ((t - H) / H)
      rw [show H + (t - H) % H + (t - H) / H * H = t by rw [Nat.mul_comm]; omega] at h4
      rw [Nat.mul_sub]
      have h5 := Nat.mul_le_mul_left ((t - H) / H) hle
      omega
    · by_cases e2 : t = 2 * H
      · have hm3 : m = 2 * H := by omega
        rw [show max H (min m (2 * H)) = H + H by omega, show max H (min m (H + t % H)) = H + t % H by omega, h3]
        have hle2 := cnt_mono f p (show H ≤ H + (t - H) % H by omega)
        have h4 := cnt_turns hf p ((t - H) % H) ((t - H) / H)
        rw [show H + (t - H) % H + (t - H) / H * H = t by rw [Nat.mul_comm]; omega] at h4
        rw [Nat.mul_sub]
        have h5 := Nat.mul_le_mul_left ((t - H) / H) hle
        omega
      · have hq : (t - H) / H = 0 := Nat.div_eq_of_lt (by omega)
        have hr : (t - H) % H = t - H := Nat.mod_eq_of_lt (by omega)
        rw [hq, h3, hr, show max H (min m (H + (t - H))) = t by omega]
        have := cnt_mono f p (show H ≤ t by omega)
        omega
theorem comes_le (H t a b : Nat) (hH : 1 ≤ H) (hab : b ≤ 2 * H) : comes H t a b ≤ 3 * t + 3 * H := by
  unfold comes com
  split
  · omega
  · rename_i h
    have h1 : (t - H) / H * (min b (2 * H) - max a H) ≤ (t - H) / H * H := Nat.mul_le_mul_left _ (by omega)
    have h2 := Nat.div_mul_le_self (t - H) H
    have h3 := Nat.mod_lt t (show H > 0 by omega)
    omega
theorem cin_le (f : Nat → Nat) (p c d q : Nat) (h : c ≤ d) : cin f p c d q ≤ d - c := by
  unfold cin
  have := cnt_diff f p (show c ≤ max c (min q d) by omega)
  omega
theorem acc_le (f : Nat → Nat) (p H t q : Nat) (hH : 1 ≤ H) : acc f p H t q ≤ 3 * t + 3 * H := by
  unfold acc
  split
  · have := cin_le f p 0 t q (by omega); omega
  · rename_i h
    have h0 := cin_le f p 0 H q (by omega)
    have h1 : (t - H) / H * cin f p H (2 * H) q ≤ (t - H) / H * H := Nat.mul_le_mul_left _ (by have := cin_le f p H (2 * H) q (by omega); omega)
    have h2 := Nat.div_mul_le_self (t - H) H
    have h3 := cin_le f p H (H + t % H) q (by omega)
    have h4 := Nat.mod_lt t (show H > 0 by omega)
    omega
end Rule
end Go.Proofs.YtibmgpinfdcaoaaGreatDoor

namespace Go.Proofs.YtibmgpinfdcaoaaGreatDoor
open Go.RowKit Plain
set_option linter.unusedVariables false
set_option maxRecDepth 100000

def gs (xs : List Srv) (i : Nat) : Srv := xs.getD i ⟨0, 0, 0, 0⟩
def sys (xs : List Srv) : Rule.Sys := ⟨xs.length, fun i => (gs xs i).p.toNat, fun i => (gs xs i).b.toNat, fun i => (gs xs i).o.toNat, fun i => (gs xs i).q⟩
/-- the hyperperiod -/
def hyp (xs : List Srv) : Nat := (lcmV (zP xs) xs.length 1048576).toNat

structure Vd (xs : List Srv) : Prop where
  num : xs.length ≤ 32
  per : ∀ i, i < xs.length → 1 ≤ (gs xs i).p ∧ (gs xs i).p ≤ 1048576
  bud : ∀ i, i < xs.length → 1 ≤ (gs xs i).b ∧ (gs xs i).b ≤ (gs xs i).p
  off : ∀ i, i < xs.length → 0 ≤ (gs xs i).o ∧ (gs xs i).o < (gs xs i).p
  inj : ∀ i j, i < xs.length → j < xs.length → (gs xs i).q = (gs xs j).q → i = j
  hyp1 : 1 ≤ hyp xs
  hyp2 : hyp xs ≤ 1048576
  dvd : ∀ i, i < xs.length → (gs xs i).p.toNat ∣ hyp xs

theorem Vd.bd {xs : List Srv} (h : Vd xs) : Bd (sys xs) := by
  refine ⟨⟨fun i hi => ?_, fun i hi => ?_, fun i j hi hj e => h.inj i j hi hj e⟩, fun i hi => ?_, fun i hi => ?_, h.num⟩
  · have := h.per i hi; show 0 < (gs xs i).p.toNat; omega
  · have := h.off i hi; show (gs xs i).o.toNat < (gs xs i).p.toNat; omega
  · have := h.per i hi; show (gs xs i).p.toNat ≤ _; omega
  · have := h.bud i hi; have := h.per i hi; show (gs xs i).b.toNat ≤ _; omega

theorem inB_of {n lo hi : Int} (h : inB n lo hi = true) : lo ≤ n ∧ n ≤ hi := by simpa [inB] using h
theorem idxF_m1 {ys : List Srv} {q : Int} : ∀ {n : Nat}, ¬ 0 ≤ idxF ys q n → idxF ys q n = -1
  | 0, _ => rfl
  | n + 1, h => by
    rw [idxF] at h ⊢
    by_cases h1 : idxF ys q n = -1
    · rw [if_pos h1] at h ⊢
      by_cases h2 : (ys.getD n ⟨0, 0, 0, 0⟩).q = q
      · rw [if_pos h2] at h; omega
      · rw [if_neg h2]
    · rw [if_neg h1] at h ⊢
      exact idxF_m1 h
theorem idxF_neg {ys : List Srv} {q : Int} : ∀ {n : Nat}, ¬ 0 ≤ idxF ys q n → ∀ j, j < n → (ys.getD j ⟨0, 0, 0, 0⟩).q ≠ q
  | 0, _, j, hj => by omega
  | n + 1, h, j, hj => by
    rw [idxF] at h
    by_cases h1 : idxF ys q n = -1
    · rw [if_pos h1] at h
      by_cases h2 : (ys.getD n ⟨0, 0, 0, 0⟩).q = q
      · rw [if_pos h2] at h; omega
      · by_cases e : j = n
        · subst e; exact h2
        · exact idxF_neg (by rw [h1]; omega) j (by omega)
    · rw [if_neg h1] at h
      exfalso
      exact h1 (idxF_m1 h)
theorem vd_of {xs : List Srv} (h : timF xs xs.length = none) : Vd xs := by
  have hf := tim_none h
  have hf' := hf
  unfold findF at hf'
  by_cases h32 : xs.length ≤ 32
  · rw [if_pos h32] at hf'
    have key : ∀ i, i < xs.length → ∀ j, j < 5 → bS xs i j = true := fun i hi j hj => by
      have := rowsF_zero (eachF_none hf' i hi) j hj
      by_cases hb : bS xs i j = true
      · exact hb
      · rw [if_neg hb] at this; omega
    have hb : lcmB (zP xs) xs.length 1048576 = true := by
      unfold timF at h
      rw [hf] at h
      unfold togF at h
      by_cases hb : lcmB (zP xs) xs.length 1048576 = true
      · exact hb
      · rw [if_neg hb] at h; cases h
    unfold lcmB at hb
    have hpos := of_decide_eq_true hb
    have hl := lcmV_facts (zP xs) xs.length 1048576
    have hper : ∀ i, i < xs.length → 1 ≤ (gs xs i).p ∧ (gs xs i).p ≤ 1048576 := fun i hi => by
      have := key i hi 0 (by omega)
      exact inB_of this
    refine ⟨h32, hper, fun i hi => ?_, fun i hi => ?_, ?_, ?_, ?_, fun i hi => ?_⟩
    · have := key i hi 1 (by omega)
      exact inB_of this
    · have := key i hi 2 (by omega)
      have hp := hper i hi
      have e : wrap64 ((gs xs i).p - 1) = (gs xs i).p - 1 := by unfold wrap64; omega
      have h2 : (0 ≤ (gs xs i).o) ∧ (gs xs i).o ≤ wrap64 ((gs xs i).p - 1) := inB_of this
      rw [e] at h2
      omega
    · have hq : ∀ i j, i < xs.length → j < i → (gs xs i).q ≠ (gs xs j).q := fun i j hi hj e => by
        have := key i hi 4 (by omega)
        simp only [bS, Bool.not_eq_true', decide_eq_false_iff_not] at this
        have h2 := idxF_neg this j hj
        apply h2
        have e2 : (xs.take i).getD j ⟨0, 0, 0, 0⟩ = xs.getD j ⟨0, 0, 0, 0⟩ := by
          rw [List.getD_eq_getElem?_getD, List.getD_eq_getElem?_getD, List.getElem?_take, if_pos hj]
        rw [e2]
        exact e.symm
      intro i j hi hj e
      rcases Nat.lt_trichotomy i j with h1 | h1 | h1
      · exact (hq j i hj h1 e.symm).elim
      · exact h1
      · exact (hq i j hi h1 e).elim
    · unfold hyp; omega
    · unfold hyp; have := (hl.2.1 hpos).1; omega
    · have := ((hl.2.1 hpos).2 i hi)
      have h1 : (gs xs i).p ∣ lcmV (zP xs) xs.length 1048576 := this.2
      have hp := (hper i hi).1
      unfold hyp
      rw [← Int.natCast_dvd_natCast, Int.toNat_of_nonneg (by omega), Int.toNat_of_nonneg (by omega)]
      exact h1
  · rw [if_neg h32] at hf'; cases hf'
end Go.Proofs.YtibmgpinfdcaoaaGreatDoor
