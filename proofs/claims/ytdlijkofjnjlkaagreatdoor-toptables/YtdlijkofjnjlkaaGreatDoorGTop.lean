/-
  One text: THyp, TLaw.
-/
import Derived.Test.YtdlijkofjnjlkaaGreatDoorOVal
import Derived.Test.YtdlijkofjnjlkaaGreatDoorOHeld
import Derived.Deep.QuietTactic
import Derived.BigQuiet
import Derived.Test.YtdlijkofjnjlkaaGreatDoorGDec
import Derived.Test.YtdlijkofjnjlkaaGreatDoorGMk
import Derived.Deep.DeepCutAuto
namespace Go.Proofs.YtdlijkofjnjlkaaGreatDoor
open Go.RowKit Plain
set_option linter.unusedVariables false
set_option maxRecDepth 100000

theorem hyp_least {xs : List Srv} (hv : Vd xs) (t : Nat) (h1 : 1 ≤ t) (h2 : t ≤ 1048576) (h : ∀ i, i < xs.length → (gs xs i).p.toNat ∣ t) : hyp xs ∣ t := by
  obtain ⟨f0, f1, f2⟩ := lcmV_facts (zP xs) xs.length 1048576
  have := (f2 (t : Int) (by omega) (by omega) (fun i hi => by
    have hp := hv.per i hi
    have e : zP xs i = (gs xs i).p := rfl
    rw [e]
    refine ⟨hp.1, ?_⟩
    have := h i hi
    have e2 : (gs xs i).p = (((gs xs i).p.toNat : Nat) : Int) := by omega
    rw [e2]
    exact Int.natCast_dvd_natCast.2 this)).2
  have e3 : lcmV (zP xs) xs.length 1048576 = ((hyp xs : Nat) : Int) := by unfold hyp; omega
  rw [e3] at this
  exact Int.natCast_dvd_natCast.1 this
theorem dvd_step {g m z : Nat} (h1 : g ∣ m) (h2 : g ∣ z) (hlt : m < z) : m + g ≤ z := by
  obtain ⟨a, rfl⟩ := h1
  obtain ⟨b, rfl⟩ := h2
  have : a < b := Nat.lt_of_mul_lt_mul_left hlt
  calc g * a + g = g * (a + 1) := by rw [Nat.mul_add, Nat.mul_one]
    _ ≤ g * b := Nat.mul_le_mul_left _ this

set_option maxHeartbeats 4000000 in
theorem ghyper_any {F : Nat → Prop} {a : Option Addr} {c : Nat} {xs : List Srv} (w : World) (h : Sv w F a xs.length c xs) (hv : Vd xs) :
    Calls Tryz.prog 10 #[.slice a xs.length c] w fun e w' => e = .returned (.int .i64 (hyp xs : Nat)) ∧ Kept No w w' := by
  have HS : Hid (Sv w F a xs.length c xs ∧ Vd xs) := ⟨h, hv⟩
  have hb1 := hv.hyp1
  have hb2 := hv.hyp2
  have hn := hv.num
  clear h hv
  go_enter Tryz.func10, Tryz.ntmps10
  go_wp2
  go_loopw [3, 4] (fun x y wr => ∃ g k : Nat, k ≤ xs.length ∧ x = .int .i64 g ∧ y = .int .i64 k ∧ 1 ≤ g ∧ g ∣ hyp xs ∧ (∀ i, i < k → (gs xs i).p.toNat ∣ g) ∧ Kept No w wr) (fun _ y _ => xs.length - (intOf y).toNat)
  case atStart => exact ⟨1, 0, Nat.zero_le _, rfl, rfl, Nat.le_refl _, Nat.one_dvd _, fun i hi => by omega, Kept.refl _ _⟩
  case round =>
    obtain ⟨g, k, hk, rfl, rfl, hg1, hgd, hgi, hkr⟩ := hrel
    have hgle : g ≤ hyp xs := Nat.le_of_dvd (by omega) hgd
    by_cases hlt : k < xs.length
    · have hltz : (k : Int) < (xs.length : Int) := by omega
      have hx : xs[k]? = some (gs xs k) := by unfold gs; rw [List.getD, List.getElem?_eq_getElem hlt]; rfl
      obtain ⟨hok, b, o, rfl, hb, c0, c1, c2, c3⟩ := (HS.out.1.keep hkr).at' k _ hx
      obtain ⟨hp1, hp2⟩ := HS.out.2.per k hlt
      obtain ⟨P, hP⟩ : ∃ P : Nat, (gs xs k).p = (P : Int) := ⟨(gs xs k).p.toNat, by omega⟩
      have hPd : P ∣ hyp xs := by have := HS.out.2.dvd k hlt; rw [hP] at this; exact this
      have hLd : Nat.lcm g P ∣ hyp xs := Nat.lcm_dvd hgd hPd
      have hL1 : Nat.lcm g P ≤ hyp xs := Nat.le_of_dvd (by omega) hLd
      have hL0 : 0 < Nat.lcm g P := Nat.pos_of_ne_zero (fun e => by rw [e] at hLd; have := Nat.eq_zero_of_zero_dvd hLd; omega)
      have hgL : g ≤ Nat.lcm g P := Nat.le_of_dvd hL0 (Nat.dvd_lcm_left _ _)
      rw [hP] at c0 hp1 hp2
      have HI : Hid ((gs xs k).p.toNat = P ∧ g ∣ hyp xs ∧ (∀ i, i < k → (gs xs i).p.toNat ∣ g) ∧ Kept No w wr ∧ Nat.lcm g P ∣ hyp xs ∧ 0 < Nat.lcm g P ∧ 1 ≤ P) := ⟨by omega, hgd, hgi, hkr, hLd, hL0, by omega⟩
      clear hgd hgi hkr hok hx hb c1 c2 c3 hPd hLd hL0 hP
      generalize hL : Nat.lcm g P = L at *
      have HL : Hid (Nat.lcm g P = L) := hL
      clear hL
      generalize wr = w1 at *
      go_wp2
      go_loopw [5] (fun x wr => ∃ m : Nat, x = .int .i64 m ∧ g ∣ m ∧ 1 ≤ m ∧ m ≤ L ∧ wr = w1) (fun x _ => L - (intOf x).toNat)
      case atStart => exact ⟨g, rfl, Nat.dvd_refl _, hg1, hgL, rfl⟩
      case round =>
        obtain ⟨m, rfl, hm, hm1, hmL, hwr⟩ := hrel
        subst hwr
        have hPz : ¬ ((P : Nat) : Int) = 0 := by omega
        have e0 : Int.tmod (m : Int) (P : Int) = (m : Int) % (P : Int) := Int.tmod_eq_emod_of_nonneg (by omega)
        by_cases hd : P ∣ m
        · have hz : (m : Int) % (P : Int) = 0 := Int.emod_eq_zero_of_dvd (Int.natCast_dvd_natCast.2 hd)
          have hz2 : ((m : Int) % (P : Int) != 0) = false := by simp [hz]
          have HM : Hid (m = L ∧ P ∣ m) := ⟨Nat.le_antisymm hmL (HL.out ▸ Nat.le_of_dvd (by omega) (Nat.lcm_dvd hm hd)), hd⟩
          clear hm hd hmL
          go_wp2
          go_roundw
          case rel =>
            obtain ⟨eP, i1, i2, i3, i4, i5, i6⟩ := HI.out
            refine ⟨m, k + 1, by omega, rfl, by go_num, hm1, ?_, ?_, i3⟩
            · rw [HM.out.1]; exact i4
            · intro i hi
              by_cases e : i = k
              · subst e; rw [eP]; exact HM.out.2
              · refine Nat.dvd_trans (i2 i (by omega)) ?_
                rw [HM.out.1, ← HL.out]
                exact Nat.dvd_lcm_left _ _
          case measure => simp [intOf]; omega
        · have hz : (m : Int) % (P : Int) ≠ 0 := fun e => hd (Int.natCast_dvd_natCast.1 (Int.dvd_of_emod_eq_zero e))
          have hz2 : ((m : Int) % (P : Int) != 0) = true := bne_iff_ne.2 hz
          have hne : m ≠ L := fun e => hd (by rw [e, ← HL.out]; exact Nat.dvd_lcm_right _ _)
          have hst : m + g ≤ L := dvd_step hm (HL.out ▸ Nat.dvd_lcm_left g P) (by omega)
          have HM : Hid (g ∣ m + g) := Nat.dvd_add hm (Nat.dvd_refl _)
          clear hm hd hne
          go_wp2
          go_roundw
          case rel => exact ⟨m + g, by go_num, HM.out, by omega, hst, trivial⟩
          case measure => simp [intOf]; omega
    · have hltz : ¬ (k : Int) < (xs.length : Int) := by omega
      have hke : k = xs.length := by omega
      have HE : Hid (g = hyp xs ∧ Kept No w wr) := ⟨Nat.dvd_antisymm hgd (hyp_least HS.out.2 g hg1 (by omega) (fun i hi => hgi i (by omega))), hkr⟩
      clear hgd hgi hkr hke hk
      go_wp2
      go_ret
      exact ⟨by rw [HE.out.1]; rfl, HE.out.2⟩

set_option maxHeartbeats 2000000 in
theorem sameB_yes {F G : Nat → Prop} {a a2 : Option Addr} {n c c2 : Nat} {xs : List Nat} (w : World) (h : Bs w F a n c xs) (h2 : Bs w G a2 n c2 xs) :
    Calls Tryz.prog 7 #[.slice a n c, .slice a2 n c2] w fun e w' => e = .returned (.bool true) ∧ Kept No w w' := by
  have HS : Hid (Bs w F a n c xs ∧ Bs w G a2 n c2 xs) := ⟨h, h2⟩
  have hcap := h.cap
  have hmax := h.max
  have hcap2 := h2.cap
  have hmax2 := h2.max
  clear h h2
  go_enter Tryz.func7, Tryz.ntmps7
  go_wp2
  go_loopw [5] (fun x wr => ∃ k : Nat, k ≤ n ∧ x = .int .i64 k ∧ Kept No w wr) (fun x _ => n - (intOf x).toNat)
  case atStart => exact ⟨0, Nat.zero_le _, rfl, Kept.refl No w⟩
  case round =>
    obtain ⟨k, hk, rfl, hkr⟩ := hrel
    have HKR : Hid (Kept No w wr) := hkr
    clear hkr
    by_cases hlt : k < n
    · have hltz : (k : Int) < (n : Int) := by omega
      obtain ⟨b, o, rfl, _, e0⟩ := HS.out.1.at' k hlt
      obtain ⟨b2, o2, rfl, _, d0⟩ := HS.out.2.at' k hlt
      have e0' := HKR.out.cell e0 (fun h => h)
      have d0' := HKR.out.cell d0 (fun h => h)
      unfold bv at e0' d0'
      generalize xs.getD k 0 = y0 at *
      clear e0 d0
      go_upto_region 6 with fail
      go_quiet (fail)
      clear e0' d0'
      go_wp2
      go_roundw
      case rel => exact ⟨k + 1, by omega, by go_num, HKR.out.drewN _⟩
      case measure => simp [intOf]; omega
    · have hltz : ¬ (k : Int) < (n : Int) := by omega
      clear hk
      go_wp2
      go_ret
      exact ⟨rfl, HKR.out⟩
end Go.Proofs.YtdlijkofjnjlkaaGreatDoor

namespace Go.Proofs.YtdlijkofjnjlkaaGreatDoor
open Go.RowKit Plain
set_option linter.unusedVariables false
set_option maxRecDepth 100000

theorem enc_yes {P C : List (Int × Int)} (hy : hyF P C ≠ 0) (hl : ¬ encLong P C) : encX P C = sealed 2 (bodyB P C) ∧ encE P C = 0 := by
  unfold encX encE
  rw [if_neg hy, if_neg hy, if_neg hl, if_neg hl]
  exact ⟨rfl, rfl⟩
theorem tE_hyE (xs : List Srv) : hyE xs xs.length = tE xs := by
  unfold hyE tE
  cases timF xs xs.length <;> rfl
theorem t_short {xs : List Srv} (ht : timF xs xs.length = none) : ¬ encLong (zl (tP xs)) (zl (tC xs)) := by
  have := slots_bound ht
  unfold encLong tP tC
  rw [ht]
  simp only [zl_len]
  omega
theorem t_tab {xs : List Srv} (ht : timF xs xs.length = none) : Slt.Tab (zl (tP xs)) (zl (tC xs)) (hyp xs) := by
  have := tab_runs (vd_of ht)
  unfold tP tC
  rw [ht]
  exact this

/-- Encode of a table that goes and is not too long -/
theorem encode_own {F G : Nat → Prop} {a0 a1 : Option Addr} {n0 c0 n1 c1 : Nat} {P C : List (Int × Int)} (w : World) (h : Sl w F a0 n0 c0 P) (hF : ∀ k, F k → k < w.heap.size) (h' : Sl w G a1 n1 c1 C) (hG : ∀ k, G k → k < w.heap.size) (hy : hyF P C ≠ 0) (hl : ¬ encLong P C) :
    Calls Tryz.prog 6 #[.agg #[.slice a0 n0 c0, .slice a1 n1 c1]] w fun e w' => ∃ a c, e = .returned (.tuple #[.slice a (sealed 2 (bodyB P C)).length c, .int .i64 0]) ∧ Bs w' (fun k => k < w'.heap.size) a (sealed 2 (bodyB P C)).length c (sealed 2 (bodyB P C)) ∧ Kept No w w' := by
  have ec := encode_any w h hF h' hG
  obtain ⟨e1, e2⟩ := enc_yes hy hl
  rw [e1, e2] at ec
  refine ec.mono ?_
  rintro e w' ⟨a, c, rfl, ho, hk⟩
  refine ⟨a, c, rfl, ?_, hk⟩
  have hb := Bs.row ho rfl (sealed_lt (by decide) (bodyB_lt P C))
  exact hb.mono (fun k e => (ho.lt k e).2)
theorem valid_own {F G : Nat → Prop} {a0 a1 : Option Addr} {n0 c0 n1 c1 : Nat} {P C : List (Int × Int)} (w : World) (h : Sl w F a0 n0 c0 P) (hF : ∀ k, F k → k < w.heap.size) (h' : Sl w G a1 n1 c1 C) (hG : ∀ k, G k → k < w.heap.size) (hy : hyF P C ≠ 0) :
    Calls Tryz.prog 5 #[.agg #[.slice a0 n0 c0, .slice a1 n1 c1]] w fun e w' => e = .returned (.int .i64 0) ∧ Kept No w w' := by
  have va := valid_any w h hF h' hG
  rw [if_neg hy] at va
  exact va

set_option maxHeartbeats 16000000 in
theorem ttab_law {F G : Nat → Prop} {sa : Option Addr} {sc : Nat} {xs : List Srv} {ba : Option Addr} {bn bc : Nat} {ys : List Nat} (w : World) (hg : Gl w) (h : Sv w F sa xs.length sc xs) (hF : ∀ k, F k → k < w.heap.size) (hb : Bs w G ba bn bc ys) :
    Calls Tryz.prog 3 #[.slice sa xs.length sc, .slice ba bn bc] w fun e w' => e = .returned (.bool true) ∧ Below w.heap.size w w' := by
  have dc := decode_any w hb
  have HS : Hid (Gl w ∧ Sv w F sa xs.length sc xs ∧ (∀ k, F k → k < w.heap.size) ∧ Bs w G ba bn bc ys) := ⟨hg, h, hF, hb⟩
  clear hg h hF hb
  go_enter Tryz.func3, Tryz.ntmps3
  go_upto_region 2 with (go_at_call 4; refine dc.mono ?_; rintro e w1 ⟨⟨E, a0, a1, n0, n1, P, C, rfl, s0, s1, hE⟩, k1⟩; have H1 : Hid (Sl w1 (fun k => w.heap.size ≤ k ∧ k < w1.heap.size) a0 n0 n0 P ∧ Sl w1 (fun k => w.heap.size ≤ k ∧ k < w1.heap.size) a1 n1 n1 C ∧ (E = 0 → hyF P C ≠ 0 ∧ ¬ encLong P C ∧ sealed 2 (bodyB P C) = ys) ∧ Kept No w w1) := ⟨s0, s1, hE, k1⟩; clear s0 s1 hE k1 dc)
  have ka : Kept No w1 (w1.alloc (.cells #[.slice a0 n0 n0, .slice a1 n1 n1] 26)) := (Kept.refl No w1).alloc _
  have hb2 := World.alloc_heap_new w1 (.cells #[.slice a0 n0 n0, .slice a1 n1 n1] 26)
  have H2 : Hid (Sl (w1.alloc (.cells #[.slice a0 n0 n0, .slice a1 n1 n1] 26)) (fun k => w.heap.size ≤ k ∧ k < w1.heap.size) a0 n0 n0 P ∧ Sl (w1.alloc (.cells #[.slice a0 n0 n0, .slice a1 n1 n1] 26)) (fun k => w.heap.size ≤ k ∧ k < w1.heap.size) a1 n1 n1 C ∧ (E = 0 → hyF P C ≠ 0 ∧ ¬ encLong P C ∧ sealed 2 (bodyB P C) = ys) ∧ Kept No w (w1.alloc (.cells #[.slice a0 n0 n0, .slice a1 n1 n1] 26)) ∧ (w1.alloc (.cells #[.slice a0 n0 n0, .slice a1 n1 n1] 26)).heap[w1.heap.size]? = some (.cells #[.slice a0 n0 n0, .slice a1 n1 n1] 26) ∧ w1.heap.size < (w1.alloc (.cells #[.slice a0 n0 n0, .slice a1 n1 n1] 26)).heap.size) := ⟨H1.out.1.keep ka, H1.out.2.1.keep ka, H1.out.2.2.1, H1.out.2.2.2.trans ka (fun _ h => h.elim), hb2, heap_lt hb2⟩
  clear ka hb2 H1
  generalize (w1.alloc (.cells #[.slice a0 n0 n0, .slice a1 n1 n1] 26)) = w2 at *
  generalize w1.heap.size = B1 at *
  go_upto_if 26 with fail
  go_cut [] (fun wx => Kept No w wx)
  case first =>
    by_cases hE : E = 0
    · subst hE
      obtain ⟨y1, y2, y3⟩ := H2.out.2.2.1 rfl
      have hys : ys.length = bn := HS.out.2.2.2.len
      have va := valid_own w2 H2.out.1 (fun k hk => by have := H2.out.2.2.2.2.2; omega) H2.out.2.1 (fun k hk => by have := H2.out.2.2.2.2.2; omega) y1
      have HE2 : Hid (∀ W, Kept No w2 W → Calls Tryz.prog 6 #[.agg #[.slice a0 n0 n0, .slice a1 n1 n1]] W fun e w' => ∃ a c, e = .returned (.tuple #[.slice a bn c, .int .i64 0]) ∧ Bs w' (fun k => k < w'.heap.size) a bn c ys ∧ Kept No w2 w') := fun W k => by
        have := encode_own W (H2.out.1.keep k) (fun j hj => by have := H2.out.2.2.2.2.2; have := k.size; omega) (H2.out.2.1.keep k) (fun j hj => by have := H2.out.2.2.2.2.2; have := k.size; omega) y1 y2
        rw [y3, hys] at this
        exact this.mono (fun e w' ⟨a, c, e1, e2, e3⟩ => ⟨a, c, e1, e2, k.trans e3 (fun _ h => h.elim)⟩)
      obtain ⟨d0, d1⟩ := bx2 H2.out.2.2.2.2.1
      clear y1 y2 y3 hys
      go_wp2_with (first
        | (go_at_call 5; refine va.mono ?_; rintro e w3 ⟨rfl, k3⟩; have H3 : Hid (Kept No w2 w3) := k3; clear k3 va d0 d1; obtain ⟨d0, d1⟩ := bx2 (H3.out.at' H2.out.2.2.2.2.1 (fun h => h)); have ec := HE2.out w3 H3.out)
        | (go_at_call 6; refine ec.mono ?_; rintro e w4 ⟨a4, c4, rfl, b4, k4⟩; have sb := sameB_yes w4 b4 (HS.out.2.2.2.kept (H2.out.2.2.2.1.trans k4 (fun _ h => h.elim)) (fun _ _ h => h)); have H4 : Hid (Kept No w2 w4) := k4; clear k4 b4 ec d0 d1)
        | (go_at_call 7; refine sb.mono ?_; rintro e w5 ⟨rfl, k5⟩; have H5 : Hid (Kept No w2 w5) := H4.out.trans k5 (fun _ h => h.elim); clear k5 sb))
      go_meet
      exact H2.out.2.2.2.1.trans H5.out (fun _ h => h.elim)
    · have hE1 : (E == 0) = false := by simp [hE]
      clear hE
      go_wp2_with fail
      go_meet
      exact H2.out.2.2.2.1
  case rest =>
    rename World => w6
    have H6 : Hid (Kept No w w6) := hcut
    clear hcut H2
    have rh := rHyper_any F sa xs.length sc xs w6 (HS.out.2.1.keep H6.out)
    rw [tE_hyE] at rh
    have HMk : Hid (∀ W, Kept No w W → Calls Tryz.prog 9 #[.slice sa xs.length sc] W fun e w' => ∃ a0 a1, e = .returned (.tuple #[.agg #[.slice a0 (tP xs).length (tP xs).length, .slice a1 (tC xs).length (tC xs).length], .int .i64 (tE xs)]) ∧ Tq w' W.heap.size w'.heap.size a0 (tP xs).length a1 (tC xs).length (tP xs) (tC xs) ∧ Kept No w w') := fun W k => (make_A W (HS.out.1.kept k) (HS.out.2.1.keep k) (fun j hj => Nat.lt_of_lt_of_le (HS.out.2.2.1 j hj) k.size)).mono (fun e w' ⟨a0, a1, e1, e2, e3, e4⟩ => ⟨a0, a1, e1, e2, k.trans e4 (fun _ h => h.elim)⟩)
    have HN : Hid (tE xs = 0 → timF xs xs.length = none) := fun e => by
      unfold tE at e
      cases ht : timF xs xs.length with
      | none => rfl
      | some p => rw [ht] at e; exact (tim_ne ht e).elim
    have HT0 : Hid (tE xs = 0 → Slt.Tab (zl (tP xs)) (zl (tC xs)) (hyp xs) ∧ ¬ encLong (zl (tP xs)) (zl (tC xs)) ∧ hyF (zl (tP xs)) (zl (tC xs)) ≠ 0 ∧ Vd xs) := fun e => ⟨t_tab (HN.out e), t_short (HN.out e), t_valid e, vd_of (HN.out e)⟩
    clear HN
    generalize tP xs = P0 at *
    generalize tC xs = C0 at *
    generalize tE xs = E0 at *
    generalize hyV xs xs.length = V0 at *
    go_upto_region 8 with (go_at_call 8; refine rh.mono ?_; rintro e w7 ⟨rfl, k7⟩; have H7 : Hid (Kept No w w7) := H6.out.trans k7 (fun _ h => h.elim); clear k7 rh)
    have mk := HMk.out w7 H7.out
    go_upto_region 9 with (go_at_call 9; refine mk.mono ?_; rintro e w8 ⟨b0, b1, rfl, t8, k8⟩; have H8 : Hid (Tq w8 w7.heap.size w8.heap.size b0 P0.length b1 C0.length P0 C0 ∧ Kept No w w8) := ⟨t8, k8⟩; clear t8 k8 mk)
    have ka : Kept No w8 (w8.alloc (.cells #[.slice b0 P0.length P0.length, .slice b1 C0.length C0.length] 26)) := (Kept.refl No w8).alloc _
    have hb9 := World.alloc_heap_new w8 (.cells #[.slice b0 P0.length P0.length, .slice b1 C0.length C0.length] 26)
    have H9 : Hid (Tq (w8.alloc (.cells #[.slice b0 P0.length P0.length, .slice b1 C0.length C0.length] 26)) w7.heap.size w8.heap.size b0 P0.length b1 C0.length P0 C0 ∧ Kept No w (w8.alloc (.cells #[.slice b0 P0.length P0.length, .slice b1 C0.length C0.length] 26)) ∧ (w8.alloc (.cells #[.slice b0 P0.length P0.length, .slice b1 C0.length C0.length] 26)).heap[w8.heap.size]? = some (.cells #[.slice b0 P0.length P0.length, .slice b1 C0.length C0.length] 26) ∧ w8.heap.size < (w8.alloc (.cells #[.slice b0 P0.length P0.length, .slice b1 C0.length C0.length] 26)).heap.size) := ⟨H8.out.1.keep ka, H8.out.2.trans ka (fun _ h => h.elim), hb9, heap_lt hb9⟩
    clear ka hb9 H8 HMk
    generalize (w8.alloc (.cells #[.slice b0 P0.length P0.length, .slice b1 C0.length C0.length] 26)) = w9 at *
    generalize w8.heap.size = B9 at *
    by_cases hE0 : E0 = 0
    · subst hE0
      obtain ⟨tb, tl, ty, vd⟩ := HT0.out rfl
      have HTB : Hid (Slt.Tab (zl P0) (zl C0) (hyp xs) ∧ ¬ encLong (zl P0) (zl C0) ∧ hyF (zl P0) (zl C0) ≠ 0) := ⟨tb, tl, ty⟩
      have gh := ghyper_any w9 (HS.out.2.1.keep H9.out.2.1) vd
      obtain ⟨z, hz⟩ : ∃ z : Int, ((hyp xs : Nat) : Int) = z := ⟨_, rfl⟩
      rw [hz] at gh
      have HZ : Hid (((hyp xs : Nat) : Int) = z) := hz
      clear tb tl ty vd HT0 hz
      have HB : Hid (∀ W, Kept No w9 W → W.cell? ⟨B9, 0, none⟩ = some (.slice b0 P0.length P0.length) ∧ W.cell? ⟨B9, 1, none⟩ = some (.slice b1 C0.length C0.length)) := fun W k => bx2 (k.at' H9.out.2.2.1 (fun h => h))
      have HV : Hid (∀ W, Kept No w9 W → Calls Tryz.prog 5 #[.agg #[.slice b0 P0.length P0.length, .slice b1 C0.length C0.length]] W fun e w' => e = .returned (.int .i64 0) ∧ Kept No w9 w') := fun W k => (valid_own W (H9.out.1.keep k).p (fun j hj => by have := H9.out.2.2.2; have := k.size; omega) (H9.out.1.keep k).c (fun j hj => by have := H9.out.2.2.2; have := k.size; omega) HTB.out.2.2).mono (fun e w' ⟨e1, e2⟩ => ⟨e1, k.trans e2 (fun _ h => h.elim)⟩)
      have HC : Hid (∀ W, Kept No w9 W → Calls Tryz.prog 6 #[.agg #[.slice b0 P0.length P0.length, .slice b1 C0.length C0.length]] W fun e w' => ∃ a c, e = .returned (.tuple #[.slice a (sealed 2 (bodyB (zl P0) (zl C0))).length c, .int .i64 0]) ∧ Bs w' (fun k => k < w'.heap.size) a (sealed 2 (bodyB (zl P0) (zl C0))).length c (sealed 2 (bodyB (zl P0) (zl C0))) ∧ Kept No w9 w') := fun W k => (encode_own W (H9.out.1.keep k).p (fun j hj => by have := H9.out.2.2.2; have := k.size; omega) (H9.out.1.keep k).c (fun j hj => by have := H9.out.2.2.2; have := k.size; omega) HTB.out.2.2 HTB.out.2.1).mono (fun e w' ⟨a, c, e1, e2, e3⟩ => ⟨a, c, e1, e2, k.trans e3 (fun _ h => h.elim)⟩)
      have HD : Hid (∀ (a : Option Addr) (c : Nat) (W : World), Kept No w9 W → Bs W (fun k => k < W.heap.size) a (sealed 2 (bodyB (zl P0) (zl C0))).length c (sealed 2 (bodyB (zl P0) (zl C0))) → Calls Tryz.prog 4 #[.slice a (sealed 2 (bodyB (zl P0) (zl C0))).length c] W fun e w' => ∃ a0 a1, e = .returned (.tuple #[.agg #[.slice a0 P0.length P0.length, .slice a1 C0.length C0.length], .int .i64 0]) ∧ Sl w' (fun k => k < w'.heap.size) a0 P0.length P0.length (zl P0) ∧ Sl w' (fun k => k < w'.heap.size) a1 C0.length C0.length (zl C0) ∧ Kept No w9 w') := fun a c W k hbs => by
        have := decode_own W hbs HTB.out.2.2 HTB.out.2.1
        rw [zl_len, zl_len] at this
        exact this.mono (fun e w' ⟨⟨a0, a1, e1, e2, e3⟩, e4⟩ => ⟨a0, a1, e1, e2.mono (fun j hj => hj.2), e3.mono (fun j hj => hj.2), k.trans e4 (fun _ h => h.elim)⟩)
      have HL : Hid (∀ W, Kept No w9 W → Calls Tryz.prog 11 #[.slice b0 P0.length P0.length] W (fun e w' => e = .returned (.int .i64 z) ∧ Kept No W w') ∧ Calls Tryz.prog 11 #[.slice b1 C0.length C0.length] W (fun e w' => e = .returned (.int .i64 z) ∧ Kept No W w')) := fun W k => by
        have t1 := total_any W (H9.out.1.keep k).p HTB.out.1.p
        have t2 := total_any W (H9.out.1.keep k).c HTB.out.1.c
        rw [← zl_len, HTB.out.1.hp, HZ.out, zl_len] at t1
        rw [← zl_len, HTB.out.1.hc, HZ.out, zl_len] at t2
        exact ⟨t1, t2⟩
      have hl9 : (P0.length : Int) ≤ 9223372036854775807 := by have := H9.out.1.p.cap; have := H9.out.1.p.max; omega
      have hl9' : (C0.length : Int) ≤ 9223372036854775807 := by have := H9.out.1.c.cap; have := H9.out.1.c.max; omega
      generalize hX : (sealed 2 (bodyB (zl P0) (zl C0))) = X at *
      clear hX
      go_upto_region 12 with (go_at_call 10; refine gh.mono ?_; rintro e w10 ⟨rfl, k10⟩; have H10 : Hid (Kept No w9 w10) := k10; clear k10 gh)
      obtain ⟨d0, d1⟩ := HB.out w10 H10.out
      have va := HV.out w10 H10.out
      go_upto_region 13 with (go_at_call 5; refine va.mono ?_; rintro e w11 ⟨rfl, k11⟩; have H11 : Hid (Kept No w9 w11) := k11; clear k11 va d0 d1)
      obtain ⟨d0, d1⟩ := HB.out w11 H11.out
      have ec := HC.out w11 H11.out
      go_upto_region 14 with (go_at_call 6; refine ec.mono ?_; rintro e w12 ⟨a12, c12, rfl, b12, k12⟩; have H12 : Hid (Kept No w9 w12) := k12; have dd := HD.out a12 c12 w12 k12 b12; clear k12 b12 ec d0 d1)
      go_upto_region 15 with (go_at_call 4; refine dd.mono ?_; rintro e w13 ⟨r0, r1, rfl, s13, t13, k13⟩; have H13 : Hid (Sl w13 (fun k => k < w13.heap.size) r0 P0.length P0.length (zl P0) ∧ Sl w13 (fun k => k < w13.heap.size) r1 C0.length C0.length (zl C0) ∧ Kept No w9 w13) := ⟨s13, t13, k13⟩; clear s13 t13 k13 dd)
      have ka : Kept No w13 (w13.alloc (.cells #[.slice r0 P0.length P0.length, .slice r1 C0.length C0.length] 26)) := (Kept.refl No w13).alloc _
      have hb14 := World.alloc_heap_new w13 (.cells #[.slice r0 P0.length P0.length, .slice r1 C0.length C0.length] 26)
      have H14 : Hid (Sl (w13.alloc (.cells #[.slice r0 P0.length P0.length, .slice r1 C0.length C0.length] 26)) (fun k => k < w13.heap.size) r0 P0.length P0.length (zl P0) ∧ Sl (w13.alloc (.cells #[.slice r0 P0.length P0.length, .slice r1 C0.length C0.length] 26)) (fun k => k < w13.heap.size) r1 C0.length C0.length (zl C0) ∧ Kept No w9 (w13.alloc (.cells #[.slice r0 P0.length P0.length, .slice r1 C0.length C0.length] 26)) ∧ (w13.alloc (.cells #[.slice r0 P0.length P0.length, .slice r1 C0.length C0.length] 26)).heap[w13.heap.size]? = some (.cells #[.slice r0 P0.length P0.length, .slice r1 C0.length C0.length] 26)) := ⟨H13.out.1.keep ka, H13.out.2.1.keep ka, H13.out.2.2.trans ka (fun _ h => h.elim), hb14⟩
      clear ka hb14 H13 HV HC HD
      generalize (w13.alloc (.cells #[.slice r0 P0.length P0.length, .slice r1 C0.length C0.length] 26)) = w14 at *
      generalize w13.heap.size = B14 at *
      have HM1 : Hid (∀ W, Kept No w14 W → Calls Tryz.prog 12 #[.slice b0 P0.length P0.length, .slice r0 P0.length P0.length] W fun e w' => e = .returned (.bool true) ∧ Kept No W w') := fun W k => same_yes W (H9.out.1.keep (H14.out.2.2.1.trans k (fun _ h => h.elim))).p (H14.out.1.keep k)
      have HM2 : Hid (∀ W, Kept No w14 W → Calls Tryz.prog 12 #[.slice b1 C0.length C0.length, .slice r1 C0.length C0.length] W fun e w' => e = .returned (.bool true) ∧ Kept No W w') := fun W k => same_yes W (H9.out.1.keep (H14.out.2.2.1.trans k (fun _ h => h.elim))).c (H14.out.2.1.keep k)
      have HB2 : Hid (∀ W, Kept No w14 W → (W.cell? ⟨B9, 0, none⟩ = some (.slice b0 P0.length P0.length) ∧ W.cell? ⟨B9, 1, none⟩ = some (.slice b1 C0.length C0.length)) ∧ (W.cell? ⟨B14, 0, none⟩ = some (.slice r0 P0.length P0.length) ∧ W.cell? ⟨B14, 1, none⟩ = some (.slice r1 C0.length C0.length))) := fun W k => ⟨HB.out W (H14.out.2.2.1.trans k (fun _ h => h.elim)), bx2 (k.at' H14.out.2.2.2 (fun h => h))⟩
      have K14 : Hid (Kept No w14 w14) := Kept.refl _ _
      go_upto_region 17 with fail
      obtain ⟨⟨d0, d1⟩, d2, d3⟩ := HB2.out w14 K14.out
      have l1 := (HL.out w14 H14.out.2.2.1).1
      go_wp2_with (first
        | (go_at_call 11; refine l1.mono ?_; rintro e w15 ⟨rfl, k15⟩; have K15 : Hid (Kept No w14 w15) := k15; clear k15 l1 d0 d1 d2 d3; obtain ⟨⟨d0, d1⟩, d2, d3⟩ := HB2.out w15 K15.out; have l2 := (HL.out w15 (H14.out.2.2.1.trans K15.out (fun _ h => h.elim))).2)
        | (go_at_call 11; refine l2.mono ?_; rintro e w16 ⟨rfl, k16⟩; have K16 : Hid (Kept No w14 w16) := K15.out.trans k16 (fun _ h => h.elim); clear k16 l2 d0 d1 d2 d3; obtain ⟨⟨d0, d1⟩, d2, d3⟩ := HB2.out w16 K16.out; have m1 := HM1.out w16 K16.out)
        | (go_at_call 12; refine m1.mono ?_; rintro e w17 ⟨rfl, k17⟩; have K17 : Hid (Kept No w14 w17) := K16.out.trans k17 (fun _ h => h.elim); clear k17 m1 d0 d1 d2 d3; obtain ⟨⟨d0, d1⟩, d2, d3⟩ := HB2.out w17 K17.out; have m2 := HM2.out w17 K17.out)
        | (go_at_call 12; refine m2.mono ?_; rintro e w18 ⟨rfl, k18⟩; have K18 : Hid (Kept No w14 w18) := K17.out.trans k18 (fun _ h => h.elim); clear k18 m2 d0 d1 d2 d3))
      go_ret
      exact ⟨rfl, ((H9.out.2.1.trans H14.out.2.2.1 (fun _ h => h.elim)).trans K18.out (fun _ h => h.elim)).below0⟩
    · have hE1 : (E0 != 0) = true := bne_iff_ne.2 hE0
      clear HT0
      go_wp2_with fail
      go_ret
      exact ⟨rfl, H9.out.2.1.below0⟩
end Go.Proofs.YtdlijkofjnjlkaaGreatDoor
