/-
  One text: KRt.
-/
import Derived.Test.YtibmgpinfdcaoaaGreatDoorG38
namespace Go.Proofs.YtibmgpinfdcaoaaGreatDoor
open Go.RowKit Plain
set_option linter.unusedVariables false
set_option linter.unusedSimpArgs false
set_option maxRecDepth 100000

set_option maxHeartbeats 16000000 in
theorem refShares_rw {F : Nat → Prop} {a : Option Addr} {c : Nat} {xs : List Srv} (w : World) (h : Sv w F a xs.length c xs) (hF : ∀ k, F k → k < w.heap.size) :
    Calls Tryz.prog 8 #[.slice a xs.length c] w fun e w' => ∃ ra rc, e = .returned (.tuple #[.slice ra (sN xs) rc, .int .i64 (sE xs)]) ∧ (Nm w' (fun k => w.heap.size ≤ k ∧ k < w'.heap.size) ra (sN xs) rc (sF xs) ∧ Rw9 w' w.heap.size ra (sN xs) (sF xs)) ∧ Kept No w w' := by
  have hc := rHyper_any F a xs.length c xs w h
  cases ht : timF xs xs.length with
  | some p =>
    obtain ⟨_, _, e1, e2⟩ := uE_some (fr := 0) (be := 0) ht
    rw [e1, e2]
    rw [show hyE xs xs.length = p.1 by unfold hyE; rw [ht]] at hc
    have g0 := tim_neQ ht
    generalize hyV xs xs.length = v at *
    obtain ⟨z, hz⟩ : ∃ z, z = p.1 := ⟨_, rfl⟩
    rw [← hz] at hc g0
    rw [← hz]
    have g1 : (z != 0) = true := by simpa using g0
    clear h ht hz hF e1 e2
    go_enter Tryz.func8, Tryz.ntmps8
    go_wp2_with (go_at_call 20; refine hc.mono ?_; rintro e w1 ⟨rfl, hk1⟩; have HK1 : Hid (Kept No w w1) := hk1; clear hk1 hc)
    go_ret2
    exact ⟨none, 0, rfl, ⟨nm_nil _ _ _, rw9_nil _ _ _⟩, HK1.out⟩
  | none =>
    rw [(tim_yes ht).1, (tim_yes ht).2] at hc
    obtain ⟨e1, e2⟩ := sE_yes ht
    rw [e1, e2]
    have hy := cyU_of ht
    have hv := vd_of ht
    have hn := hv.num
    have hh1 := hv.hyp1
    have hh2 := hv.hyp2
    have hus : ∀ W, Kept No w W → Calls Tryz.prog 6 #[.slice a xs.length c, .int .i64 (hyp xs : Int), .int .i64 ((2 * hyp xs : Nat) : Int)] W fun e w' => ∃ gc rc, e = .returned (.tuple #[.slice (some ⟨gc, 0, none⟩) (xs.length + 1) rc, .int .i64 0]) ∧ xs.length + 1 ≤ rc ∧ rc ≤ 9223372036854775807 ∧ (∀ i, i < xs.length + 1 → w'.cell? ⟨gc, i, none⟩ = some (.int .i64 (cyU xs i))) ∧ Kept No W w' := fun W k => by
      have hsp : spO (hyp xs : Int) ((2 * hyp xs : Nat) : Int) = true := by unfold spO; simp; omega
      obtain ⟨e3, e4⟩ := uE_yes ht hsp
      have hu := refUsed_any (hyp xs : Int) ((2 * hyp xs : Nat) : Int) W (h.keep k) (fun j e => Nat.lt_of_lt_of_le (hF j e) k.size)
      rw [e3, e4] at hu
      refine hu.mono ?_
      rintro e w' ⟨ra, rc, rfl, hnm, kk⟩
      obtain ⟨b, rfl, _, _⟩ := hnm.at' 0 (by omega)
      refine ⟨b, rc, rfl, hnm.cap, hnm.max, fun i hi => ?_, kk⟩
      obtain ⟨b', e', _, hcl⟩ := hnm.at' i hi
      injection e' with e'; injection e' with e' _ _; subst e'
      have e5 : uF xs (hyp xs : Int) ((2 * hyp xs : Nat) : Int) = cyU xs := by unfold uF cyU; rw [Int.toNat_natCast, Int.toNat_natCast]
      rw [e5] at hcl
      exact hcl
    have HUS := hid hus
    have HSF : Hid (∀ i, sF xs i = loS (cyU xs) (hyp xs) i + if gvn (rmK (cyU xs) (hyp xs)) (xs.length + 1) (sL xs) i = true then 1 else 0) := fun i => rfl
    have hcap := h.cap
    have hmax := h.max
    have hbd := hy.bd
    have hL := hy.L
    have hL2 := hy.Ln
    generalize sF xs = sf at *
    generalize cyU xs = f at *
    generalize sL xs = L at *
    obtain ⟨n, hnn⟩ : ∃ n, n = xs.length + 1 := ⟨_, rfl⟩
    rw [← hnn] at hbd hL hL2 HUS HSF
    rw [← hnn]
    generalize hyp xs = H at *
    have HB : Hid (1 ≤ n ∧ n ≤ 33 ∧ 1 ≤ H ∧ H ≤ 1048576 ∧ L ≤ n) := ⟨by omega, by omega, hh1, hh2, hL2⟩
    have HF := hid hbd
    have HLF := hid hL
    have hH3 : (H : Int) ≤ 1048576 := by omega
    have e6 : (2 : Int) * (H : Int) = ((2 * H : Nat) : Int) := by omega
    have hH0 : (0 : Int) ≤ (H : Int) := by omega
    obtain ⟨i0, hi, hi0, hi1, hi2⟩ := info_parts Tryz.infoI
    clear h hF ht hus hy hv hn hh1 hh2 hbd hL hL2 hnn e1 e2
    go_enter Tryz.func8, Tryz.ntmps8
    go_upto_region 4 with (go_at_call 20; refine hc.mono ?_; rintro e w1 ⟨rfl, hk1⟩; have HK1 : Hid (Kept No w w1) := hk1; clear hk1 hc)
    have hus := HUS.out w1 HK1.out
    rw [← e6] at hus
    clear e6
    go_upto_region 5 with (go_at_call 6; refine hus.mono ?_; rintro e w2 ⟨gc, rc, rfl, q0, q1, q2, q3⟩; have H2 := hid (And.intro q2 (HK1.out.trans q3 (fun _ h => h.elim))); have hrc := q0; have hrc2 := q1; clear hus q0 q1 q2 q3)
    have hrcz : (n : Int) ≤ (rc : Int) := by omega
    go_wp2
    go_loopw [8, 9, 10] (fun v y z wr => ∃ k : Nat, k ≤ n ∧ z = .int .i64 k ∧ y = .int .i64 (lfS f H k) ∧ wr.ownsRow w2.heap.size 3 1 v k (ncL (loS f H) k) ∧ Kept No w2 wr) (fun _ _ z _ => n - (intOf z).toNat)
    case atStart => exact ⟨0, Nat.zero_le _, rfl, rfl, ⟨rfl, .inl ⟨rfl, rfl⟩⟩, Kept.refl _ _⟩
    case round =>
      obtain ⟨k, hk, rfl, rfl, ho, hkr⟩ := hrel
      have HW := hid (And.intro ho hkr)
      clear ho hkr
      have hn3 : (n : Int) ≤ 33 := by have := HB.out; omega
      by_cases hlt : k < n
      · have hkn : (k : Int) < (n : Int) := by omega
        have d0 : wr.cell? ⟨gc, k, none⟩ = some (.int .i64 (f k)) := HW.out.2.cell (H2.out.1 k hlt) (fun h => h)
        have hfk := HF.out k hlt
        have HV : Hid (loS f H k = (f k * 1000000) / H) := rfl
        have HLK : Hid (lfS f H (k + 1) = lfS f H k - loS f H k) := rfl
        have hap : ncL (loS f H) k ++ [.int .i64 (loS f H k)] = ncL (loS f H) (k + 1) := (ncL_succ _ _).symm
        have HAP := hid hap
        have hlf := lfS_bd (f := f) (H := (H : Int)) (by have := HB.out; omega) k (fun i hi => HF.out i (by omega))
        have hlo : 0 ≤ loS f H k ∧ loS f H k ≤ 1000000 := ⟨(loS_bd (by have := HB.out; omega) (by omega)).1, loS_le (by have := HB.out; omega) hfk⟩
        obtain ⟨x, hx⟩ : ∃ x, x = f k := ⟨_, rfl⟩
        rw [← hx] at d0 hfk HV
        have hH4 : ¬ (H : Int) = 0 := by have := HB.out; omega
        have e3 : Int.tdiv (x * 1000000) H = loS f H k := by
          rw [HV.out]; exact Int.tdiv_eq_ediv_of_nonneg (by omega)
        obtain ⟨lo, hlq⟩ : ∃ lo, lo = loS f H k := ⟨_, rfl⟩
        rw [← hlq] at e3 hlo HAP HLK
        have HLO := hid hlq
        obtain ⟨lf, hlfq⟩ : ∃ lf, lf = lfS f H k := ⟨_, rfl⟩
        rw [← hlfq] at hlf HLK ⊢
        have HLT := hid (And.intro hlt hk)
        clear hap hx hlq hlfq hk
        go_upto_region 11 with (at_builtin; refine wpList_append_own _ rfl _ _ 25 rfl w2.heap.size 3 i0 (.int .i64 0) 1 8 Tryz.underlying25 hi hi0 hi1 hi2 rfl (by decide) u8 k (ncL (loS f H) k) rfl (HW.out.1.alloc _) ⟨wr.heap.size, 0, none⟩ 1 1 [.int .i64 lo] rfl rfl (cell_one_new _ _ _) (one_one _ _) (by unfold maxLen; omega) (by omega) (by have := HW.out.2.size; simp; omega) ?_; intro v4 w4 own4 grow4 _)
        have hkg : Kept No w2 w4 := (HW.out.2.alloc _).grown grow4 (fun j e => .inr (HW.out.1.lt j e).1)
        rw [HAP.out] at own4
        have HO4 := hid (And.intro own4 hkg)
        rcases owns_cells own4 with ⟨_, h0⟩ | ⟨g, cap, rfl, g1, g2, g3, g4, g5, g6⟩
        · omega
        have c0 := g5 k _ (ncL_get _ (show k < k + 1 by omega))
        rw [← HLO.out] at c0
        have hg3 : (k : Int) + 1 ≤ (cap : Int) := by omega
        clear g5 g6 own4 grow4 hkg HW d0
        go_wp2
        go_roundw
        case rel => exact ⟨k + 1, by have := HLT.out; omega, by go_num, by rw [HLK.out], HO4.out⟩
        case measure => have := HLT.out; simp [intOf]; omega
      · obtain rfl : k = n := by omega
        have hkn : ¬ (k : Int) < (k : Int) := by omega
        rcases owns_cells HW.out.1 with ⟨_, h0⟩ | ⟨g, cap, rfl, g1, g2, g3, g4, g5, g6⟩
        · have := HB.out; omega
        rw [HLF.out]
        obtain ⟨w4, hm, hbw, hk4⟩ := make_bools wr k (by have := HB.out; omega)
        obtain ⟨gB, hgB⟩ : ∃ gB, gB = wr.heap.size := ⟨_, rfl⟩
        rw [← hgB] at hm hbw
        have hne : g ≠ gB := by omega
        have HX : Hid (Bw w4 gB k (gvn (rmK f H) k 0) ∧ w4.ownsRow w2.heap.size 3 1 (.slice (some ⟨g, 0, none⟩) k cap) k (ncL (fun i => loS f H i + if gvn (rmK f H) k 0 i = true then 1 else 0) k) ∧ Kept No w2 w4) := by
          refine ⟨hbw.congr (fun j hj => rfl), ?_, HW.out.2.trans hk4 (fun _ h => h.elim)⟩
          have := hk4.owns HW.out.1 (fun _ _ h => h)
          rw [ncL_congr (f := loS f H) (g := fun i => loS f H i + if gvn (rmK f H) k 0 i = true then 1 else 0) (fun i hi => by simp [gvn])] at this
          exact this
        have HGG := hid (And.intro hne (And.intro g1 (show w2.heap.size ≤ gB by have := HW.out.2.size; omega)))
        have hcapz : (k : Int) ≤ (cap : Int) := by omega
        have hL0 : (0 : Int) ≤ (L : Int) := by omega
        have hLn : (L : Int) ≤ 33 := by have := HB.out; omega
        clear hbw hk4 hgB hne g1 g2 g5 g6 HW hk hlt
        go_upto_region 13 with fail
        clear hm
        have HC4 : Hid (∀ i, i < k → w4.cell? ⟨gc, i, none⟩ = some (.int .i64 (f i))) := fun i hi => HX.out.2.2.cell (H2.out.1 i hi) (fun h => h)
        have HLT : Hid (∀ i, i < k → gc < w2.heap.size) := fun i hi => by
          have := H2.out.1 i hi
          exact World.block_lt_of_cell? w2 _ this
        go_wp2
        go_loopw [9, 12, 13] (fun x9 y z wr => ∃ r : Nat, r ≤ L ∧ x9 = .int .i64 ((L : Int) - r) ∧ Bw wr gB k (gvn (rmK f H) k r) ∧ wr.ownsRow w2.heap.size 3 1 (.slice (some ⟨g, 0, none⟩) k cap) k (ncL (fun i => loS f H i + if gvn (rmK f H) k r i = true then 1 else 0) k) ∧ Kept (fun j => j = g ∨ j = gB) w4 wr) (fun x9 _ _ _ => (intOf x9).toNat)
        case atStart => exact ⟨0, Nat.zero_le _, by simp, HX.out.1, HX.out.2.1, Kept.refl _ _⟩
        case round =>
          obtain ⟨r, hr, rfl, hbw, hown, hkr⟩ := hrel
          have HR := hid (And.intro hbw (And.intro hown hkr))
          have hcells : ∀ i, i < k → wr.cell? ⟨gc, i, none⟩ = some (.int .i64 (f i)) := fun i hi => hkr.cell (HC4.out i hi) (fun e => by have e' : gc = g ∨ gc = gB := e; have := HLT.out i hi; have := HGG.out; omega)
          have HCL := hid hcells
          clear hbw hown hkr hcells
          by_cases hrl : r < L
          · have hrz : 0 < (L : Int) - (r : Int) := by omega
            have hrk : r < k := by have := HB.out; omega
            have HRL := hid (And.intro hrl hrk)
            have hkz : (k : Int) ≤ 33 := by have := HB.out; omega
            clear hr
            generalize wr = wo at *
            go_wp2
            go_loopw [12, 13] (fun y z wr => ∃ i : Nat, i ≤ k ∧ z = .int .i64 i ∧ y = .int .i64 (bsZ (rmK f H) (gvn (rmK f H) k r) i) ∧ Kept No wo wr) (fun _ z _ => k - (intOf z).toNat)
            case atStart => exact ⟨0, Nat.zero_le _, rfl, rfl, Kept.refl _ _⟩
            case round =>
              obtain ⟨i, hi', rfl, rfl, hki⟩ := hrel
              by_cases hik : i < k
              · have hikz : (i : Int) < (k : Int) := by omega
                have HKI := hid hki
                have HIK := hid hik
                have cg := hki.cell (HR.out.1.at' i hik) (fun h => h)
                obtain ⟨K, hK⟩ : ∃ K, K = rmK f H := ⟨_, rfl⟩
                obtain ⟨G, hG⟩ : ∃ G, G = gvn K k r := ⟨_, rfl⟩
                have HKK := hid hK
                rw [← hK, ← hG] at cg ⊢
                have HG : Hid (gvn (rmK f H) k r = G) := by show _ = _; rw [← hK, ← hG]
                clear hki hi'
                cases hg : G i with
                | true =>
                  rw [hg] at cg
                  have HS := hid (bsZ_given (K := K) hg)
                  have hbz := bsZ_bd K G i
                  generalize bsZ K G i = bz at *
                  clear hK hG hg
                  go_upto_region 18 with fail
                  go_quiet (fail)
                  clear cg
                  go_wp2
                  go_roundw
                  case rel => exact ⟨i + 1, by have := HIK.out; omega, by go_num, by rw [HS.out], HKI.out.drewN _⟩
                  case measure => simp [intOf]; omega
                | false =>
                  rw [hg] at cg
                  have ci := HKI.out.cell (HCL.out i hik) (fun h => h)
                  by_cases hb : bsZ K G i < 0
                  · have HS := hid (bsZ_first hg hb)
                    have gb : decide (bsZ K G i < 0) = true := decide_eq_true hb
                    generalize bsZ K G i = bz at *
                    clear hK hG hg ci hb
                    go_upto_region 18 with fail
                    go_quiet (fail)
                    clear cg gb
                    go_wp2
                    go_roundw
                    case rel => exact ⟨i + 1, by have := HIK.out; omega, by go_num, by rw [HS.out], HKI.out.drewN _⟩
                    case measure => simp [intOf]; omega
                  · obtain ⟨b, hbe, hbz, hbi, hgb⟩ := bsZ_some hb
                    have gb : decide ((b : Int) < 0) = false := decide_eq_false (by omega)
                    have hbk : (b : Int) < (k : Int) := by omega
                    have hbn : b < k := by omega
                    have cb := HKI.out.cell (HCL.out b hbn) (fun h => h)
                    have fi := HF.out i hik
                    have fb := HF.out b hbn
                    have kI : K i = f i * 1000000 % (H : Int) := by rw [HKK.out]; rfl
                    have kB : K b = f b * 1000000 % (H : Int) := by rw [HKK.out]; rfl
                    have HM := hid (fun hk => bsZ_more hg hbe hk)
                    have HN := hid (fun hk => bsZ_less hbe hk)
                    obtain ⟨xi, hxi⟩ : ∃ x, x = f i := ⟨_, rfl⟩
                    obtain ⟨xb, hxb⟩ : ∃ x, x = f b := ⟨_, rfl⟩
                    rw [← hxi] at ci fi kI
                    rw [← hxb] at cb fb kB
                    have wi : wrap64 (xi * 1000000) = xi * 1000000 := by unfold wrap64; omega
                    have wb : wrap64 (xb * 1000000) = xb * 1000000 := by unfold wrap64; omega
                    have hH4 : ¬ (H : Int) = 0 := by have := HB.out; omega
                    rw [hbz]
                    clear hbe hbz hbi hgb hxi hxb hb hg hK hG
                    generalize K i = ki at *
                    generalize K b = kb at *
                    by_cases hk : kb < ki
                    · have gk : xb * 1000000 % (H : Int) < xi * 1000000 % (H : Int) := by rw [← kI, ← kB]; exact hk
                      have HS := hid (HM.out hk)
                      clear hk kI kB
                      go_upto_region 18 with fail
                      go_quiet (fail)
                      clear cg ci cb gb
                      go_wp2
                      go_roundw
                      case rel => exact ⟨i + 1, by have := HIK.out; omega, by go_num, by rw [HS.out], HKI.out.drewN _⟩
                      case measure => simp [intOf]; omega
                    · have gk : ¬ xb * 1000000 % (H : Int) < xi * 1000000 % (H : Int) := by rw [← kI, ← kB]; exact hk
                      have HS := hid (HN.out hk)
                      clear hk kI kB
                      go_upto_region 18 with fail
                      go_quiet (fail)
                      clear cg ci cb gb
                      go_wp2
                      go_roundw
                      case rel => exact ⟨i + 1, by have := HIK.out; omega, by go_num, by rw [HS.out], HKI.out.drewN _⟩
                      case measure => simp [intOf]; omega
              · obtain rfl : i = k := by omega
                have hikz : ¬ (i : Int) < (i : Int) := by omega
                obtain ⟨b, hb1, hb2, hb3, _⟩ := gvn_bst (K := rmK f H) HRL.out.2
                have hbz : bsZ (rmK f H) (gvn (rmK f H) i r) i = (b : Int) := by unfold bsZ; rw [hb1]
                rw [hbz]
                have hbk : (b : Int) < (i : Int) := by omega
                have HR2 : Hid (Bw wr gB i (gvn (rmK f H) i r) ∧ wr.ownsRow w2.heap.size 3 1 (.slice (some ⟨g, 0, none⟩) i cap) i (ncL (fun j => loS f H j + if gvn (rmK f H) i r j = true then 1 else 0) i) ∧ Kept (fun j => j = g ∨ j = gB) w4 wr) := ⟨HR.out.1.kept hki (fun h => h), hki.owns HR.out.2.1 (fun _ _ h => h), HR.out.2.2.trans hki (fun _ h => h.elim)⟩
                have HGN : Hid (∀ j, gvn (rmK f H) i (r + 1) j = (gvn (rmK f H) i r j || decide (b = j))) := fun j => by
                  rw [gvn, hb1]
                  congr 1
                  simp
                have c1 := HR2.out.1.at' b hb2
                have z1 := HR2.out.1.fz b
                have own := HR2.out.2.1
                have z2 := own.frozenAt b
                rcases owns_cells own with ⟨_, h0⟩ | ⟨g', cap', e', g1, g2, g3, g4, g5, g6⟩
                · omega
                simp only [Value.slice.injEq, Option.some.injEq, Addr.mk.injEq, and_true, true_and] at e'
                obtain ⟨rfl, rfl⟩ := e'
                have c2 := g5 b _ (ncL_get _ hb2)
                rw [hb3] at c2
                have hlo : 0 ≤ loS f H b ∧ loS f H b ≤ 1000000 := ⟨(loS_bd (f := f) (H := (H : Int)) (i := b) (by have := HB.out; omega) (by have := HF.out b hb2; have := HB.out; omega)).1, loS_le (f := f) (H := (H : Int)) (by have := HB.out; omega) (HF.out b hb2)⟩
                have e0 : (if false = true then (1 : Int) else 0) = 0 := rfl
                rw [e0, Int.add_zero] at c2
                obtain ⟨v, hv⟩ : ∃ v, v = loS f H b := ⟨_, rfl⟩
                rw [← hv] at c2 hlo
                have k1 : Kept (fun j => j = gB) wr (wr.setCell ⟨gB, b, none⟩ (.bool true)) := Kept.setCell (F := fun j => j = gB) (p := ⟨gB, b, none⟩) (Kept.refl _ _) (.inl rfl) _
                have own1 := k1.owns own (fun q hq e => by injection hq with hq; have hq' : g = q := hq; have := HGG.out.1; have e' : q = gB := e; omega)
                have c3 : (wr.setCell ⟨gB, b, none⟩ (.bool true)).cell? ⟨g, b, none⟩ = some (.int .i64 v) := k1.cell c2 (fun e => HGG.out.1 e)
                have z3 : (wr.setCell ⟨gB, b, none⟩ (.bool true)).frozen? ⟨g, b, none⟩ = false := own1.frozenAt b
                have st := own1.stored b (.int .i64 (v + 1))
                rw [ncL_set] at st
                have HN : Hid (Bw ((wr.setCell ⟨gB, b, none⟩ (.bool true)).setCell ⟨g, b, none⟩ (.int .i64 (v + 1))) gB i (gvn (rmK f H) i (r + 1)) ∧ ((wr.setCell ⟨gB, b, none⟩ (.bool true)).setCell ⟨g, b, none⟩ (.int .i64 (v + 1))).ownsRow w2.heap.size 3 1 (.slice (some ⟨g, 0, none⟩) i cap) i (ncL (fun j => loS f H j + if gvn (rmK f H) i (r + 1) j = true then 1 else 0) i) ∧ Kept (fun j => j = g ∨ j = gB) w4 ((wr.setCell ⟨gB, b, none⟩ (.bool true)).setCell ⟨g, b, none⟩ (.int .i64 (v + 1)))) := by
                  have k2 : Kept (fun j => j = g) (wr.setCell ⟨gB, b, none⟩ (.bool true)) ((wr.setCell ⟨gB, b, none⟩ (.bool true)).setCell ⟨g, b, none⟩ (.int .i64 (v + 1))) := Kept.setCell (F := fun j => j = g) (p := ⟨g, b, none⟩) (Kept.refl _ _) (.inl rfl) _
                  refine ⟨((HR2.out.1.set b true).kept k2 (fun e => HGG.out.1 e.symm)).congr (fun j hj => ?_), ?_, (HR2.out.2.2.trans k1 (fun j e => .inl (.inr e))).trans k2 (fun j e => .inl (.inl e))⟩
                  · rw [HGN.out]
                    by_cases e : j = b
                    · rw [if_pos e, e]; simp
                    · rw [if_neg e]; have : ¬ b = j := fun h => e h.symm
                      simp [this]
                  · rw [ncL_congr (g := fun j => loS f H j + if gvn (rmK f H) i (r + 1) j = true then 1 else 0) (fun j hj => ?_)] at st
                    · exact st.1
                    · rw [HGN.out]
                      unfold upI
                      by_cases e : j = b
                      · rw [if_pos e, e, hb3, hv]; simp
                      · rw [if_neg e]; have : ¬ b = j := fun h => e h.symm
                        simp [this]
                have hcz : (i : Int) ≤ (cap : Int) := by omega
                clear g5 g6 own st own1 k1 c2 HGN HR2 hki hv hbz hb1 hb3 HR HCL hi' hik e0
                go_wp2
                go_roundw
                case rel => exact ⟨r + 1, by have := HRL.out; omega, by congr 1; omega, HN.out⟩
                case measure => have := HRL.out; simp [intOf]; omega
          · obtain rfl : r = L := by omega
            have hrz : ¬ (0 : Int) < (r : Int) - (r : Int) := by omega
            have hf := ncL_congr (f := fun i => loS f H i + if gvn (rmK f H) k r i = true then 1 else 0) (g := sf) (n := k) (fun i hi => (HSF.out i).symm)
            have own := HR.out.2.1
            rw [hf] at own
            obtain ⟨ra, rc', e', hnm⟩ := Nm.of2 own
            injection e' with e1 _ e2
            subst e1 e2
            have HFI := hid (And.intro hnm HR.out.2.2)
            clear own hnm hf HR HCL hr hrl
            rw [show ((r : Int) - (r : Int)) = 0 by omega]
            have h00 : ¬ (0 : Int) < 0 := by omega
            go_wp2
            go_ret2
            exact ⟨_, _, rfl, ⟨HFI.out.1.1.mono (fun b hb => ⟨by have := H2.out.2.size; omega, hb.2⟩), HFI.out.1.2.low H2.out.2.size⟩, (H2.out.2.trans HX.out.2.2 (fun _ h => h.elim)).trans HFI.out.2 (fun j e => .inr (by have e' : j = g ∨ j = gB := e; have := H2.out.2.size; have := HGG.out; omega))⟩
theorem refShares_any {F : Nat → Prop} {a : Option Addr} {c : Nat} {xs : List Srv} (w : World) (h : Sv w F a xs.length c xs) (hF : ∀ k, F k → k < w.heap.size) :
    Calls Tryz.prog 8 #[.slice a xs.length c] w fun e w' => ∃ ra rc, e = .returned (.tuple #[.slice ra (sN xs) rc, .int .i64 (sE xs)]) ∧ Nm w' (fun k => w.heap.size ≤ k ∧ k < w'.heap.size) ra (sN xs) rc (sF xs) ∧ Kept No w w' := by
  refine (refShares_rw w h hF).mono ?_
  rintro e w' ⟨ra, rc, rfl, h1, k⟩
  exact ⟨ra, rc, rfl, h1.1, k⟩
end Go.Proofs.YtibmgpinfdcaoaaGreatDoor
