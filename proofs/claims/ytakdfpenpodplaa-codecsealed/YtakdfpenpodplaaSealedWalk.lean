/-
  The walk of CodecSealed.
-/
import Derived.Test.YtakdfpenpodplaaSealPlain
import Derived.Test.YtakdfpenpodplaaWorks
import Derived.Deep.DeepCutAuto
namespace Go.Proofs.Ytakdfpenpodplaa
open Go.RowKit
set_option linter.unusedVariables false

theorem Bs.put {w : World} {g cap i y : Nat} {xs : List Nat} (h : ∀ i u, (xs.map bv)[i]? = some u → w.cell? ⟨g, i, none⟩ = some u) (hi : i < xs.length) (hcap : xs.length ≤ cap) (hmax : cap ≤ 9223372036854775807) (hlt : ∀ x ∈ xs, x < 256) (hy : y < 256) :
    Bs ((w.setCell ⟨g, i, none⟩ (.int .u8 (y : Nat))).drew) (fun k => k = g) (some ⟨g, 0, none⟩) xs.length cap (xs.set i y) := by
  refine ⟨by rw [List.length_set], hcap, hmax, fun h => (by cases h), fun j hj => ⟨g, 0, rfl, rfl, ?_⟩, fun x hx => ?_⟩
  · show (w.setCell ⟨g, i, none⟩ (.int .u8 (y : Nat))).cell? _ = _
    rw [Nat.zero_add]
    by_cases hji : j = i
    · subst hji
      rw [World.cell?_setCell_same _ _ _ (h j _ (bv_get hj))]
      simp [List.getD, hj, bv]
    · rw [World.cell?_setCell_other _ _ _ _ (fun h => by injection h; omega), h j _ (bv_get hj)]
      simp [List.getD, Ne.symm hji]
  · rcases List.mem_or_eq_of_mem_set hx with h1 | h1
    · exact hlt x h1
    · rw [h1]; exact hy

theorem xor_pow (x R : Nat) (hx : x < 256) (hR : R < 8) : bits .xor .u8 (x : Int) (2 ^ R % 256) = ((x ^^^ 2 ^ R : Nat) : Int) ∧ x ^^^ 2 ^ R < 256 ∧ x ^^^ 2 ^ R ≠ x := by
  have hp : (2 : Nat) ^ R < 256 := Nat.lt_of_lt_of_le (Nat.pow_lt_pow_right (by decide) hR) (by decide)
  have e : ((2 : Int) ^ R % 256) = ((2 ^ R : Nat) : Int) := by
    have h1 : ((2 ^ R : Nat) : Int) = (2 : Int) ^ R := by simp
    rw [← h1]; exact Int.emod_eq_of_lt (Int.natCast_nonneg _) (Int.ofNat_lt.2 hp)
  refine ⟨by rw [e]; exact u8_xor_nat x (2 ^ R) hx hp, Nat.xor_lt_two_pow (n := 8) hx hp, fun h => ?_⟩
  have h0 : x ^^^ 2 ^ R = x ^^^ 0 := by rw [h, Nat.xor_zero]
  have := xor_lc h0
  have h2 := Nat.two_pow_pos R
  omega

set_option maxRecDepth 100000 in
set_option maxHeartbeats 4000000 in
theorem codecSealed_walk (G G' : Nat → Prop) (kind other : Nat) (bit cut : Int) (a a' : Option Addr) (n c n' c' : Nat) (xs ys : List Nat) (w : World) (hk : kind < 256) (ho : other < 256) (hb : Bs w G a n c xs) (hm : Bs w G' a' n' c' ys) (hn' : n' ≤ 140737488355328) :
    Calls Try.prog 3 #[.int .u8 kind, .slice a n c, .int .i64 bit, .int .i64 cut, .slice a' n' c', .int .u8 other] w fun e w' => e = .returned (.bool true) ∧ Below w.heap.size w w' := by
  obtain ⟨i0, hi, hz0, hz1, hz2⟩ := info_parts Try.info5
  have hl := hb.len
  have hl' := hm.len
  have c9 := seal_any G kind a n c xs w hk hb
  have HB : Hid (Bs w G a n c xs) := hb
  have HM : Hid (Bs w G' a' n' c' ys) := hm
  clear hb hm
  by_cases hn : 4194304 < n
  · rw [show sealX kind xs = [] from if_pos (by omega), show sealE xs = 1 from if_pos (by omega)] at c9
    go_enter Try.func3, Try.ntmps3
    go_upto_region 2 with (go_at_call 9; refine c9.mono ?_; rintro ex w1 ⟨a1, n1, k1, rfl, own1, bel1⟩)
    obtain ⟨g1, m1, hv1, _⟩ := Bs.of_owns own1 (by intro x hx; cases hx)
    obtain ⟨rfl, rfl, rfl⟩ : a1 = g1 ∧ n1 = 0 ∧ k1 = m1 := by injection hv1 with h1 h2 h3; exact ⟨h1, h2, h3⟩
    have c10 := works_any w1
    clear c9 own1 hv1
    go_wp2_with (go_at_call 10; refine c10.mono ?_; rintro ex w2 ⟨rfl, bel2⟩)
    go_ret
    exact ⟨rfl, bel1.trans (bel2.mono bel1.size)⟩
  · rw [show sealX kind xs = sealed kind xs from if_neg (by omega), show sealE xs = 0 from if_neg (by omega)] at c9
    have HSLT : Hid (∀ x ∈ sealed kind xs, x < 256) := sealed_lt hk HB.out.lt
    have HSL : Hid ((sealed kind xs).length = n + 12) := (sealed_length kind xs).trans (by rw [hl])
    have HYES : Hid (unsE kind (sealed kind xs) = 0 ∧ unsX kind (sealed kind xs) = xs) := unsE_yes kind xs (by omega)
    have HL : Hid (xs.length = n) := hl
    have HL' : Hid (ys.length = n') := hl'
    clear hl hl'
    go_enter Try.func3, Try.ntmps3
    go_upto_region 4 with (go_at_call 9; refine c9.mono ?_; rintro ex w1 ⟨a1, n1, k1, rfl, own1, bel1⟩)
    obtain ⟨g1, m1, hv1, hS1⟩ := Bs.of_owns own1 HSLT.out
    obtain ⟨rfl, rfl, rfl⟩ : a1 = g1 ∧ n1 = (sealed kind xs).length ∧ k1 = m1 := by injection hv1 with h1 h2 h3; exact ⟨h1, h2, h3⟩
    rw [HSL.out] at hS1
    obtain ⟨sb, so, rfl, _, _⟩ := hS1.at' 0 (by omega)
    have c11 := unseal_any _ kind _ (n + 12) k1 (sealed kind xs) w1 hk hS1
    rw [HYES.out.1, HYES.out.2] at c11
    obtain ⟨Fs, HS1⟩ : ∃ Fs, Hid (Bs w1 Fs (some ⟨sb, so, none⟩) (n + 12) k1 (sealed kind xs)) := ⟨_, hS1⟩
    clear c9 own1 hv1 hS1
    rw [HSL.out]
    go_upto_region 5 with (go_at_call 11; refine c11.mono ?_; rintro ex w2 ⟨a2, n2, k2, rfl, own2, bel2⟩)
    obtain ⟨g2, m2, hv2, hS2⟩ := Bs.of_owns own2 HB.out.lt
    obtain ⟨rfl, rfl, rfl⟩ : a2 = g2 ∧ n2 = xs.length ∧ k2 = m2 := by injection hv2 with h1 h2 h3; exact ⟨h1, h2, h3⟩
    have c12 := same_any _ _ a2 a xs.length n k2 c xs xs w2 hS2 (HB.out.below (bel1.trans (bel2.mono bel1.size)))
    rw [decide_eq_true rfl, HL.out] at c12
    rw [HL.out]
    clear c11 own2 hv2 hS2
    go_upto_if 71 with (go_at_call 12; refine c12.mono ?_; rintro ex w3 ⟨rfl, nd3, rfl⟩)
    obtain ⟨W3, hW3⟩ : ∃ W3, W3 = w2.drewN nd3 := ⟨_, rfl⟩
    have HS3 : Hid (Bs W3 Fs (some ⟨sb, so, none⟩) (n + 12) k1 (sealed kind xs)) := by rw [hW3]; exact (HS1.out.below bel2).drewN _
    have BEL3 : Hid (Below w.heap.size w W3) := by rw [hW3]; exact below_drewN (bel1.trans (bel2.mono bel1.size)) _
    rw [← hW3]
    clear c12 bel1 bel2 HS1 hW3
    go_upto_region 7 with fail
    go_cut [80] (fun s wc => s = .bool (decide (0 ≤ bit ∧ bit < 8 * ((n : Int) + 12))) ∧ wc = W3)
    case first =>
      have hnn : n ≤ 4194304 := by omega
      by_cases hb0 : 0 ≤ bit
      · have e1 : decide (0 ≤ bit ∧ bit < 8 * ((n : Int) + 12)) = decide (bit < 8 * ((n : Int) + 12)) := by simp [hb0]
        have E1 : Hid (decide (0 ≤ bit ∧ bit < 8 * ((n : Int) + 12)) = decide (bit < 8 * ((n : Int) + 12))) := e1
        clear e1
        go_wp2
        go_meet
        case rel => exact ⟨by rw [E1.out], rfl⟩
      · have e1 : decide (0 ≤ bit ∧ bit < 8 * ((n : Int) + 12)) = false := by simp; omega
        have E1 : Hid (decide (0 ≤ bit ∧ bit < 8 * ((n : Int) + 12)) = false) := e1
        clear e1
        go_wp2
        go_meet
        case rel => exact ⟨by rw [E1.out], rfl⟩
    case rest =>
      obtain ⟨rfl, hw⟩ := hcut
      obtain rfl := hw.symm
      go_upto_if 80 with fail
      go_cut [17] (fun _ wc => Below W3.heap.size W3 wc)
      case first =>
        cases hq : decide (0 ≤ bit ∧ bit < 8 * ((n : Int) + 12)) with
        | false =>
          go_wp2
          go_meet
          case rel => exact Below.refl _ _
        | true =>
          have hq2 := of_decide_eq_true hq
          obtain ⟨B, rfl⟩ : ∃ B : Nat, bit = B := ⟨bit.toNat, by omega⟩
          have hB8 : B / 8 < n + 12 := by omega
          clear hq
          go_upto_region 10 with (at_builtin; refine wpList_append_own _ rfl _ _ 22 rfl W3.heap.size 5 i0 (.int .u8 0) 1 1 Try.underlying22 hi hz0 hz1 hz2 rfl (by decide) _ 0 [] rfl (World.ownsRow_nil _ _ _ _) ⟨sb, so, none⟩ (n + 12) k1 ((sealed kind xs).map bv) rfl (by rw [List.length_map, HSL.out]; omega) HS3.out.news (bv_one _) (by unfold maxLen; omega) (by omega) (Nat.le_refl _) ?_; intro v4 w4 own4 grow4 _)
          have bel4 : Below W3.heap.size W3 w4 := (Below.refl _ _).grown grow4 (Nat.le_refl _) (fun k hk => by cases hk)
          rw [Nat.zero_add, List.nil_append] at own4
          clear grow4
          rcases owns_cells own4 with ⟨_, h0⟩ | ⟨g, cap, rfl, hg1, hg2, hcap4, hmax4, hcell4, hfz4⟩
          · omega
          · obtain ⟨x, hx⟩ : ∃ x, x = (sealed kind xs).getD (B / 8) 0 := ⟨_, rfl⟩
            have hlt8 : B / 8 < (sealed kind xs).length := by rw [HSL.out]; exact hB8
            have hx256 : x < 256 := by
              have : (sealed kind xs).getD (B / 8) 0 = (sealed kind xs)[B / 8] := by simp [List.getD, hlt8]
              rw [hx, this]; exact HSLT.out _ (List.getElem_mem _)
            have d4 : w4.cell? ⟨g, B / 8, none⟩ = some (.int .u8 (x : Nat)) := by rw [hx]; exact hcell4 _ _ (bv_get hlt8)
            have f4 := hfz4 (B / 8)
            have HC4 : Hid (∀ i u, ((sealed kind xs).map bv)[i]? = some u → w4.cell? ⟨g, i, none⟩ = some u) := hcell4
            have HX : Hid (x = (sealed kind xs).getD (B / 8) 0) := hx
            have HO4 : Hid (w4.ownsRow W3.heap.size 5 1 (.slice (some ⟨g, 0, none⟩) (n + 12) cap) (n + 12) ((sealed kind xs).map bv)) := own4
            have hq3 : (B : Int) < 8 * ((n : Int) + 12) := hq2.2
            have e1 : (B : Int).tdiv 8 = ((B / 8 : Nat) : Int) := by rw [Int.tdiv_eq_ediv_of_nonneg (by omega)]; omega
            have e2 : (B : Int).tmod 8 = ((B % 8 : Nat) : Int) := by rw [Int.tmod_eq_emod_of_nonneg (by omega)]; omega
            obtain ⟨I, hI⟩ : ∃ I, I = B / 8 := ⟨_, rfl⟩
            obtain ⟨R, hR⟩ : ∃ R, R = B % 8 := ⟨_, rfl⟩
            have HI : Hid (I = B / 8) := hI
            have hR8 : R < 8 := by omega
            rw [← hI] at e1 d4 f4 hB8
            rw [← hR] at e2
            clear hcell4 hfz4 hx own4 hlt8 hq2 hI hR
            have hmax5 : cap ≤ 9223372036854775807 := hmax4
            obtain ⟨x1, x2, x3⟩ := xor_pow x R hx256 hR8
            obtain ⟨y, hy⟩ : ∃ y, y = x ^^^ 2 ^ R := ⟨_, rfl⟩
            rw [← hy] at x1 x2 x3
            have hB5 := Bs.put (i := I) (y := y) HC4.out (by rw [HSL.out]; exact hB8) (by rw [HSL.out]; exact hcap4) hmax5 HSLT.out x2
            rw [HSL.out] at hB5
            have ht := turn_no (by rw [HL.out]; omega) hk HB.out.lt I y (by rw [HL.out]; exact hB8) x2 (by rw [HI.out, ← HX.out]; exact x3)
            have c11 := unseal_any _ kind _ (n + 12) cap _ _ hk hB5
            rw [ht.1, ht.2] at c11
            have hg3 : W3.heap.size ≤ g := hg1
            have BEL5 : Hid (Below W3.heap.size W3 ((w4.setCell ⟨g, I, none⟩ (.int .u8 (y : Nat))).drew)) := (bel4.setCell (p := ⟨g, I, none⟩) hg3 _).drew
            clear hB5 ht hy x3 hmax5 bel4 hmax4
            go_region
            clear x1 d4 f4
            go_wp2_with (go_at_call 11; refine c11.mono ?_; rintro ex w6 ⟨a6, n6, k6, rfl, own6, bel6⟩; obtain ⟨g6, m6, hv6, _⟩ := Bs.of_owns own6 (by intro x hx; cases hx); obtain ⟨rfl, rfl, rfl⟩ : a6 = g6 ∧ n6 = 0 ∧ k6 = m6 := (by injection hv6 with h1 h2 h3; exact ⟨h1, h2, h3⟩); clear own6 hv6)
            go_meet
            case rel => exact BEL5.out.trans (bel6.mono BEL5.out.size)
      case rest =>
        have HS4 : Hid (Bs wc Fs (some ⟨sb, so, none⟩) (n + 12) k1 (sealed kind xs)) := HS3.out.below hcut
        have BEL4 : Hid (Below w.heap.size w wc) := BEL3.out.trans (hcut.mono BEL3.out.size)
        clear HS3 BEL3 hcut
        obtain ⟨W4, hW4⟩ : ∃ W4, W4 = wc := ⟨_, rfl⟩
        rw [← hW4] at HS4 BEL4 ⊢
        clear hW4
        go_upto_region 14 with fail
        go_cut [117] (fun s wc => s = .bool (decide (0 ≤ cut ∧ cut < (n : Int) + 12)) ∧ wc = W4)
        case first =>
          by_cases hb0 : 0 ≤ cut
          · have E1 : Hid (decide (0 ≤ cut ∧ cut < (n : Int) + 12) = decide (cut < (n : Int) + 12)) := by show _ = _; simp [hb0]
            go_wp2
            go_meet
            case rel => exact ⟨by rw [E1.out], rfl⟩
          · have E1 : Hid (decide (0 ≤ cut ∧ cut < (n : Int) + 12) = false) := by show _ = _; simp; omega
            go_wp2
            go_meet
            case rel => exact ⟨by rw [E1.out], rfl⟩
        case rest =>
          obtain ⟨rfl, hw⟩ := hcut
          obtain rfl := hw.symm
          go_upto_if 117 with fail
          go_cut [20] (fun _ wc => Below W4.heap.size W4 wc)
          case first =>
            cases hq : decide (0 ≤ cut ∧ cut < (n : Int) + 12) with
            | false =>
              go_wp2
              go_meet
              case rel => exact Below.refl _ _
            | true =>
              have hq2 := of_decide_eq_true hq
              obtain ⟨C, rfl⟩ : ∃ C : Nat, cut = C := ⟨cut.toNat, by omega⟩
              have hC : C < n + 12 := by omega
              have hCk : C ≤ k1 := by have := HS4.out.cap; omega
              have c11 := unseal_any _ kind _ C k1 _ _ hk (HS4.out.take C (by omega))
              rw [cut_no C (by rw [HL.out]; omega) (by rw [HL.out]; exact hC)] at c11
              clear hq
              go_wp2_with (go_at_call 11; refine c11.mono ?_; rintro ex w6 ⟨a6, n6, k6, rfl, own6, bel6⟩; clear own6)
              go_meet
              case rel => exact bel6
          case rest =>
            have HS5 : Hid (Bs wc Fs (some ⟨sb, so, none⟩) (n + 12) k1 (sealed kind xs)) := HS4.out.below hcut
            have BEL5 : Hid (Below w.heap.size w wc) := BEL4.out.trans (hcut.mono BEL4.out.size)
            clear HS4 BEL4 hcut
            obtain ⟨W5, hW5⟩ : ∃ W5, W5 = wc := ⟨_, rfl⟩
            rw [← hW5] at HS5 BEL5 ⊢
            clear hW5
            go_upto_region 18 with fail
            go_cut [138] (fun s wc => s = .bool (decide (0 < n' ∧ n + 12 + n' ≤ 4194316)) ∧ wc = W5)
            case first =>
              by_cases hb0 : 0 < n'
              · have E1 : Hid (decide (0 < n' ∧ n + 12 + n' ≤ 4194316) = decide ((n : Int) + 12 + n' ≤ 4194316)) := by
                  show _ = _
                  rw [decide_eq_decide]; omega
                go_wp2
                go_meet
                case rel => exact ⟨by rw [E1.out], rfl⟩
              · have E1 : Hid (decide (0 < n' ∧ n + 12 + n' ≤ 4194316) = false) := by show _ = _; simp; omega
                have hz : n' = 0 := by omega
                subst hz
                go_wp2
                go_meet
                case rel => exact ⟨by rw [E1.out], rfl⟩
            case rest =>
              obtain ⟨rfl, hw⟩ := hcut
              obtain rfl := hw.symm
              go_upto_if 138 with fail
              go_cut [22] (fun _ wc => Below W5.heap.size W5 wc)
              case first =>
                cases hq : decide (0 < n' ∧ n + 12 + n' ≤ 4194316) with
                | false =>
                  go_wp2
                  go_meet
                  case rel => exact Below.refl _ _
                | true =>
                  have hq2 := of_decide_eq_true hq
                  obtain ⟨mb, mo, rfl, _, _⟩ := HM.out.at' 0 hq2.1
                  clear hq
                  go_upto_region 21 with (at_builtin; refine wpList_append_own _ rfl _ _ 22 rfl W5.heap.size 5 i0 (.int .u8 0) 1 1 Try.underlying22 hi hz0 hz1 hz2 rfl (by decide) _ 0 [] rfl (World.ownsRow_nil _ _ _ _) ⟨sb, so, none⟩ (n + 12) k1 ((sealed kind xs).map bv) rfl (by rw [List.length_map, HSL.out]; omega) HS5.out.news (bv_one _) (by unfold maxLen; omega) (by omega) (Nat.le_refl _) ?_; intro v6 w6 own6 grow6 _)
                  have bel6 : Below W5.heap.size W5 w6 := (Below.refl _ _).grown grow6 (Nat.le_refl _) (fun k hk => by cases hk)
                  rw [Nat.zero_add, List.nil_append] at own6
                  have hM6 := HM.out.below (BEL5.out.trans (bel6.mono BEL5.out.size))
                  have HM6 : Hid (∀ j u, (ys.map bv)[j]? = some u → w6.cell? ((⟨mb, mo, none⟩ : Addr).add j) = some u) := hM6.news
                  have HO6 : Hid (w6.ownsRow W5.heap.size 5 1 v6 (n + 12) ((sealed kind xs).map bv)) := own6
                  have HB6 : Hid (Below W5.heap.size W5 w6) := bel6
                  have hs6 := bel6.size
                  clear grow6 own6 hM6 bel6
                  go_upto_region 22 with (at_builtin; refine wpList_append_own _ rfl _ _ 22 rfl W5.heap.size 5 i0 (.int .u8 0) 1 1 Try.underlying22 hi hz0 hz1 hz2 rfl (by decide) _ (n + 12) _ rfl HO6.out ⟨mb, mo, none⟩ n' c' (ys.map bv) rfl (by rw [List.length_map, HL'.out]; omega) HM6.out (bv_one _) (by unfold maxLen; omega) (by omega) hs6 ?_; intro v7 w7 own7 grow7 _)
                  have bel7 : Below W5.heap.size W5 w7 := HB6.out.grown grow7 hs6 (fun k hk => (HO6.out.lt k hk).1)
                  have hl7 : (sealed kind xs ++ ys).length = n + 12 + n' := by rw [List.length_append, HSL.out, HL'.out]
                  obtain ⟨a7, k7, hv7, hB7⟩ := Bs.of_owns (w := w7) (base := W5.heap.size) (e := 5) (v := v7) (xs := sealed kind xs ++ ys) (by rw [hl7, List.map_append]; exact own7) (fun x hx => by rcases List.mem_append.1 hx with h1 | h1; exact HSLT.out x h1; exact HM.out.lt x h1)
                  rw [hl7] at hv7 hB7
                  subst hv7
                  have c11 := unseal_any _ kind _ _ _ _ _ hk hB7
                  rw [more_no (by rw [HL.out]; omega) (by rw [HL'.out]; exact hq2.1) (by rw [HL.out, HL'.out]; exact hq2.2)] at c11
                  have HB7 : Hid (Below W5.heap.size W5 w7) := bel7
                  clear grow7 own7 hB7 hl7 bel7
                  go_wp2_with (go_at_call 11; refine c11.mono ?_; rintro ex w8 ⟨a8, n8, k8, rfl, own8, bel8⟩; clear own8)
                  go_meet
                  case rel => exact HB7.out.trans (bel8.mono HB7.out.size)
              case rest =>
                have HS6 : Hid (Bs wc Fs (some ⟨sb, so, none⟩) (n + 12) k1 (sealed kind xs)) := HS5.out.below hcut
                have BEL6 : Hid (Below w.heap.size w wc) := BEL5.out.trans (hcut.mono BEL5.out.size)
                clear HS5 BEL5 hcut
                obtain ⟨W6, hW6⟩ : ∃ W6, W6 = wc := ⟨_, rfl⟩
                rw [← hW6] at HS6 BEL6 ⊢
                clear hW6
                have c11 := unseal_any _ other _ (n + 12) k1 _ _ ho HS6.out
                by_cases hok : other = kind
                · subst hok
                  rw [HYES.out.1] at c11
                  go_wp2_with (first | (go_at_call 11; refine c11.mono ?_; rintro ex w8 ⟨a8, n8, k8, rfl, own8, bel8⟩; clear own8) | (go_at_call 10; refine (works_any _).mono ?_; rintro ex w9 ⟨rfl, bel9⟩))
                  go_ret
                  exact ⟨rfl, (BEL6.out.trans (bel8.mono BEL6.out.size)).trans (bel9.mono (Nat.le_trans BEL6.out.size bel8.size))⟩
                · rw [other_no (by rw [HL.out]; omega) hok] at c11
                  have hok2 : ((other : Int) == (kind : Int)) = false := by simp; omega
                  clear hok
                  go_wp2_with (first | (go_at_call 11; refine c11.mono ?_; rintro ex w8 ⟨a8, n8, k8, rfl, own8, bel8⟩; clear own8) | (go_at_call 10; refine (works_any _).mono ?_; rintro ex w9 ⟨rfl, bel9⟩))
                  go_ret
                  exact ⟨rfl, (BEL6.out.trans (bel8.mono BEL6.out.size)).trans (bel9.mono (Nat.le_trans BEL6.out.size bel8.size))⟩

end Go.Proofs.Ytakdfpenpodplaa
