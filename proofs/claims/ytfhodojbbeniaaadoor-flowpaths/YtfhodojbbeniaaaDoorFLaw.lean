/-
  FlowPaths.
-/
import Derived.Test.YtfhodojbbeniaaaDoorFWrk
import Derived.Test.YtfhodojbbeniaaaDoorFTrm
import Derived.Test.YtfhodojbbeniaaaDoorFFrc
namespace Go.Proofs.YtfhodojbbeniaaaDoor
open Go.RowKit
set_option linter.unusedVariables false
set_option maxRecDepth 100000

theorem far_refl {E : List (Nat × Nat)} {n i : Nat} (hE : Eok E n) (hi : i < n) : isT (farM E n i) i = true := (far_ok hE hi i).2 .refl
theorem far_near {E : List (Nat × Nat)} {n i j : Nat} (hE : Eok E n) (hi : i < n) (h : nearB E i j = true) : isT (farM E n i) j = true := (far_ok hE hi j).2 (Pth.one (nearB_iff.1 h))
theorem far_trans {E : List (Nat × Nat)} {n i j k : Nat} (hE : Eok E n) (hi : i < n) (hj : j < n) (h1 : isT (farM E n i) j = true) (h2 : isT (farM E n j) k = true) : isT (farM E n i) k = true :=
  (far_ok hE hi k).2 (Pth.trans ((far_ok hE hi j).1 h1) ((far_ok hE hj k).1 h2))
theorem far_src {E : List (Nat × Nat)} {n i q : Nat} (hE : Eok E n) (hi : i < n) (hq : q < n) : isT (farM E n i) q = isT (rch (bkw E n) q) i := by
  rw [Bool.eq_iff_iff]
  exact (far_ok hE hi q).trans (src_ok hE hq i).symm
theorem srcJ_pre (R : List Bool) : ∀ (n i : Nat), i ≤ n → ∃ r, srcJ R n = srcJ R i ++ r
  | 0, i, h => ⟨[], by rw [show i = 0 by omega]; simp⟩
  | n + 1, i, h => by
    by_cases e : i = n + 1
    · exact ⟨[], by rw [e]; simp⟩
    · obtain ⟨r, hr⟩ := srcJ_pre R n i (by omega)
      exact ⟨r ++ (if isT R n then [(n : Int) + 1] else []), by rw [srcJ_succ, hr, List.append_assoc]⟩
theorem srcJ_at {R : List Bool} {n i : Nat} (h : i < n) (hi : isT R i = true) : (srcJ R n).getD (srcJ R i).length 0 = (i : Int) + 1 ∧ (srcJ R i).length < (srcJ R n).length := by
  obtain ⟨r, hr⟩ := srcJ_pre R n (i + 1) (by omega)
  rw [hr, srcJ_succ, if_pos hi]
  constructor
  · simp [List.getD]
  · simp
theorem edG_len (n : Nat) (f : Int) (ts : List Int) : (edG n f ts).length ≤ ts.length := by
  unfold edG
  rw [List.length_map]
  exact List.length_filter_le _ _
theorem partsL_len (ps : List Po) (ts : List Int) : (partsL ps ts).length ≤ ts.length + 1 := by
  unfold partsL
  have h1 := Lib.compact_length_le (sortL (toL ps ts))
  have h2 : (sortL (toL ps ts)).length = (toL ps ts).length := by unfold sortL; simp
  have h3 : (toL ps ts).length ≤ ts.length + 1 := by unfold toL; split <;> simp
  omega
theorem edC_len (n : Nat) (ps : List Po) (x : Ch) : (edC n ps x).length ≤ x.dst.length + 1 := by
  unfold edC
  split
  · exact Nat.le_trans (edG_len _ _ _) (partsL_len _ _)
  · simp
theorem edg_len (n : Nat) (ps : List Po) : ∀ (L : List Ch), (∀ x ∈ L, x.dst.length ≤ 70) → (edg n ps L).length ≤ L.length * 71
  | [], _ => by simp [edg]
  | x :: L, h => by
    have h1 := edg_len n ps L (fun y hy => h y (by simp [hy]))
    have h2 := edC_len n ps x
    have h3 := h x (by simp)
    show (edC n ps x ++ edg n ps L).length ≤ _
    rw [List.length_append, List.length_cons, Nat.succ_mul]
    omega
theorem trmL_dst (L : List Ch) : ∀ x ∈ trmL L, x.dst.length ≤ 70 := by
  intro x hx
  unfold trmL at hx
  obtain ⟨y, _, rfl⟩ := List.mem_map.1 hx
  show (y.dst.take 70).length ≤ 70
  rw [List.length_take]; omega
/-- what trimmed answers may be read -/
theorem trm_rd {w w' : World} {F : Nat → Prop} {a1 a2 : Option Addr} {n1 c1 n2 c2 n0 : Nat} {ps : List Po} {L : List Ch} (hq : Ls 6 elPo w' F a1 n1 c1 ps) (hc : Ls 5 elCh w' (fun k => F k ∨ w.heap.size ≤ k) a2 n2 c2 (trmL L)) (hn : n0 ≤ 40) : Rd w' (fun k => F k ∨ w.heap.size ≤ k) a1 n1 c1 a2 n2 c2 n0 ps (trmL L) := by
  refine ⟨hq.mono (fun k h => .inl h) (fun _ _ h => h), hc, fun x hx => by have := trmL_dst L x hx; omega, by omega, ?_⟩
  have h1 := edg_len n0 ps (trmL L) (trmL_dst L)
  have h2 : (trmL L).length ≤ 70 := by rw [trmL_len]; omega
  have h3 : (trmL L).length * 71 ≤ 70 * 71 := Nat.mul_le_mul_right _ h2
  omega

theorem w64s (k : Nat) (h : k ≤ 1000000) : wrap64 (k : Int) = k := by unfold wrap64; omega
theorem w64p (k : Nat) (h : k ≤ 1000000) : wrap64 ((k : Int) + 1) = (k : Int) + 1 := by unfold wrap64; omega

set_option maxHeartbeats 16000000 in
theorem paths_law {F : Nat → Prop} {a0 a1 a2 : Option Addr} {n0 c0 n1 c1 n c : Nat} {ps : List Po} {L : List Ch} (w : World) (en : En w) (p : Int) (hp : I6 p) (hcap0 : n0 ≤ c0) (hm0 : c0 ≤ 9223372036854775807) (hnil0 : a0 = none → c0 = 0) (hq : Ls 6 elPo w F a1 n1 c1 ps) (hc : Ls 5 elCh w F a2 n c L) (hFl : ∀ k, F k → k < w.heap.size) :
    Calls Tryd.prog 3 #[.agg #[.slice a0 n0 c0, .slice a1 n1 c1, .slice a2 n c], .int .i64 p] w fun e w' => e = .returned (.bool true) ∧ Kept No w w' := by
  have k1 : Kept No w (w.alloc (.cells #[.slice a0 n0 c0, .slice a1 n1 c1, .slice a2 n c] 26)) := (Kept.refl No w).alloc _
  have hb1 := three (alloc_new w (.cells #[.slice a0 n0 c0, .slice a1 n1 c1, .slice a2 n c] 26))
  obtain ⟨x0, x1, x2⟩ := hb1
  have cT := trimmed_any _ hcap0 hm0 hnil0 (hq.kept k1 (fun _ _ h => h) (elPo_kept k1 (fun _ _ h => h))) (hc.kept k1 (fun _ _ h => h) (elCh_kept k1 (fun _ _ h => h))) (fun k h => by have := hFl k h; have := k1.size; omega)
  have HP : Hid (I6 p) := hp
  have HE0 : Hid (En w ∧ Kept No w (w.alloc (.cells #[.slice a0 n0 c0, .slice a1 n1 c1, .slice a2 n c] 26))) := ⟨en, k1⟩
  clear hq hc hFl en k1 hp hcap0 hm0 hnil0
  go_enter Tryd.func3, Tryd.ntmps3
  go_upto_region 2 with (go_at_call 4; refine cT.mono ?_; rintro e w1 ⟨b2, m2, d2, rfl, hq1, hc1, k1⟩; have HT := hid (⟨hq1, hc1, HE0.out.2.trans k1 (fun _ h => .inl h)⟩ : _ ∧ _ ∧ Kept No w w1); clear hq1 hc1 k1 cT x0 x1 x2)
  obtain ⟨N, hN⟩ : ∃ N, min n0 40 = N := ⟨_, rfl⟩
  obtain ⟨M1, hM1⟩ : ∃ M1, min n1 70 = M1 := ⟨_, rfl⟩
  rw [hM1] at HT
  rw [hN, hM1]
  have hN40 : N ≤ 40 := by omega
  clear hN hM1
  have rd1 := trm_rd HT.out.1 HT.out.2.1 hN40
  have HK1 := hid HT.out.2.2
  clear HT
  have hE := edg_ok N (ps.take 70) (trmL L)
  obtain ⟨bx, hbx⟩ : ∃ bx, w1.heap.size = bx := ⟨_, rfl⟩
  have k2 : Kept No w1 (w1.alloc (.cells #[.slice a0 N c0, .slice a1 M1 c1, .slice b2 m2 d2] 26)) := (Kept.refl No w1).alloc _
  have hb2 := alloc_new w1 (.cells #[.slice a0 N c0, .slice a1 M1 c1, .slice b2 m2 d2] 26)
  rw [hbx] at hb2
  have rd2 := rd1.kept k2 (fun _ _ h => h)
  have hsz := rd2.nn
  generalize hw2 : w1.alloc (.cells #[.slice a0 N c0, .slice a1 M1 c1, .slice b2 m2 d2] 26) = w2 at *
  clear hw2 rd1
  have cD := direct_any (a0 := a0) (c0 := c0) w2 rd2
  obtain ⟨E, hEe⟩ : ∃ E, edg N (ps.take 70) (trmL L) = E := ⟨_, rfl⟩
  rw [hEe] at cD hE
  have HC : Hid (Rd w2 (fun k => F k ∨ (w.alloc (.cells #[.slice a0 n0 c0, .slice a1 n1 c1, .slice a2 n c] 26)).heap.size ≤ k) a1 M1 c1 b2 m2 d2 N (ps.take 70) (trmL L) ∧ Eok E N ∧ edg N (ps.take 70) (trmL L) = E ∧ Kept No w w2 ∧ w2.heap[bx]? = some (.cells #[.slice a0 N c0, .slice a1 M1 c1, .slice b2 m2 d2] 26) ∧ En w) := ⟨rd2, hE, hEe, HK1.out.trans k2 (fun _ h => .inl h), hb2, HE0.out.1⟩
  clear rd2 hE hEe k2 hb2 HK1 HE0
  obtain ⟨x0, x1, x2⟩ := three HC.out.2.2.2.2.1
  go_upto_region 3 with (go_at_call 5; refine cD.mono ?_; rintro e w3 ⟨B1, g1, V1, rfl, hs1, _, k3⟩; have H3 : Hid (Sqm w3 B1 g1 N N V1 (nrM E N) ∧ Kept No w2 w3) := ⟨hs1, k3⟩; clear hs1 k3 cD x0 x1 x2)
  have cR := reach_any (a0 := a0) (c0 := c0) w3 (HC.out.1.kept H3.out.2 (fun _ _ h => h))
  rw [HC.out.2.2.1] at cR
  obtain ⟨x0, x1, x2⟩ := three (H3.out.2.at' HC.out.2.2.2.2.1 (fun h => h))
  go_upto_region 4 with (go_at_call 6; refine cR.mono ?_; rintro e w4 ⟨B2, g2, V2, rfl, hs2, _, k4⟩; have H4 : Hid (Sqm w4 B1 g1 N N V1 (nrM E N) ∧ Sqm w4 B2 g2 N N V2 (farM E N) ∧ Kept No w2 w4) := ⟨H3.out.1.kept k4 (fun _ _ h => h), hs2, H3.out.2.trans k4 (fun _ h => .inl h)⟩; clear hs2 k4 cR x0 x1 x2)
  obtain ⟨x0, x1, x2⟩ := three (H4.out.2.2.at' HC.out.2.2.2.2.1 (fun h => h))
  go_wp2
  go_loopw [9] (fun y wr => ∃ i : Nat, y = .int .i64 i ∧ i ≤ N ∧ wr = w4) (fun y _ => N - (intOf y).toNat)
  case atStart => exact ⟨0, rfl, Nat.zero_le _, rfl⟩
  case round =>
    obtain ⟨i, rfl, hi, rfl⟩ := hrel
    by_cases hiN : i < N
    · have hiz : (i : Int) < (N : Int) := by omega
      obtain ⟨r1, _⟩ := H4.out.1.at2 hiN hiN
      obtain ⟨r2, r3⟩ := H4.out.2.1.at2 hiN hiN
      rw [far_refl HC.out.2.1 hiN] at r3
      go_wp2
      go_loopw [10] (fun y w' => ∃ j : Nat, y = .int .i64 j ∧ j ≤ N ∧ w' = wr) (fun y _ => N - (intOf y).toNat)
      case atStart => exact ⟨0, rfl, Nat.zero_le _, rfl⟩
      case round =>
        obtain ⟨j, rfl, hj, rfl⟩ := hrel
        clear r1 r2 r3
        by_cases hjN : j < N
        · have hjz : (j : Int) < (N : Int) := by omega
          obtain ⟨r1, r4⟩ := H4.out.1.at2 hiN hjN
          rw [nrM_T hjN] at r4
          obtain ⟨r2, r3⟩ := H4.out.2.1.at2 hiN hjN
          have hnf : nearB E i j = true → isT (farM E N i) j = true := fun h => far_near HC.out.2.1 hiN h
          have HNF := hid hnf
          clear hnf
          go_upto_region 15 with fail
          go_cut [88] (fun t wx => t = .bool false ∧ wx = wr)
          case first =>
            cases hnb : nearB E i j with
            | true =>
              rw [hnb] at r4
              rw [HNF.out hnb] at r3
              clear hnb
              go_wp2
              go_meet
              exact ⟨rfl, rfl⟩
            | false =>
              rw [hnb] at r4
              clear hnb r3
              go_wp2
              go_meet
              exact ⟨rfl, rfl⟩
          case rest =>
            obtain ⟨rfl, rfl⟩ := hcut
            clear r1 r4 r2 r3
            go_wp2
            go_loopw [11] (fun y w' => ∃ k : Nat, y = .int .i64 k ∧ k ≤ N ∧ w' = wc) (fun y _ => N - (intOf y).toNat)
            case atStart => exact ⟨0, rfl, Nat.zero_le _, rfl⟩
            case round =>
              obtain ⟨k, rfl, hk, rfl⟩ := hrel
              by_cases hkN : k < N
              · have hkz : (k : Int) < (N : Int) := by omega
                obtain ⟨r2, r3⟩ := H4.out.2.1.at2 hiN hjN
                obtain ⟨r5, r6⟩ := H4.out.2.1.at2 hjN hkN
                obtain ⟨_, r7⟩ := H4.out.2.1.at2 hiN hkN
                have htr : Hid (isT (farM E N i) j = true → isT (farM E N j) k = true → isT (farM E N i) k = true) := fun h1 h2 => far_trans HC.out.2.1 hiN hjN h1 h2
                cases h1 : isT (farM E N i) j with
                | false =>
                  rw [h1] at r3
                  clear h1 r5 r6 r7
                  go_wp2
                  go_roundw
                  case rel => exact ⟨k + 1, by go_num, by omega, by first | rfl | trivial⟩
                  case measure => simp [intOf]; omega
                | true =>
                  rw [h1] at r3
                  cases h2 : isT (farM E N j) k with
                  | false =>
                    rw [h2] at r6
                    clear h1 h2 r7
                    go_wp2
                    go_roundw
                    case rel => exact ⟨k + 1, by go_num, by omega, by first | rfl | trivial⟩
                    case measure => simp [intOf]; omega
                  | true =>
                    rw [h2] at r6
                    rw [htr.out h1 h2] at r7
                    clear h1 h2
                    go_wp2
                    go_roundw
                    case rel => exact ⟨k + 1, by go_num, by omega, by first | rfl | trivial⟩
                    case measure => simp [intOf]; omega
              · have hkz : ¬ (k : Int) < (N : Int) := by omega
                go_wp2
                go_roundw
                case rel => exact ⟨j + 1, by go_num, by omega, by first | rfl | trivial⟩
                case measure => simp [intOf]; omega
        · have hjz : ¬ (j : Int) < (N : Int) := by omega
          go_wp2
          go_roundw
          case rel => exact ⟨i + 1, by go_num, by omega, by first | rfl | trivial⟩
          case measure => simp [intOf]; omega
    · have hiz : ¬ (i : Int) < (N : Int) := by omega
      go_wp2
      clear x0 x1 x2
      go_loopw [12] (fun y w' => ∃ q : Nat, y = .int .i64 q ∧ q ≤ N ∧ Kept No wr w') (fun y _ => N - (intOf y).toNat)
      case atStart => exact ⟨0, rfl, Nat.zero_le _, Kept.refl _ _⟩
      case round =>
        obtain ⟨q, rfl, hq, hk⟩ := hrel
        by_cases hqN : q < N
        · have hqz : (q : Int) < (N : Int) := by omega
          have cF := forced_yes (i := q) _ (H4.out.1.kept hk (fun _ _ h => h)) (H4.out.2.1.kept hk (fun _ _ h => h)) HC.out.2.1 (by omega) hqN
          have HK := hid hk
          clear hk
          go_wp2_with (go_at_call 7; refine cF.mono ?_; rintro e w6 ⟨rfl, k6⟩; have HK6 := hid (HK.out.trans k6 (fun _ h => .inl h)); clear k6 cF)
          go_roundw
          case rel => exact ⟨q + 1, by go_num, by omega, HK6.out⟩
          case measure => simp [intOf]; omega
        · have hqz : ¬ (q : Int) < (N : Int) := by omega
          have k24 := H4.out.2.2.trans hk (fun _ h => .inl h)
          have kw : Kept No w wr := HC.out.2.2.2.1.trans k24 (fun _ h => .inl h)
          obtain ⟨x0, x1, x2⟩ := three (k24.at' HC.out.2.2.2.2.1 (fun h => h))
          have rd5 := HC.out.1.kept k24 (fun _ _ h => h)
          have HW : Hid (Kept No w wr ∧ Sqm wr B2 g2 N N V2 (farM E N)) := ⟨kw, H4.out.2.1.kept hk (fun _ _ h => h)⟩
          clear kw k24
          cases hpb : isP N p with
          | false =>
            have cS := sources_no (a0 := a0) (c0 := c0) (a1 := a1) (n1 := M1) (c1 := c1) (a2 := b2) (n := m2) (c := d2) p wr hpb
            have hpn : p < 1 ∨ (N : Int) < p := by
              unfold isP at hpb
              simp at hpb
              omega
            clear rd5 hk hpb
            by_cases hp1 : p < 1
            · have hp1' : decide (p < 1) = true := by simp [hp1]
              go_wp2_with (first
                | (go_at_call 8; refine cS.mono ?_; rintro e w7 ⟨rfl, k7⟩; have kw7 := HW.out.1.trans k7 (fun _ h => .inl h); have cW := works_any w7 (HC.out.2.2.2.2.2.keep kw7); have HW7 := hid kw7; clear kw7 k7 cS)
                | (go_at_call 9; refine cW.mono ?_; rintro e w8 ⟨rfl, k8⟩; have HW8 := hid (HW7.out.trans k8 (fun _ h => .inl h)); clear k8 cW))
              go_ret
              exact ⟨rfl, HW8.out⟩
            · have hp1' : decide (p < 1) = false := by simp [hp1]
              have hp2 : (N : Int) < p := by omega
              go_wp2_with (first
                | (go_at_call 8; refine cS.mono ?_; rintro e w7 ⟨rfl, k7⟩; have kw7 := HW.out.1.trans k7 (fun _ h => .inl h); have cW := works_any w7 (HC.out.2.2.2.2.2.keep kw7); have HW7 := hid kw7; clear kw7 k7 cS)
                | (go_at_call 9; refine cW.mono ?_; rintro e w8 ⟨rfl, k8⟩; have HW8 := hid (HW7.out.trans k8 (fun _ h => .inl h)); clear k8 cW))
              go_ret
              exact ⟨rfl, HW8.out⟩
          | true =>
            obtain ⟨r, hr⟩ : ∃ r : Nat, p = (r : Int) + 1 := ⟨(p - 1).toNat, by have := isP_iff.1 hpb; omega⟩
            have hrN : r < N := by have := isP_iff.1 hpb; omega
            subst hr
            have cS := sources_yes (a0 := a0) (c0 := c0) (i := r) wr rd5 hrN
            rw [HC.out.2.2.1] at cS
            obtain ⟨R, hR⟩ : ∃ R, rch (bkw E N) r = R := ⟨_, rfl⟩
            have hsl : srcL E N r = srcJ R N := by unfold srcL; rw [hR]
            rw [hsl] at cS
            have HR : Hid (∀ i, i < N → isT (farM E N i) r = isT R i) := fun i hi => by rw [← hR]; exact far_src HC.out.2.1 hi hrN
            have hln := srcJ_len R N
            obtain ⟨ln, hlne⟩ : ∃ ln, (srcJ R N).length = ln := ⟨_, rfl⟩
            rw [hlne] at cS hln
            have HLN := hid hlne
            have hp1 : decide ((r : Int) + 1 < 1) = false := by simp; omega
            have hp2 : ¬ (N : Int) < (r : Int) + 1 := by omega
            clear rd5 hk hpb hsl hR hlne hiz hiN hi hqN hq hsz
            have HLL := hid hln
            clear hln
            go_wp2_with (go_at_call 8; refine cS.mono ?_; rintro e w7 ⟨va, vc, rfl, ho, k7⟩; have HW7 : Hid (Kept No w w7 ∧ Sqm w7 B2 g2 N N V2 (farM E N) ∧ w7.ownsRow wr.heap.size 3 1 (.slice va ln vc) ln ((srcJ R N).map iv)) := ⟨HW.out.1.trans k7 (fun _ h => .inl h), HW.out.2.kept k7 (fun _ _ h => h), ho⟩; clear ho k7 cS)
            clear x0 x1 x2 hqz hp1 hp2
            have hrN' : (r : Int) < (N : Int) := Int.ofNat_lt.2 hrN
            have HRZ : Hid (wrap64 (r : Int) = r) := w64s r (by omega)
            go_loopw [15, 16] (fun v y w' => ∃ i : Nat, y = .int .i64 i ∧ i ≤ N ∧ v = .int .i64 ((srcJ R i).length : Nat) ∧ w' = w7) (fun _ y _ => N - (intOf y).toNat)
            case atStart => exact ⟨0, rfl, Nat.zero_le _, rfl, rfl⟩
            case round =>
              obtain ⟨i2, rfl, hi2, rfl, rfl⟩ := hrel
              obtain ⟨va', vc', hv', hzs⟩ := Zs.of_owns (xs := srcJ R N) (by rw [HLN.out]; exact HW7.out.2.2)
              injection hv' with e1 e2 e3
              subst e1 e3
              clear e2
              have hzc := hzs.cap
              have hzm := hzs.max
              by_cases hi2N : i2 < N
              · have hi2z : (i2 : Int) < (N : Int) := by omega
                obtain ⟨r2, r3⟩ := HW7.out.2.1.at2 hi2N hrN
                rw [HR.out i2 hi2N] at r3
                have hsu := srcJ_succ R i2
                have HWI : Hid (wrap64 ((i2 : Int) + 1) = (i2 : Int) + 1) := w64p i2 (by omega)
                have hle : Hid ((srcJ R i2).length ≤ i2) := srcJ_len R i2
                have HZ9 := hid hzs
                clear hzc hzm hzs
                cases hb : isT R i2 with
                | false =>
                  rw [hb] at r3 hsu
                  have HF : Hid ((srcJ R (i2 + 1)).length = (srcJ R i2).length) := by show (srcJ R (i2 + 1)).length = _; rw [hsu]; simp
                  clear hb hsu hle
                  have hrz := HRZ.out
                  go_upto_region 33 with fail
                  clear hrz
                  go_wp2
                  go_roundw
                  case rel => exact ⟨i2 + 1, by go_num, by omega, by rw [HF.out], by first | rfl | trivial⟩
                  case measure => simp [intOf]; omega
                | true =>
                  rw [hb] at r3 hsu
                  obtain ⟨ha1, ha2⟩ := srcJ_at hi2N hb
                  rw [HLN.out] at ha2
                  have hzs := HZ9.out
                  have hzc := hzs.cap
                  have hzm := hzs.max
                  rw [HLN.out] at hzc
                  obtain ⟨zb, zo, rfl, _, hzl⟩ := hzs.at' (srcJ R i2).length (by rw [HLN.out]; exact ha2)
                  rw [ha1] at hzl
                  unfold iv at hzl
                  have HF : Hid (((srcJ R (i2 + 1)).length : Nat) = (srcJ R i2).length + 1) := by show (srcJ R (i2 + 1)).length = _; rw [hsu]; simp
                  have hll := HLL.out
                  have HX : Hid (decide ((ln : Int) ≤ ((srcJ R i2).length : Int)) = false ∧ ((srcJ R i2).length : Int) < (ln : Int) ∧ ln ≤ vc ∧ vc ≤ 9223372036854775807 ∧ wr.cell? ⟨zb, zo + (srcJ R i2).length, none⟩ = some (.int .i64 ((i2 : Int) + 1))) := ⟨decide_eq_false (by omega), by omega, hzc, hzm, hzl⟩
                  clear hb hsu hzs ha1 hle HZ9 hzm ha2 hzc hzl hll
                  have hrz := HRZ.out
                  go_upto_region 35 with fail
                  clear hrz r2 r3
                  obtain ⟨hmz', hml, hzc, hzm, hzl⟩ := HX.out
                  go_wp2
                  go_roundw
                  case rel => exact ⟨i2 + 1, by go_num, by omega, by rw [HF.out]; first | rfl | go_num, by first | rfl | trivial⟩
                  case measure => simp [intOf]; omega
              · have hi2z : ¬ (i2 : Int) < (N : Int) := by omega
                have hie : (srcJ R i2).length = ln := by rw [show i2 = N by omega]; exact HLN.out
                rw [hie]
                have cW := works_any wr (HC.out.2.2.2.2.2.keep HW7.out.1)
                clear hie hzc hzm hzs
                go_wp2_with (go_at_call 9; refine cW.mono ?_; rintro e w8 ⟨rfl, k8⟩; have HW8 := hid (HW7.out.1.trans k8 (fun _ h => .inl h)); clear k8 cW)
                go_ret
                exact ⟨rfl, HW8.out⟩
end Go.Proofs.YtfhodojbbeniaaaDoor
