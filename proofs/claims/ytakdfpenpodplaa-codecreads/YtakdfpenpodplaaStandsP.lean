/-
  Shelf.stands with both halves.
-/
import Derived.Test.YtakdfpenpodplaaStandsQ
namespace Go.Proofs.Ytakdfpenpodplaa
open Go.RowKit
set_option linter.unusedVariables false

set_option maxHeartbeats 8000000 in
set_option maxRecDepth 100000 in
theorem standsP_any (F : Nat → Prop) (s : Nat) (es : List En) (is : List Ei) (w : World) (h : Spf w F s es is) (hes : es.length ≤ 400) (his : is.length ≤ 400) (hfit : ∀ e ∈ es, e.xs.length ≤ 140737488351232) (hfit2 : ∀ e ∈ is, e.xs.length ≤ 10000000000) :
    Calls Try.prog 57 #[.pointer (some ⟨s, 0, none⟩)] w fun ex w' => ex = .returned (.bool true) ∧ Kept F w w' := by
  obtain ⟨i0, hi, hz0, hz1, hz2⟩ := info_parts Try.info5
  obtain ⟨i3, hi3, hy0, hy1, hy2⟩ := info_parts Try.info3
  have c96 := holdsP_any F s es is w h hes his
  obtain ⟨A, B, C, D, hg, hjj⟩ := h
  obtain ⟨ba, bc, rfl⟩ := owns_shape hg.bown
  obtain ⟨ha, hc, rfl⟩ := owns_shape hg.hown
  obtain ⟨ia, ic, rfl⟩ := owns_shape hjj.bown
  obtain ⟨ta, tc, rfl⟩ := owns_shape hjj.hown
  obtain ⟨m, hm⟩ : ∃ m, m = es.length := ⟨_, rfl⟩
  obtain ⟨m2, hm2⟩ : ∃ m2, m2 = is.length := ⟨_, rfl⟩
  rw [← hm, ← hm2] at hg hjj
  rw [← hm] at hes
  rw [← hm2] at his
  have HSD : Hid (Sd2 w F s m m2 (.slice ba m bc) (.slice ha m hc) (.slice ia m2 ic) (.slice ta m2 tc) es is w) := ⟨hm.symm, hm2.symm, hg, hjj, hfit, hfit2, Kept.refl _ _⟩
  clear hg hjj hm hm2 hfit hfit2
  go_enter Try.func57, Try.ntmps57
  go_wp2_with (go_at_call 96; refine c96.mono ?_; rintro ex w1 ⟨rfl, nd, rfl⟩)
  clear c96
  go_loopw [3] (fun i wr => ∃ j : Nat, j ≤ m ∧ i = .int .i64 j ∧ ∃ es' is', Sd2 w F s m m2 (.slice ba m bc) (.slice ha m hc) (.slice ia m2 ic) (.slice ta m2 tc) es' is' wr) (fun i _ => m - (intOf i).toNat)
  case atStart => exact ⟨0, by omega, rfl, es, is, HSD.out.drewN nd⟩
  case round =>
    obtain ⟨j, hj, rfl, es1, is1, hsd⟩ := hrel
    have HS1 : Hid (Sd2 w F s m m2 (.slice ba m bc) (.slice ha m hc) (.slice ia m2 ic) (.slice ta m2 tc) es1 is1 wr) := hsd
    have hc0 := hsd.g.c0
    by_cases hlt : j < m
    · obtain ⟨g, gc, k, kc, e, hb, hh, he, cl, ch, hmem⟩ := hsd.g.look (j := j) (by rw [hsd.len]; exact hlt)
      obtain ⟨rfl, rfl⟩ : ba = some ⟨g, 0, none⟩ ∧ bc = gc := by injection hb with h1 _ h3; exact ⟨h1, h3⟩
      obtain ⟨rfl, rfl⟩ : ha = some ⟨k, 0, none⟩ ∧ hc = kc := by injection hh with h1 _ h3; exact ⟨h1, h3⟩
      obtain ⟨o1, o2, o3⟩ := hsd.g.ent e hmem
      obtain ⟨n, hn⟩ : ∃ n, n = e.xs.length := ⟨_, rfl⟩
      have hfit := hsd.fit e hmem
      rw [← hn] at o1 o2 hfit
      obtain ⟨la, lc, hl⟩ := owns_shape o1
      obtain ⟨va, vc, hv⟩ := owns_shape o2
      have HI : Hid (∃ ys : List Nat, ys.length = n ∧ es1[j]? = some ⟨.slice la n lc, .slice va n vc, ys⟩) := ⟨e.xs, hn.symm, by rw [he, ← hl, ← hv]⟩
      clear hb hh he hmem o1 o2 o3 hn hl hv cl ch hsd
      rename World => W2
      go_wp2
      go_loopw [4] (fun i wx => ∃ q : Nat, q ≤ n ∧ i = .int .i64 q ∧ ∃ es' is', Sd2 w F s m m2 (.slice (some ⟨g, 0, none⟩) m bc) (.slice (some ⟨k, 0, none⟩) m hc) (.slice ia m2 ic) (.slice ta m2 tc) es' is' wx ∧ ∃ ys : List Nat, ys.length = n ∧ es'[j]? = some ⟨.slice la n lc, .slice va n vc, ys⟩) (fun i _ => n - (intOf i).toNat)
      case atStart => exact ⟨0, by omega, rfl, es1, is1, HS1.out, HI.out⟩
      case round =>
        clear HS1 HI hc0
        obtain ⟨q, hq, rfl, es2, is2, hsd, ys, hyl, he⟩ := hrel
        have hc0 := hsd.g.c0
        obtain ⟨g', gc', k', kc', e, hb, hh, he', cl, ch, hmem⟩ := hsd.g.look (j := j) (by rw [hsd.len]; exact hlt)
        rw [he] at he'
        injection he' with he'
        subst he'
        obtain rfl : g = g' := by injection hb with h1 _ _; injection h1 with h1; injection h1
        obtain rfl : k = k' := by injection hh with h1 _ _; injection h1 with h1; injection h1
        clear hb hh
        by_cases hlq : q < n
        · have hz : True := trivial
          obtain ⟨x, hx⟩ : ∃ x : Nat, x = j % 250 := ⟨_, rfl⟩
          have e1 : IntKind.u8.wrap ((j : Int) % 250) = (x : Int) := by rw [hx, IntKind.wrap_u8]; omega
          have e2 : (j : Int) % 250 % 256 = (x : Int) := by rw [hx]; omega
          have e3 : IntKind.u8.wrap ((j : Int).tmod 250) = (x : Int) := by rw [hx, IntKind.wrap_u8, Int.tmod_eq_emod_of_nonneg (by omega)]; omega
          have e4 : (j : Int).tmod 250 % 256 = (x : Int) := by rw [hx, Int.tmod_eq_emod_of_nonneg (by omega)]; omega
          obtain ⟨lb, vb, rfl, rfl, y, z, d1, f1, d2, f2, d3, d4, hnext⟩ := hsd.mark he hyl hlq (x := x) (by omega)
          have d5 := d4 k j _ rfl ch
          have HN : Hid (∃ es' is', Sd2 w F s m m2 (.slice (some ⟨g, 0, none⟩) m bc) (.slice (some ⟨k, 0, none⟩) m hc) (.slice ia m2 ic) (.slice ta m2 tc) es' is' ((wr.setCell ⟨lb, q, none⟩ (.int .u8 (x : Nat))).setCell ⟨vb, q, none⟩ (.int .u8 (x : Nat))) ∧ ∃ ys : List Nat, ys.length = n ∧ es'[j]? = some ⟨.slice (some ⟨lb, 0, none⟩) n lc, .slice (some ⟨vb, 0, none⟩) n vc, ys⟩) := by
            obtain ⟨zs', q1, q2⟩ := hnext
            exact ⟨zs', is2, q1, q2⟩
          clear hsd hnext d4 hx hmem he hyl hz
          go_upto_region 10 with fail
          generalize hW2 : wr.setCell ⟨lb, q, none⟩ (.int .u8 (x : Nat)) = W2
          rw [hW2] at d2 f2 d3 d5 HN
          clear hW2 d1 f1
          go_wp2
          go_roundw
          case rel => exact ⟨q + 1, by omega, by go_num, HN.out⟩
          case measure => simp [intOf]; omega
        · have HS2 : Hid (Sd2 w F s m m2 (.slice (some ⟨g, 0, none⟩) m bc) (.slice (some ⟨k, 0, none⟩) m hc) (.slice ia m2 ic) (.slice ta m2 tc) es2 is2 wr) := hsd
          clear hsd hmem he hyl
          go_wp2
          go_roundw
          case rel => exact ⟨j + 1, by omega, by go_num, es2, is2, HS2.out⟩
          case measure => simp [intOf]; omega
    · clear hsd
      rename World => W2
      go_wp2
      clear hc0
      clear hlt hj
      go_loopw [5] (fun i wr => ∃ j : Nat, j ≤ m2 ∧ i = .int .i64 j ∧ ∃ es' is', Sd2 w F s m m2 (.slice ba m bc) (.slice ha m hc) (.slice ia m2 ic) (.slice ta m2 tc) es' is' wr) (fun i _ => m2 - (intOf i).toNat)
      case atStart => exact ⟨0, by omega, rfl, es1, is1, HS1.out⟩
      case round =>
        clear HS1
        obtain ⟨j, hj, rfl, es1, is1, hsd⟩ := hrel
        have HS1 : Hid (Sd2 w F s m m2 (.slice ba m bc) (.slice ha m hc) (.slice ia m2 ic) (.slice ta m2 tc) es1 is1 wr) := hsd
        have hc0 := hsd.j.c0
        by_cases hlt : j < m2
        · obtain ⟨g, gc, k, kc, e, hb, hh, he, cl, ch, hmem⟩ := hsd.j.look (j := j) (by rw [hsd.len2]; exact hlt)
          obtain ⟨rfl, rfl⟩ : ia = some ⟨g, 0, none⟩ ∧ ic = gc := by injection hb with h1 _ h3; exact ⟨h1, h3⟩
          obtain ⟨rfl, rfl⟩ : ta = some ⟨k, 0, none⟩ ∧ tc = kc := by injection hh with h1 _ h3; exact ⟨h1, h3⟩
          obtain ⟨o1, o2, o3⟩ := hsd.j.ent e hmem
          obtain ⟨n, hn⟩ : ∃ n, n = e.xs.length := ⟨_, rfl⟩
          have hfit := hsd.fit2 e hmem
          rw [← hn] at o1 o2 hfit
          obtain ⟨la, lc, hl⟩ := owns_shape o1
          obtain ⟨va, vc, hv⟩ := owns_shape o2
          have HI : Hid (∃ ys : List Int, ys.length = n ∧ is1[j]? = some ⟨.slice la n lc, .slice va n vc, ys⟩) := ⟨e.xs, hn.symm, by rw [he, ← hl, ← hv]⟩
          clear hb hh he hmem o1 o2 o3 hn hl hv cl ch hsd
          rename World => W3
          go_wp2
          go_loopw [6] (fun i wx => ∃ q : Nat, q ≤ n ∧ i = .int .i64 q ∧ ∃ es' is', Sd2 w F s m m2 (.slice ba m bc) (.slice ha m hc) (.slice (some ⟨g, 0, none⟩) m2 ic) (.slice (some ⟨k, 0, none⟩) m2 tc) es' is' wx ∧ ∃ ys : List Int, ys.length = n ∧ is'[j]? = some ⟨.slice la n lc, .slice va n vc, ys⟩) (fun i _ => n - (intOf i).toNat)
          case atStart => exact ⟨0, by omega, rfl, es1, is1, HS1.out, HI.out⟩
          case round =>
            clear HS1 HI hc0
            obtain ⟨q, hq, rfl, es2, is2, hsd, ys, hyl, he⟩ := hrel
            have hc0 := hsd.j.c0
            obtain ⟨g', gc', k', kc', e, hb, hh, he', cl, ch, hmem⟩ := hsd.j.look (j := j) (by rw [hsd.len2]; exact hlt)
            rw [he] at he'
            injection he' with he'
            subst he'
            obtain rfl : g = g' := by injection hb with h1 _ _; injection h1 with h1; injection h1
            obtain rfl : k = k' := by injection hh with h1 _ _; injection h1 with h1; injection h1
            clear hb hh
            by_cases hlq : q < n
            · have hz : True := trivial
              obtain ⟨x, hx⟩ : ∃ x : Int, x = -1 - (j : Int) := ⟨_, rfl⟩
              have e1 : IntKind.i64.wrap (-1 - (j : Int)) = x := by rw [hx, IntKind.wrap_i64]; omega
              have e2 : -1 - (j : Int) = x := hx.symm
              obtain ⟨lb, vb, rfl, rfl, y, z, d1, f1, d2, f2, d3, d4, hnext⟩ := hsd.marki he hyl hlq (x := x)
              have d5 := d4 k j _ rfl ch
              have HN : Hid (∃ es' is', Sd2 w F s m m2 (.slice ba m bc) (.slice ha m hc) (.slice (some ⟨g, 0, none⟩) m2 ic) (.slice (some ⟨k, 0, none⟩) m2 tc) es' is' ((wr.setCell ⟨lb, q, none⟩ (.int .i64 x)).setCell ⟨vb, q, none⟩ (.int .i64 x)) ∧ ∃ ys : List Int, ys.length = n ∧ is'[j]? = some ⟨.slice (some ⟨lb, 0, none⟩) n lc, .slice (some ⟨vb, 0, none⟩) n vc, ys⟩) := by
                obtain ⟨zs', q1, q2⟩ := hnext
                exact ⟨es2, zs', q1, q2⟩
              clear hsd hnext d4 hx hmem he hyl hz
              go_upto_region 18 with fail
              generalize hW2 : wr.setCell ⟨lb, q, none⟩ (.int .i64 x) = W2
              rw [hW2] at d2 f2 d3 d5 HN
              clear hW2 d1 f1
              go_wp2
              go_roundw
              case rel => exact ⟨q + 1, by omega, by go_num, HN.out⟩
              case measure => simp [intOf]; omega
            · have HS2 : Hid (Sd2 w F s m m2 (.slice ba m bc) (.slice ha m hc) (.slice (some ⟨g, 0, none⟩) m2 ic) (.slice (some ⟨k, 0, none⟩) m2 tc) es2 is2 wr) := hsd
              clear hsd hmem he hyl
              go_wp2
              go_roundw
              case rel => exact ⟨j + 1, by omega, by go_num, es2, is2, HS2.out⟩
              case measure => simp [intOf]; omega
        · clear hsd
          rename World => W3
          go_wp2
          clear hc0
          go_loopw [7, 8] (fun t i wx => ∃ j T : Nat, j ≤ m ∧ i = .int .i64 j ∧ t = .int .i64 T ∧ 64 * j ≤ T ∧ T ≤ j * 140737488351296 ∧ Sd2 w F s m m2 (.slice ba m bc) (.slice ha m hc) (.slice ia m2 ic) (.slice ta m2 tc) es1 is1 wx) (fun _ i _ => m - (intOf i).toNat)
          case atStart => exact ⟨0, 0, by omega, rfl, rfl, by omega, by omega, HS1.out⟩
          case round =>
            clear HS1
            obtain ⟨j2, T, hj2, rfl, rfl, hT1, hT2, hsd⟩ := hrel
            have hc0 := hsd.g.c0
            have HS2 : Hid (Sd2 w F s m m2 (.slice ba m bc) (.slice ha m hc) (.slice ia m2 ic) (.slice ta m2 tc) es1 is1 wr) := hsd
            by_cases hlt2 : j2 < m
            · obtain ⟨g, gc, k, kc, e, hb, hh, he, cl, ch, hmem⟩ := hsd.g.look (j := j2) (by rw [hsd.len]; exact hlt2)
              obtain ⟨rfl, rfl⟩ : ba = some ⟨g, 0, none⟩ ∧ bc = gc := by injection hb with h1 _ h3; exact ⟨h1, h3⟩
              have hfit := hsd.fit e hmem
              obtain ⟨o1, o2, o3⟩ := hsd.g.ent e hmem
              obtain ⟨n, hn⟩ : ∃ n, n = e.xs.length := ⟨_, rfl⟩
              rw [← hn] at o1 hfit
              obtain ⟨la, lc, hl⟩ := owns_shape o1
              rw [hl] at cl
              have HL0 : Hid (Long w.heap.size F e (.slice la n lc) 0) := by
                rw [hl] at o1
                rcases owns_cells o1 with ⟨h0, _⟩ | ⟨b, cap, hv, _⟩
                · rw [h0]; exact .inr (fun g hg => by simp [Value.ownBlock] at hg)
                · rw [hv]; exact .inl ⟨b, cap, by rw [hl, hv, hn], by rw [hn]; rfl⟩
              have HO0 : Hid (wr.ownsRow 0 5 1 (.slice la n lc) (n + 0) (e.xs.map bv ++ [])) := by rw [List.append_nil, ← hl]; exact o1
              have HE : Hid (es1[j2]? = some e) := he
              have HN : Hid (n = e.xs.length) := hn
              clear hb hh he hmem o1 o2 o3 hn hl ch hsd
              rename World => W5
              go_wp2
              go_loopw [9, 10] (fun l i wx => ∃ q : Nat, q ≤ 64 ∧ i = .int .i64 q ∧ Sd2 w F s m m2 (.slice (some ⟨g, 0, none⟩) m bc) (.slice ha m hc) (.slice ia m2 ic) (.slice ta m2 tc) es1 is1 wx ∧ Long w.heap.size F e l q ∧ ∃ zs, wx.ownsRow 0 5 1 l (n + q) (e.xs.map bv ++ zs)) (fun _ i _ => 64 - (intOf i).toNat)
              case atStart => exact ⟨0, by omega, rfl, HS2.out, HL0.out, [], HO0.out⟩
              case round =>
                clear HS2 HL0 HO0 hc0 cl
                obtain ⟨q, hq, rfl, hsd, hlong, zs, hown⟩ := hrel
                have HS3 : Hid (Sd2 w F s m m2 (.slice (some ⟨g, 0, none⟩) m bc) (.slice ha m hc) (.slice ia m2 ic) (.slice ta m2 tc) es1 is1 wr) := hsd
                have HLO : Hid (Long w.heap.size F e u9 q) := hlong
                have HOW : Hid (wr.ownsRow 0 5 1 u9 (n + q) (e.xs.map bv ++ zs)) := hown
                by_cases hl64 : q < 64
                · obtain ⟨x, hx⟩ : ∃ x : Nat, x = 250 + j2 % 5 := ⟨_, rfl⟩
                  have e1 : IntKind.u8.wrap (250 + (j2 : Int) % 5) = (x : Int) := by rw [hx, IntKind.wrap_u8]; omega
                  have e2 : (250 + (j2 : Int) % 5) % 256 = (x : Int) := by rw [hx]; omega
                  clear hsd hlong hown hx
                  go_wp2_with (at_builtin; refine wpList_append_own_two rfl _ _ 22 rfl 5 i0 (.int .u8 0) 1 Try.underlying22 hi hz0 hz1 hz2 rfl _ _ _ rfl (HOW.out.alloc _) ⟨wr.heap.size, 0, none⟩ 1 (.int .u8 x) rfl (cell_one_new _ _ _) (one_one _ _) (by unfold maxLen; omega) (by omega) ?_; intro v1 w1 own1 two1)
                  have HG : Hid (Sd2 w F s m m2 (.slice (some ⟨g, 0, none⟩) m bc) (.slice ha m hc) (.slice ia m2 ic) (.slice ta m2 tc) es1 is1 w1 ∧ Long w.heap.size F e v1 (q + 1) ∧ ∃ zs, w1.ownsRow 0 5 1 v1 (n + (q + 1)) (e.xs.map bv ++ zs)) := HS3.out.grew HE.out HN.out HLO.out HOW.out own1 two1
                  clear own1 two1
                  go_wp2
                  go_roundw
                  case rel => exact ⟨q + 1, by omega, by go_num, HG.out⟩
                  case measure => simp [intOf]; omega
                · obtain ⟨a9, c9, rfl⟩ := owns_shape hown
                  have hq64 : q = 64 := by omega
                  subst hq64
                  clear hsd hlong hown
                  go_wp2
                  go_roundw
                  case rel => exact ⟨j2 + 1, T + (n + 64), by omega, by go_num, by go_num, by omega, by omega, HS3.out⟩
                  case measure => simp [intOf]; omega
            · have HS1 : Hid (Sd2 w F s m m2 (.slice ba m bc) (.slice ha m hc) (.slice ia m2 ic) (.slice ta m2 tc) es1 is1 wr) := hsd
              clear hsd
              have hjm : j2 = m := by omega
              obtain ⟨Tb, hTb⟩ : ∃ Tb, Tb = T := ⟨_, rfl⟩
              have hb1 : 64 * m + 64 * 0 ≤ Tb := by omega
              have hb2 : Tb ≤ m * 140737488351296 + 0 * 10000000064 := by rw [Nat.zero_mul, Nat.add_zero, hTb, ← hjm]; exact hT2
              rw [← hTb]
              clear hTb hT1 hT2 hjm HS2
              rename World => W6
              go_wp2
              clear hc0
              go_loopw [7, 11] (fun t i wx => ∃ j T : Nat, j ≤ m2 ∧ i = .int .i64 j ∧ t = .int .i64 T ∧ 64 * m + 64 * j ≤ T ∧ T ≤ m * 140737488351296 + j * 10000000064 ∧ Sd2 w F s m m2 (.slice ba m bc) (.slice ha m hc) (.slice ia m2 ic) (.slice ta m2 tc) es1 is1 wx) (fun _ i _ => m2 - (intOf i).toNat)
              case atStart => exact ⟨0, Tb, Nat.zero_le _, rfl, rfl, hb1, hb2, HS1.out⟩
              case round =>
                clear HS1
                obtain ⟨j2, T, hj2, rfl, rfl, hT1, hT2, hsd⟩ := hrel
                have hc0 := hsd.j.c0
                have HS2 : Hid (Sd2 w F s m m2 (.slice ba m bc) (.slice ha m hc) (.slice ia m2 ic) (.slice ta m2 tc) es1 is1 wr) := hsd
                by_cases hlt2 : j2 < m2
                · obtain ⟨g, gc, k, kc, e, hb, hh, he, cl, ch, hmem⟩ := hsd.j.look (j := j2) (by rw [hsd.len2]; exact hlt2)
                  obtain ⟨rfl, rfl⟩ : ia = some ⟨g, 0, none⟩ ∧ ic = gc := by injection hb with h1 _ h3; exact ⟨h1, h3⟩
                  have hfit := hsd.fit2 e hmem
                  obtain ⟨o1, o2, o3⟩ := hsd.j.ent e hmem
                  obtain ⟨n, hn⟩ : ∃ n, n = e.xs.length := ⟨_, rfl⟩
                  rw [← hn] at o1 hfit
                  obtain ⟨la, lc, hl⟩ := owns_shape o1
                  rw [hl] at cl
                  have HL0 : Hid (Longi w.heap.size F e (.slice la n lc) 0) := by
                    rw [hl] at o1
                    rcases owns_cells o1 with ⟨h0, _⟩ | ⟨b, cap, hv, _⟩
                    · rw [h0]; exact .inr (fun g hg => by simp [Value.ownBlock] at hg)
                    · rw [hv]; exact .inl ⟨b, cap, by rw [hl, hv, hn], by rw [hn]; rfl⟩
                  have HO0 : Hid (wr.ownsRow 0 3 1 (.slice la n lc) (n + 0) (e.xs.map iv ++ [])) := by rw [List.append_nil, ← hl]; exact o1
                  have HE : Hid (is1[j2]? = some e) := he
                  have HN : Hid (n = e.xs.length) := hn
                  clear hb hh he hmem o1 o2 o3 hn hl ch hsd
                  rename World => W7
                  go_wp2
                  go_loopw [12, 13] (fun l i wx => ∃ q : Nat, q ≤ 64 ∧ i = .int .i64 q ∧ Sd2 w F s m m2 (.slice ba m bc) (.slice ha m hc) (.slice (some ⟨g, 0, none⟩) m2 ic) (.slice ta m2 tc) es1 is1 wx ∧ Longi w.heap.size F e l q ∧ ∃ zs, wx.ownsRow 0 3 1 l (n + q) (e.xs.map iv ++ zs)) (fun _ i _ => 64 - (intOf i).toNat)
                  case atStart => exact ⟨0, by omega, rfl, HS2.out, HL0.out, [], HO0.out⟩
                  case round =>
                    clear HS2 HL0 HO0 hc0 cl
                    obtain ⟨q, hq, rfl, hsd, hlong, zs, hown⟩ := hrel
                    have HS3 : Hid (Sd2 w F s m m2 (.slice ba m bc) (.slice ha m hc) (.slice (some ⟨g, 0, none⟩) m2 ic) (.slice ta m2 tc) es1 is1 wr) := hsd
                    have HLO : Hid (Longi w.heap.size F e u12 q) := hlong
                    have HOW : Hid (wr.ownsRow 0 3 1 u12 (n + q) (e.xs.map iv ++ zs)) := hown
                    by_cases hl64 : q < 64
                    · have hx : True := trivial
                      have e1 : IntKind.i64.wrap (1000 + (j2 : Int)) = 1000 + (j2 : Int) := by rw [IntKind.wrap_i64]; omega
                      clear hsd hlong hown hx
                      go_wp2_with (at_builtin; refine wpList_append_own_two rfl _ _ 41 rfl 3 i3 (.int .i64 0) 8 Try.underlying41 hi3 hy0 hy1 hy2 rfl _ _ _ rfl (HOW.out.alloc _) ⟨wr.heap.size, 0, none⟩ 1 (.int .i64 (1000 + (j2 : Int))) rfl (cell_one_new _ _ _) (one_one _ _) (by unfold maxLen; omega) (by omega) ?_; intro v1 w1 own1 two1)
                      have HG : Hid (Sd2 w F s m m2 (.slice ba m bc) (.slice ha m hc) (.slice (some ⟨g, 0, none⟩) m2 ic) (.slice ta m2 tc) es1 is1 w1 ∧ Longi w.heap.size F e v1 (q + 1) ∧ ∃ zs, w1.ownsRow 0 3 1 v1 (n + (q + 1)) (e.xs.map iv ++ zs)) := HS3.out.grewi HE.out HN.out HLO.out HOW.out own1 two1
                      clear own1 two1
                      go_wp2
                      go_roundw
                      case rel => exact ⟨q + 1, by omega, by go_num, HG.out⟩
                      case measure => simp [intOf]; omega
                    · obtain ⟨a9, c9, rfl⟩ := owns_shape hown
                      have hq64 : q = 64 := by omega
                      subst hq64
                      clear hsd hlong hown
                      go_wp2
                      go_roundw
                      case rel => exact ⟨j2 + 1, T + (n + 64), by omega, by go_num, by go_num, by omega, by omega, HS3.out⟩
                      case measure => simp [intOf]; omega
                · have c96 : ∀ nd, Calls Try.prog 96 #[.pointer (some ⟨s, 0, none⟩)] (wr.drewN nd) fun ex w' => ex = .returned (.bool true) ∧ ∃ k, w' = (wr.drewN nd).drewN k := fun nd => holdsP_any F s es1 is1 (wr.drewN nd) (Spf.drewN ⟨_, _, _, _, hsd.g, hsd.j⟩ nd) (by rw [hsd.len]; exact hes) (by rw [hsd.len2]; exact his)
                  have hg0 := hsd.g.c0
                  clear hsd
                  have hjm : j2 = m2 := by omega
                  have hT3 : (64 * ((m : Int) + (m2 : Int)) ≤ (T : Int)) := by omega
                  clear hjm
                  go_wp2
                  go_quiet ((go_at_call 96; refine Calls.quiet_of (c96 _)))
                  go_wp2
                  go_ret
                  exact ⟨rfl, HS2.out.kept.drewN _⟩

end Go.Proofs.Ytakdfpenpodplaa
