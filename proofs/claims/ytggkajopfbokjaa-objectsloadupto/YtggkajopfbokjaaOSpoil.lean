/-
  spoil: a state that was told is its holder's.
-/
import Derived.Test.YtggkajopfbokjaaOSpoP
namespace Go.Proofs.Ytggkajopfbokjaa
open Go.RowKit
set_option linter.unusedVariables false
set_option maxRecDepth 100000

/-- the first k turned to u -/
def rp (u : Value) (k : Nat) (xs : List Value) : List Value := List.replicate k u ++ xs.drop k
theorem rp_zero (u : Value) (xs : List Value) : rp u 0 xs = xs := by simp [rp]
theorem rp_len (u : Value) {k : Nat} {xs : List Value} (hk : k ≤ xs.length) : (rp u k xs).length = xs.length := by simp [rp]; omega
theorem rp_at (u : Value) {k : Nat} {xs : List Value} (hk : k < xs.length) : (rp u k xs)[k]? = some xs[k] := by
  simp [rp, List.getElem?_append_right, hk]
theorem rp_set (u : Value) {k : Nat} {xs : List Value} (hk : k < xs.length) : (rp u k xs).set k u = rp u (k + 1) xs := by
  apply List.ext_getElem?
  intro i
  have hl := rp_len u (Nat.le_of_lt hk)
  by_cases e : i = k
  · subst e
    rw [List.getElem?_set_self (by omega)]
    simp [rp, List.getElem?_append_left]
  · rw [List.getElem?_set_ne (fun q => e q.symm)]
    unfold rp
    by_cases h2 : i < k
    · rw [List.getElem?_append_left (by simp; exact h2), List.getElem?_append_left (by simp; omega), List.getElem?_replicate, List.getElem?_replicate, if_pos h2, if_pos (by omega)]
    · rw [List.getElem?_append_right (by simp; omega), List.getElem?_append_right (by simp; omega)]
      simp
      congr 1
      omega
/-- the k-th place of a good list -/
theorem GoodL.at_k {w : World} {B M n c : Nat} {a : Option Addr} (h : GoodL w B M (.slice a n c)) {k : Nat} (hk : k < n) : ∃ gl cl u, a = some ⟨gl, 0, none⟩ ∧ B ≤ gl ∧ gl < M ∧ w.heap[gl]? = some (.cells cl 31 (0, 0)) ∧ cl[k]? = some u ∧ GoodM w B M u := by
  obtain ⟨a', n', c', e, h1, h2, h3 | ⟨g, rfl, h4, h5, cs, h6, h7, h8⟩⟩ := h
  · injection e with _ e _; omega
  · injection e with e1 e2 _
    subst e1 e2
    have hc : cs[k]? = some cs[k] := Array.getElem?_eq_getElem (by omega)
    exact ⟨g, cs, _, rfl, h4, h5, h6, hc, h8 k _ hk hc⟩
theorem GoodM.at_j {w : World} {B M n c : Nat} {a : Option Addr} (h : GoodM w B M (.slice a n c)) {j : Nat} (hj : j < n) : ∃ gm cm x, a = some ⟨gm, 0, none⟩ ∧ B ≤ gm ∧ gm < M ∧ w.heap[gm]? = some (.cells cm 2 (0, 0)) ∧ cm[j]? = some (.int .i64 x) := by
  obtain ⟨a', n', c', e, h1, h2, h3 | ⟨g, rfl, h4, h5, cs, h6, h7, h8⟩⟩ := h
  · injection e with _ e _; omega
  · injection e with e1 e2 _
    subst e1 e2
    have hc : cs[j]? = some cs[j] := Array.getElem?_eq_getElem (by omega)
    obtain ⟨x, hx⟩ := h8 j _ hj hc
    exact ⟨g, cs, x, rfl, h4, h5, h6, by rw [hc, hx]⟩
theorem rp_all (u : Value) (xs : List Value) : rp u xs.length xs = List.replicate xs.length u := by simp [rp]
set_option maxHeartbeats 16000000 in
theorem spoil_any {B M ne : Nat} {ts te tb : Value} {cs lvs : List Value} {f : Nat → Bool} (w : World) (hs : Rs w B M 3 ts cs) (he : Rs w B M 4 te (evK f ne 0)) (hb : Rs w B M 40 tb lvs) (hg : ∀ (i : Nat) (lv : Value), lvs[i]? = some lv → GoodL w B M lv) (hM : M ≤ w.heap.size) (hn : cs.length ≤ 4095) (hne : ne ≤ 4095) (hnb : lvs.length ≤ 4095) (hi : ∀ (j : Nat) (u : Value), cs[j]? = some u → ∃ x : Int, u = .int .i64 x) :
    Calls Try.prog 23 #[.agg #[ts, te, tb]] w fun e w' => (∃ v, e = .returned v) ∧ Sy w w' B M ts te tb (List.replicate cs.length (.int .i64 (-9))) (evK f ne ne) (List.replicate lvs.length (.slice none 0 0)) := by
  have hel : (evK f ne 0).length = ne := by simp [evK]
  obtain ⟨ta, tc, rfl, x1, x2⟩ := hs.shape
  obtain ⟨va, vc, hte, x3, x4⟩ := he.shape
  rw [hel] at hte x3
  subst hte
  obtain ⟨la, lc, rfl, x5, x6⟩ := hb.shape
  have k1 : Kept No w (w.alloc (.cells #[.slice ta cs.length tc, .slice va ne vc, .slice la lvs.length lc] 55)) := (Kept.refl No w).alloc _
  have H0 : Hid (Sy w (w.alloc (.cells #[.slice ta cs.length tc, .slice va ne vc, .slice la lvs.length lc] 55)) B M (.slice ta cs.length tc) (.slice va ne vc) (.slice la lvs.length lc) (rp (.int .i64 (-9)) 0 cs) (evK f ne 0) (rp (.slice none 0 0) 0 lvs)) := by
    rw [rp_zero, rp_zero]
    exact ⟨k1.mono (fun _ e => e.elim), alloc_new w _, hs.kept k1 (fun _ _ e => e), he.kept k1 (fun _ _ e => e), hb.kept k1 (fun _ _ e => e), fun i lv h => (hg i lv h).kept k1 (fun _ _ _ e => e), hM⟩
  have BC : Hid (∀ {W : World} {a b c : List Value}, Sy w W B M (.slice ta cs.length tc) (.slice va ne vc) (.slice la lvs.length lc) a b c → W.cell? ⟨w.heap.size, 0, none⟩ = some (.slice ta cs.length tc) ∧ W.cell? ⟨w.heap.size, 1, none⟩ = some (.slice va ne vc) ∧ W.cell? ⟨w.heap.size, 2, none⟩ = some (.slice la lvs.length lc)) := fun h => ⟨(cell_blk h.box 0).trans rfl, (cell_blk h.box 1).trans rfl, (cell_blk h.box 2).trans rfl⟩
  have HI := hid hi
  clear hs he hb hg k1 hel hi
  go_enter Try.func23, Try.ntmps23
  go_upto_region 2 with fail
  generalize (w.alloc (.cells #[.slice ta cs.length tc, .slice va ne vc, .slice la lvs.length lc] 55)) = w1 at *
  go_loopw [2] (fun x wr => ∃ (k : Nat), k ≤ cs.length ∧ x = .int .i64 k ∧ Sy w wr B M (.slice ta cs.length tc) (.slice va ne vc) (.slice la lvs.length lc) (rp (.int .i64 (-9)) k cs) (evK f ne 0) (rp (.slice none 0 0) 0 lvs)) (fun x _ => cs.length - (intOf x).toNat)
  case atStart => exact ⟨0, Nat.zero_le _, rfl, H0.out⟩
  case round =>
    clear H0
    obtain ⟨k, hk, rfl, hsy⟩ := hrel
    have HS := hid hsy
    obtain ⟨d0, d1, d2⟩ := BC.out hsy
    clear hsy
    by_cases hlt : k < cs.length
    · have hltz : (k : Int) < (cs.length : Int) := by omega
      obtain ⟨g, c, hv, hgo, e0, fz⟩ := HS.out.sems.look (rp_at _ hlt)
      rw [rp_len _ hk] at hv
      injection hv with hv _ hv2
      subst hv hv2
      obtain ⟨x0, hx0⟩ := HI.out k _ (List.getElem?_eq_getElem hlt)
      rw [hx0] at e0
      have z0 := fz k
      have HN : Hid (Sy w (wr.setCell ⟨g, k, none⟩ (.int .i64 (-9))) B M (.slice (some ⟨g, 0, none⟩) cs.length tc) (.slice va ne vc) (.slice la lvs.length lc) (rp (.int .i64 (-9)) (k + 1) cs) (evK f ne 0) (rp (.slice none 0 0) 0 lvs)) := by
        rw [← rp_set _ hlt]
        exact HS.out.sem hgo (by rw [rp_len _ hk]; exact hlt) _
      clear HS d1 d2 fz hgo hx0
      go_wp2
      go_roundw
      case rel => exact ⟨k + 1, by omega, by go_num, HN.out⟩
      case measure => simp [intOf]; omega
    · have hltz : ¬ (k : Int) < (cs.length : Int) := by omega
      have hkn : k = cs.length := by omega
      subst hkn
      go_upto_region 6 with fail
      clear d0 d1 d2
      go_loopw [3] (fun x wr => ∃ (m : Nat), m ≤ ne ∧ x = .int .i64 m ∧ Sy w wr B M (.slice ta cs.length tc) (.slice va ne vc) (.slice la lvs.length lc) (rp (.int .i64 (-9)) cs.length cs) (evK f ne m) (rp (.slice none 0 0) 0 lvs)) (fun x _ => ne - (intOf x).toNat)
      case atStart => exact ⟨0, Nat.zero_le _, rfl, HS.out⟩
      case round =>
        clear HS
        obtain ⟨m, hm, rfl, hsy⟩ := hrel
        have HS := hid hsy
        obtain ⟨d0, d1, d2⟩ := BC.out hsy
        clear hsy
        by_cases hlt2 : m < ne
        · have hltz2 : (m : Int) < (ne : Int) := by omega
          have hel : (evK f ne m).length = ne := by simp [evK]
          obtain ⟨g, c, hv, hgo, e0, fz⟩ := HS.out.evs.look (i := m) (u := .bool (f m)) (by rw [evK_at f ne m m hlt2, if_neg (by omega)])
          rw [hel] at hv
          injection hv with hv _ hv2
          subst hv hv2
          have z0 : wr.drew.frozen? ⟨g, m, none⟩ = false := fz m
          have HD : Sy w wr.drew B M (.slice ta cs.length tc) (.slice (some ⟨g, 0, none⟩) ne vc) (.slice la lvs.length lc) (rp (.int .i64 (-9)) cs.length cs) (evK f ne m) (rp (.slice none 0 0) 0 lvs) := ⟨HS.out.kept.drew, HS.out.box, HS.out.sems.kept ((Kept.refl No wr).drew) (fun _ _ e => e), HS.out.evs.kept ((Kept.refl No wr).drew) (fun _ _ e => e), HS.out.bufs.kept ((Kept.refl No wr).drew) (fun _ _ e => e), fun i lv h => (HS.out.good i lv h).kept ((Kept.refl No wr).drew) (fun _ _ _ e => e), HS.out.le⟩
          have HN : Hid (Sy w (wr.drew.setCell ⟨g, m, none⟩ (.bool (!(f m)))) B M (.slice ta cs.length tc) (.slice (some ⟨g, 0, none⟩) ne vc) (.slice la lvs.length lc) (rp (.int .i64 (-9)) cs.length cs) (evK f ne (m + 1)) (rp (.slice none 0 0) 0 lvs)) := by
            rw [← evK_set f ne m hlt2]
            exact HD.ev hgo (by rw [hel]; exact hlt2) _
          clear HS HD d0 d2 fz hgo hel
          generalize f m = b at *
          go_upto_region 8 with fail
          go_region
          go_wp2
          go_roundw
          case rel => exact ⟨m + 1, by omega, by go_num, HN.out⟩
          case measure => simp [intOf]; omega
        · have hltz2 : ¬ (m : Int) < (ne : Int) := by omega
          have hmn : m = ne := by omega
          subst hmn
          go_upto_region 10 with fail
          clear d0 d1 d2
          go_loopw [4] (fun x wr => ∃ (i : Nat), i ≤ lvs.length ∧ x = .int .i64 i ∧ Sy w wr B M (.slice ta cs.length tc) (.slice va m vc) (.slice la lvs.length lc) (rp (.int .i64 (-9)) cs.length cs) (evK f m m) (rp (.slice none 0 0) i lvs)) (fun x _ => lvs.length - (intOf x).toNat)
          case atStart => exact ⟨0, Nat.zero_le _, rfl, HS.out⟩
          case round =>
            clear HS
            obtain ⟨i, hi, rfl, hsy⟩ := hrel
            have HS := hid hsy
            obtain ⟨d0, d1, d2⟩ := BC.out hsy
            clear hsy
            by_cases hlt3 : i < lvs.length
            · have hltz3 : (i : Int) < (lvs.length : Int) := by omega
              obtain ⟨g, c, hv, hgo, e0, fz⟩ := HS.out.bufs.look (rp_at _ hlt3)
              rw [rp_len _ hi] at hv
              injection hv with hv _ hv2
              subst hv hv2
              obtain ⟨na, nn, nc, hlv, n1, n2, _⟩ := HS.out.good i _ (rp_at _ hlt3)
              have HLV := hid hlv
              clear e0 fz d0 d1
              go_upto_region 13 with fail
              clear d2
              go_loopw [5] (fun x wr => ∃ (k : Nat), k ≤ nn ∧ x = .int .i64 k ∧ Sy w wr B M (.slice ta cs.length tc) (.slice va m vc) (.slice (some ⟨g, 0, none⟩) lvs.length lc) (rp (.int .i64 (-9)) cs.length cs) (evK f m m) (rp (.slice none 0 0) i lvs)) (fun x _ => nn - (intOf x).toNat)
              case atStart => exact ⟨0, Nat.zero_le _, rfl, HS.out⟩
              case round =>
                clear HS
                obtain ⟨k, hk2, rfl, hsy⟩ := hrel
                have HS := hid hsy
                obtain ⟨d0, d1, d2⟩ := BC.out hsy
                obtain ⟨g', c', hv, _, e0, fz⟩ := hsy.bufs.look (rp_at _ hlt3)
                rw [rp_len _ hi] at hv
                injection hv with hv _ hcc
                injection hv with hv
                injection hv with hv _ _
                subst hv hcc
                rw [HLV.out] at e0
                have z0 := fz i
                clear hsy d0 d1 fz
                by_cases hlt4 : k < nn
                · have hltz4 : (k : Int) < (nn : Int) := by omega
                  have gl0 := HS.out.good i _ (rp_at _ hlt3)
                  rw [HLV.out] at gl0
                  obtain ⟨gl, cl, u, rfl, lB, lM, hbl, hu, gm⟩ := gl0.at_k hlt4
                  obtain ⟨xa, xn, xc, rfl, xc1, xc2, _⟩ := gm
                  have HU : Hid (wr.cell? ⟨gl, k, none⟩ = some (.slice xa xn xc)) := (cell_blk hbl k).trans hu
                  clear gl0 hu hbl
                  go_upto_region 16 with fail
                  clear d2 e0 z0
                  obtain ⟨wz, hwz⟩ : ∃ wz, wz = wr := ⟨_, rfl⟩
                  subst hwz
                  go_loopw [6] (fun x wr => ∃ (j : Nat), j ≤ xn ∧ x = .int .i64 j ∧ Sy w wr B M (.slice ta cs.length tc) (.slice va m vc) (.slice (some ⟨g, 0, none⟩) lvs.length lc) (rp (.int .i64 (-9)) cs.length cs) (evK f m m) (rp (.slice none 0 0) i lvs) ∧ wr.cell? ⟨gl, k, none⟩ = some (.slice xa xn xc)) (fun x _ => xn - (intOf x).toNat)
                  case atStart => exact ⟨0, Nat.zero_le _, rfl, HS.out, HU.out⟩
                  case round =>
                    clear HS HU
                    obtain ⟨j, hj, rfl, hsy, hcu⟩ := hrel
                    have HS := hid hsy
                    obtain ⟨d0, d1, d2⟩ := BC.out hsy
                    obtain ⟨g', c', hv, _, e0, fz⟩ := hsy.bufs.look (rp_at _ hlt3)
                    rw [rp_len _ hi] at hv
                    injection hv with hv _ hcc
                    injection hv with hv
                    injection hv with hv _ _
                    subst hv hcc
                    rw [HLV.out] at e0
                    have gl0 := hsy.good i _ (rp_at _ hlt3)
                    rw [HLV.out] at gl0
                    obtain ⟨gl', cl', u', hgl, _, _, hbl, hu', gm'⟩ := gl0.at_k hlt4
                    injection hgl with hgl
                    injection hgl with hgl _ _
                    subst hgl
                    have hcu2 := (cell_blk hbl k).symm.trans hcu
                    rw [hu'] at hcu2
                    injection hcu2 with hcu2
                    subst hcu2
                    clear hsy d0 d1 fz gl0
                    by_cases hlt5 : j < xn
                    · have hltz5 : (j : Int) < (xn : Int) := by omega
                      obtain ⟨gq, cq, y, rfl, qB, qM, hbq, hq⟩ := gm'.at_j hlt5
                      have eq0 : wr.cell? ⟨gq, j, none⟩ = some (.int .i64 y) := (cell_blk hbq j).trans hq
                      have zq := fz_blk hbq j
                      have HN : Hid (Sy w (wr.setCell ⟨gq, j, none⟩ (.int .i64 (-9))) B M (.slice ta cs.length tc) (.slice va m vc) (.slice (some ⟨g, 0, none⟩) lvs.length lc) (rp (.int .i64 (-9)) cs.length cs) (evK f m m) (rp (.slice none 0 0) i lvs) ∧ (wr.setCell ⟨gq, j, none⟩ (.int .i64 (-9))).cell? ⟨gl, k, none⟩ = some (.slice (some ⟨gq, 0, none⟩) xn xc)) := ⟨HS.out.word hbq qB qM _, ((Kept.refl (fun q => q = gq) wr).setCell (p := ⟨gq, j, none⟩) (.inl rfl) (.int .i64 (-9))).cell hcu (fun e => by have e' : gl = gq := e; subst e'; exact absurd (two_tags hbl hbq) (by decide))⟩
                      clear HS hbl hu' gm' hbq hq
                      go_wp2
                      go_roundw
                      case rel => exact ⟨j + 1, by omega, by go_num, HN.out.1, HN.out.2⟩
                      case measure => simp [intOf]; omega
                    · have hltz5 : ¬ (j : Int) < (xn : Int) := by omega
                      have zl := fz_blk hbl k
                      have HN := hid (HS.out.place (j := k) hbl lB lM)
                      clear HS hbl hu' gm'
                      go_wp2
                      go_roundw
                      case rel => exact ⟨k + 1, by omega, by go_num, HN.out⟩
                      case measure => simp [intOf]; omega
                · have hltz4 : ¬ (k : Int) < (nn : Int) := by omega
                  have HN : Hid (Sy w (wr.setCell ⟨g, i, none⟩ (.slice none 0 0)) B M (.slice ta cs.length tc) (.slice va m vc) (.slice (some ⟨g, 0, none⟩) lvs.length lc) (rp (.int .i64 (-9)) cs.length cs) (evK f m m) (rp (.slice none 0 0) (i + 1) lvs)) := by
                    rw [← rp_set _ hlt3]
                    exact HS.out.buf rfl (by rw [rp_len _ hi]; exact hlt3)
                  clear HS
                  go_wp2
                  go_roundw
                  case rel => exact ⟨i + 1, by omega, by go_num, HN.out⟩
                  case measure => simp [intOf]; omega
            · have hltz3 : ¬ (i : Int) < (lvs.length : Int) := by omega
              have hin : i = lvs.length := by omega
              subst hin
              go_wp2
              go_end0
              refine ⟨⟨_, rfl⟩, ?_⟩
              have := HS.out
              rw [rp_all, rp_all] at this
              exact this
end Go.Proofs.Ytggkajopfbokjaa
