/-
  emptied: other things written into a partition's lists.
-/
import Derived.Test.YtggkajopfbokjaaOEmpP
namespace Go.Proofs.Ytggkajopfbokjaa
open Go.RowKit
set_option linter.unusedVariables false
set_option maxRecDepth 100000

def evK (f : Nat → Bool) (ne k : Nat) : List Value := (List.range ne).map (fun i => .bool (if i < k then !(f i) else f i))
theorem evK_at (f : Nat → Bool) (ne k i : Nat) (hi : i < ne) : (evK f ne k)[i]? = some (.bool (if i < k then !(f i) else f i)) := by simp [evK, hi]
theorem evK_set (f : Nat → Bool) (ne k : Nat) (hk : k < ne) : (evK f ne k).set k (.bool (!(f k))) = evK f ne (k + 1) := by
  apply List.ext_getElem?
  intro i
  by_cases hi : i < ne
  · rw [evK_at f ne (k + 1) i hi]
    by_cases e : i = k
    · subst e
      rw [List.getElem?_set_self (by simp [evK]; exact hk), if_pos (by omega)]
    · rw [List.getElem?_set_ne (fun q => e q.symm), evK_at f ne k i hi]
      by_cases h2 : i < k
      · rw [if_pos h2, if_pos (by omega)]
      · rw [if_neg h2, if_neg (by omega)]
  · rw [List.getElem?_eq_none (by rw [List.length_set]; simp [evK]; omega), List.getElem?_eq_none (by simp [evK]; omega)]
/-- what emptied keeps -/
structure Em (w wr : World) (Aq : Array Value) (B g1 g2 g3 n ne nb c1 c2 c3 : Nat) (p q1 p' q' : Nat → Int) (us : List Value) : Prop where
  kept : Kept (fun k => k = g1 ∨ k = g2 ∨ k = g3) w wr
  box : wr.heap[w.heap.size]? = some (.cells Aq 37)
  r1 : Rw wr B 24 2 (.slice (some ⟨g1, 0, none⟩) n c1) n (cat (sF p q1) n) [.int .i64 0, .int .i64 (-77)]
  r2 : Rw wr B 4 1 (.slice (some ⟨g2, 0, none⟩) ne c2) ne us [.bool true]
  r3 : Rw wr B 27 2 (.slice (some ⟨g3, 0, none⟩) nb c3) nb (cat (sF p' q') nb) [.int .i64 (-77), .int .i64 0]
namespace Em
variable {w wr : World} {Aq : Array Value} {B g1 g2 g3 n ne nb c1 c2 c3 : Nat} {p q1 p' q' : Nat → Int} {us : List Value}
theorem other {t k m : Nat} {v : Value} {xs mk : List Value} {g x t' : Nat} {u : Value} {cs : Array Value} (hr : Rw wr B t k v m xs mk) (hg : wr.heap[g]? = some (.cells cs t')) (ht : t ≠ t') : Rw (wr.setCell ⟨g, x, none⟩ u) B t k v m xs mk :=
  hr.kept ((Kept.refl (fun j => j = g) wr).setCell (p := ⟨g, x, none⟩) (.inl rfl) u) (fun j hj e => by
    obtain ⟨_, cs', h1⟩ := hr.blk hj
    subst e
    exact ht (two_tags h1 hg))
theorem ev (h : Em w wr Aq B g1 g2 g3 n ne nb c1 c2 c3 p q1 p' q' us) {j : Nat} (hj : j < us.length) (u : Value) : Em w (wr.setCell ⟨g2, j, none⟩ u) Aq B g1 g2 g3 n ne nb c1 c2 c3 p q1 p' q' (us.set j u) := by
  obtain ⟨_, cs, hb⟩ := h.r2.blk (g := g2) rfl
  refine ⟨h.kept.setCell (.inl (.inr (.inl rfl))) _, ?_, other h.r1 hb (by decide), h.r2.set hj u, other h.r3 hb (by decide)⟩
  exact ((Kept.refl (fun k => k = g2) wr).setCell (p := ⟨g2, j, none⟩) (.inl rfl) u).at' h.box (fun e => by subst e; exact absurd (two_tags h.box hb) (by decide))
theorem sem (h : Em w wr Aq B g1 g2 g3 n ne nb c1 c2 c3 p q1 p' q' us) {k : Nat} (hk : k < n) (x y : Int) : Em w ((wr.setCell ⟨g1, k * 2, none⟩ (.int .i64 x)).setCell ⟨g1, k * 2 + 1, none⟩ (.int .i64 y)) Aq B g1 g2 g3 n ne nb c1 c2 c3 (upd p k x) (upd q1 k y) p' q' us := by
  obtain ⟨_, cs, hb⟩ := h.r1.blk (g := g1) rfl
  have hb2 := set_blk hb (k * 2) (.int .i64 x)
  have hl := cat_len (f := sF p q1) (s := 2) (fun _ => rfl) n
  have kk : Kept (fun j => j = g1) wr ((wr.setCell ⟨g1, k * 2, none⟩ (.int .i64 x)).setCell ⟨g1, k * 2 + 1, none⟩ (.int .i64 y)) := ((Kept.refl (fun j => j = g1) wr).setCell (p := ⟨g1, k * 2, none⟩) (.inl rfl) _).setCell (p := ⟨g1, k * 2 + 1, none⟩) (.inl rfl) _
  refine ⟨(h.kept.setCell (p := ⟨g1, k * 2, none⟩) (.inl (.inl rfl)) _).setCell (p := ⟨g1, k * 2 + 1, none⟩) (.inl (.inl rfl)) _, kk.at' h.box (fun e => by subst e; exact absurd (two_tags h.box hb) (by decide)), ?_, other (other h.r2 hb (by decide)) hb2 (by decide), other (other h.r3 hb (by decide)) hb2 (by decide)⟩
  rw [← cat_set2 p q1 x y n k hk]
  exact (h.r1.set (by omega) _).set (by rw [List.length_set]; omega) _
theorem buf (h : Em w wr Aq B g1 g2 g3 n ne nb c1 c2 c3 p q1 p' q' us) {k : Nat} (hk : k < nb) (x y : Int) : Em w ((wr.setCell ⟨g3, k * 2, none⟩ (.int .i64 x)).setCell ⟨g3, k * 2 + 1, none⟩ (.int .i64 y)) Aq B g1 g2 g3 n ne nb c1 c2 c3 p q1 (upd p' k x) (upd q' k y) us := by
  obtain ⟨_, cs, hb⟩ := h.r3.blk (g := g3) rfl
  have hb2 := set_blk hb (k * 2) (.int .i64 x)
  have hl := cat_len (f := sF p' q') (s := 2) (fun _ => rfl) nb
  have kk : Kept (fun j => j = g3) wr ((wr.setCell ⟨g3, k * 2, none⟩ (.int .i64 x)).setCell ⟨g3, k * 2 + 1, none⟩ (.int .i64 y)) := ((Kept.refl (fun j => j = g3) wr).setCell (p := ⟨g3, k * 2, none⟩) (.inl rfl) _).setCell (p := ⟨g3, k * 2 + 1, none⟩) (.inl rfl) _
  refine ⟨(h.kept.setCell (p := ⟨g3, k * 2, none⟩) (.inl (.inr (.inr rfl))) _).setCell (p := ⟨g3, k * 2 + 1, none⟩) (.inl (.inr (.inr rfl))) _, kk.at' h.box (fun e => by subst e; exact absurd (two_tags h.box hb) (by decide)), other (other h.r1 hb (by decide)) hb2 (by decide), other (other h.r2 hb (by decide)) hb2 (by decide), ?_⟩
  rw [← cat_set2 p' q' x y nb k hk]
  exact (h.r3.set (by omega) _).set (by rw [List.length_set]; omega) _
theorem drew (h : Em w wr Aq B g1 g2 g3 n ne nb c1 c2 c3 p q1 p' q' us) : Em w wr.drew Aq B g1 g2 g3 n ne nb c1 c2 c3 p q1 p' q' us :=
  ⟨h.kept.drew, h.box, h.r1.kept ((Kept.refl No wr).drew) (fun _ _ e => e), h.r2.kept ((Kept.refl No wr).drew) (fun _ _ e => e), h.r3.kept ((Kept.refl No wr).drew) (fun _ _ e => e)⟩
end Em
set_option maxHeartbeats 8000000 in
theorem emptied_any {Aq : Array Value} {n ne nb g1 g2 g3 c1 c2 c3 B : Nat} {p q1 p' q' : Nat → Int} {f : Nat → Bool} (w : World) (hAq : Aq.size = 21) (k18 : Aq[18]? = some (.slice (some ⟨g1, 0, none⟩) n c1)) (k19 : Aq[19]? = some (.slice (some ⟨g2, 0, none⟩) ne c2)) (k20 : Aq[20]? = some (.slice (some ⟨g3, 0, none⟩) nb c3)) (hn : n ≤ 4095) (hne : ne ≤ 4095) (hnb : nb ≤ 4095)
    (r1 : Rw w B 24 2 (.slice (some ⟨g1, 0, none⟩) n c1) n (cat (sF p q1) n) [.int .i64 0, .int .i64 (-77)]) (r2 : Rw w B 4 1 (.slice (some ⟨g2, 0, none⟩) ne c2) ne (evK f ne 0) [.bool true]) (r3 : Rw w B 27 2 (.slice (some ⟨g3, 0, none⟩) nb c3) nb (cat (sF p' q') nb) [.int .i64 (-77), .int .i64 0]) :
    Calls Try.prog 24 #[.agg Aq] w fun e w' => (∃ v, e = .returned v) ∧ Em w w' Aq B g1 g2 g3 n ne nb c1 c2 c3 (sK p p (-9) n) (sK q1 q1 (-9) n) (sK p' p' (-9) nb) (sK q' q' (-9) nb) (evK f ne ne) := by
  have y1 : n + 1 ≤ c1 ∧ c1 ≤ 9223372036854775807 := by obtain ⟨g, c, e, h1, h2, _⟩ := r1; injection e with _ _ e; subst e; exact ⟨h1, h2⟩
  have y2 : ne + 1 ≤ c2 ∧ c2 ≤ 9223372036854775807 := by obtain ⟨g, c, e, h1, h2, _⟩ := r2; injection e with _ _ e; subst e; exact ⟨h1, h2⟩
  have y3 : nb + 1 ≤ c3 ∧ c3 ≤ 9223372036854775807 := by obtain ⟨g, c, e, h1, h2, _⟩ := r3; injection e with _ _ e; subst e; exact ⟨h1, h2⟩
  obtain ⟨y1, y1'⟩ := y1
  obtain ⟨y2, y2'⟩ := y2
  obtain ⟨y3, y3'⟩ := y3
  have k1 : Kept No w (w.alloc (.cells Aq 37)) := (Kept.refl No w).alloc _
  have H0 : Hid (Em w (w.alloc (.cells Aq 37)) Aq B g1 g2 g3 n ne nb c1 c2 c3 (sK p p (-9) 0) (sK q1 q1 (-9) 0) (sK p' p' (-9) 0) (sK q' q' (-9) 0) (evK f ne 0)) := ⟨k1.mono (fun _ e => e.elim), alloc_new w _, r1.kept k1 (fun _ _ e => e), r2.kept k1 (fun _ _ e => e), r3.kept k1 (fun _ _ e => e)⟩
  have BC : Hid (∀ {W : World} {a b c d : Nat → Int} {us : List Value}, Em w W Aq B g1 g2 g3 n ne nb c1 c2 c3 a b c d us → W.cell? ⟨w.heap.size, 18, none⟩ = some (.slice (some ⟨g1, 0, none⟩) n c1) ∧ W.cell? ⟨w.heap.size, 19, none⟩ = some (.slice (some ⟨g2, 0, none⟩) ne c2) ∧ W.cell? ⟨w.heap.size, 20, none⟩ = some (.slice (some ⟨g3, 0, none⟩) nb c3)) := fun h => ⟨(cell_of_row _ _ 18 _ _ _ h.box).trans k18, (cell_of_row _ _ 19 _ _ _ h.box).trans k19, (cell_of_row _ _ 20 _ _ _ h.box).trans k20⟩
  clear r1 r2 r3 k1 k18 k19 k20
  go_enter Try.func24, Try.ntmps24
  go_upto_region 2 with fail
  clear hAq
  generalize (w.alloc (.cells Aq 37)) = w1 at *
  go_loopw [2] (fun x wr => ∃ (k : Nat), k ≤ ne ∧ x = .int .i64 k ∧ Em w wr Aq B g1 g2 g3 n ne nb c1 c2 c3 (sK p p (-9) 0) (sK q1 q1 (-9) 0) (sK p' p' (-9) 0) (sK q' q' (-9) 0) (evK f ne k)) (fun x _ => ne - (intOf x).toNat)
  case atStart => exact ⟨0, Nat.zero_le _, rfl, H0.out⟩
  case round =>
    clear H0
    obtain ⟨k, hk, rfl, hem⟩ := hrel
    have HE := hid hem
    obtain ⟨d0, d1, d2⟩ := BC.out hem
    clear hem
    by_cases hlt : k < ne
    · have hltz : (k : Int) < (ne : Int) := by omega
      have e0 : wr.cell? ⟨g2, k, none⟩ = some (.bool (f k)) := HE.out.r2.at_xs (by rw [evK_at f ne k k hlt, if_neg (by omega)])
      have z0 : wr.drew.frozen? ⟨g2, k, none⟩ = false := HE.out.drew.r2.fz k
      have HN : Hid (Em w (wr.drew.setCell ⟨g2, k, none⟩ (.bool (!(f k)))) Aq B g1 g2 g3 n ne nb c1 c2 c3 (sK p p (-9) 0) (sK q1 q1 (-9) 0) (sK p' p' (-9) 0) (sK q' q' (-9) 0) (evK f ne (k + 1))) := by
        rw [← evK_set f ne k hlt]
        exact HE.out.drew.ev (by simp [evK]; exact hlt) _
      clear HE d0 d2
      generalize f k = b at *
      go_upto_region 4 with fail
      go_region
      go_wp2
      go_roundw
      case rel => exact ⟨k + 1, by omega, by go_num, HN.out⟩
      case measure => simp [intOf]; omega
    · have hltz : ¬ (k : Int) < (ne : Int) := by omega
      have hkn : k = ne := by omega
      subst hkn
      go_upto_region 6 with fail
      clear d0 d1 d2
      go_loopw [3] (fun x wr => ∃ (m : Nat), m ≤ n ∧ x = .int .i64 m ∧ Em w wr Aq B g1 g2 g3 n k nb c1 c2 c3 (sK p p (-9) m) (sK q1 q1 (-9) m) (sK p' p' (-9) 0) (sK q' q' (-9) 0) (evK f k k)) (fun x _ => n - (intOf x).toNat)
      case atStart => exact ⟨0, Nat.zero_le _, rfl, HE.out⟩
      case round =>
        clear HE
        obtain ⟨m, hm, rfl, hem⟩ := hrel
        have HE := hid hem
        obtain ⟨d0, d1, d2⟩ := BC.out hem
        clear hem
        by_cases hlt2 : m < n
        · have hltz2 : (m : Int) < (n : Int) := by omega
          obtain ⟨e0, e1⟩ := HE.out.r1.pair hlt2
          have z0 := HE.out.r1.fz (m * 2)
          have z1 := HE.out.r1.fz (m * 2 + 1)
          have HN : Hid (Em w ((wr.setCell ⟨g1, m * 2, none⟩ (.int .i64 (-9))).setCell ⟨g1, m * 2 + 1, none⟩ (.int .i64 (-9))) Aq B g1 g2 g3 n k nb c1 c2 c3 (sK p p (-9) (m + 1)) (sK q1 q1 (-9) (m + 1)) (sK p' p' (-9) 0) (sK q' q' (-9) 0) (evK f k k)) := by
            rw [← upd_sK, ← upd_sK]
            exact HE.out.sem hlt2 (-9) (-9)
          clear HE d1 d2
          generalize sK p p (-9) m m = x at *
          generalize sK q1 q1 (-9) m m = y at *
          go_wp2
          go_roundw
          case rel => exact ⟨m + 1, by omega, by go_num, HN.out⟩
          case measure => simp [intOf]; omega
        · have hltz2 : ¬ (m : Int) < (n : Int) := by omega
          have hmn : m = n := by omega
          subst hmn
          go_upto_region 10 with fail
          clear d0 d1 d2
          go_loopw [4] (fun x wr => ∃ (j : Nat), j ≤ nb ∧ x = .int .i64 j ∧ Em w wr Aq B g1 g2 g3 m k nb c1 c2 c3 (sK p p (-9) m) (sK q1 q1 (-9) m) (sK p' p' (-9) j) (sK q' q' (-9) j) (evK f k k)) (fun x _ => nb - (intOf x).toNat)
          case atStart => exact ⟨0, Nat.zero_le _, rfl, HE.out⟩
          case round =>
            clear HE
            obtain ⟨j, hj, rfl, hem⟩ := hrel
            have HE := hid hem
            obtain ⟨d0, d1, d2⟩ := BC.out hem
            clear hem
            by_cases hlt3 : j < nb
            · have hltz3 : (j : Int) < (nb : Int) := by omega
              obtain ⟨e0, e1⟩ := HE.out.r3.pair hlt3
              have z0 := HE.out.r3.fz (j * 2)
              have z1 := HE.out.r3.fz (j * 2 + 1)
              have HN : Hid (Em w ((wr.setCell ⟨g3, j * 2, none⟩ (.int .i64 (-9))).setCell ⟨g3, j * 2 + 1, none⟩ (.int .i64 (-9))) Aq B g1 g2 g3 m k nb c1 c2 c3 (sK p p (-9) m) (sK q1 q1 (-9) m) (sK p' p' (-9) (j + 1)) (sK q' q' (-9) (j + 1)) (evK f k k)) := by
                rw [← upd_sK, ← upd_sK]
                exact HE.out.buf hlt3 (-9) (-9)
              clear HE d0 d1
              generalize sK p' p' (-9) j j = x at *
              generalize sK q' q' (-9) j j = y at *
              go_wp2
              go_roundw
              case rel => exact ⟨j + 1, by omega, by go_num, HN.out⟩
              case measure => simp [intOf]; omega
            · have hltz3 : ¬ (j : Int) < (nb : Int) := by omega
              have hjn : j = nb := by omega
              subst hjn
              go_wp2
              go_end0
              exact ⟨⟨_, rfl⟩, HE.out⟩
end Go.Proofs.Ytggkajopfbokjaa
