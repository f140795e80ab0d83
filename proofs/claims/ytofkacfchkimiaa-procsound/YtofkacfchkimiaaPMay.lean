/-
  may: the one that is picked may run.
-/
import Derived.Test.YtofkacfchkimiaaPSndQ
import Derived.Test.YtofkacfchkimiaaPSt28
import Derived.Deep.DeepCutAuto
namespace Go.Proofs.Ytofkacfchkimiaa
open Go.RowKit
set_option linter.unusedVariables false
set_option linter.unusedSimpArgs false
set_option maxRecDepth 100000

section
variable {w1 W : World} {T : Tt} {g vc : Nat} {ds : Nat → Value}
theorem StL.c {n : Nat} (h : StL w1 W T n (.slice (some ⟨g, 0, none⟩) n vc) ds) {k : Nat} (hk : k < n) : W.cell? ⟨g, k * 28, none⟩ = some (.int .i64 (T.ps k).st) ∧ W.cell? ⟨g, k * 28 + 1, none⟩ = some (.int .i64 (T.ps k).pri) ∧ W.cell? ⟨g, k * 28 + 2, none⟩ = some (.int .i64 (T.ps k).pl) := by
  obtain ⟨g', e, _, r⟩ := h.row hk
  injection e with e
  injection e with e _ _
  subst e
  exact ⟨r 0 _ rfl, r 1 _ rfl, r 2 _ rfl⟩
theorem may_hand {n : Nat} (h : StL w1 W T n (.slice (some ⟨g, 0, none⟩) n vc) ds) (hn : n ≤ 1048576) (lk : Int) {r : Nat} (hr : r < n) (hs : (T.ps r).st = 1) : Calls Try.prog 64 #[.slice (some ⟨g, 0, none⟩) n vc, .int .i64 lk, .int .i64 ((r : Int) + 1), .int .i64 ((r : Int) + 1)] W fun e w' => e = .returned (.bool true) ∧ Kept No W w' := by
  obtain ⟨c0, _, _⟩ := h.c hr
  obtain ⟨hc1, hc2⟩ := h.cap
  rw [hs] at c0
  have hrz : (r : Int) < (n : Int) := by omega
  have g1 : ¬ (r : Int) + 1 < 1 := by omega
  have g2 : ¬ (n : Int) < (r : Int) + 1 := by omega
  have g3 : 0 < (r : Int) + 1 := by omega
  clear h hs
  go_enter Try.func64, Try.ntmps64
  go_wp2
  go_ret
  exact ⟨rfl, Kept.refl _ _⟩
/-- the handler is not READY -/
def Nh (T : Tt) (n : Nat) (hd : Int) : Prop := hd = 0 ∨ ∃ i, i < n ∧ hd = (i : Int) + 1 ∧ (T.ps i).st ≠ 1
theorem may_lock {n : Nat} (h : StL w1 W T n (.slice (some ⟨g, 0, none⟩) n vc) ds) (hn : n ≤ 1048576) {hd : Int} (hh : Nh T n hd) {r : Nat} (hr : r < n) (hs : (T.ps r).st = 1) : Calls Try.prog 64 #[.slice (some ⟨g, 0, none⟩) n vc, .int .i64 ((r : Int) + 1), .int .i64 hd, .int .i64 ((r : Int) + 1)] W fun e w' => e = .returned (.bool true) ∧ Kept No W w' := by
  obtain ⟨c0, _, _⟩ := h.c hr
  obtain ⟨hc1, hc2⟩ := h.cap
  rw [hs] at c0
  have hrz : (r : Int) < (n : Int) := by omega
  have g1 : ¬ (r : Int) + 1 < 1 := by omega
  have g2 : ¬ (n : Int) < (r : Int) + 1 := by omega
  have g3 : 0 < (r : Int) + 1 := by omega
  rcases hh with rfl | ⟨i, hi, rfl, hi1⟩
  · clear h hs
    go_enter Try.func64, Try.ntmps64
    go_wp2
    go_ret
    exact ⟨rfl, Kept.refl _ _⟩
  · obtain ⟨d0, _, _⟩ := h.c hi
    have hiz : (i : Int) < (n : Int) := by omega
    have g4 : 0 < (i : Int) + 1 := by omega
    have g5 : ((T.ps i).st == 1) = false := by simp [hi1]
    clear h hs hi1
    go_enter Try.func64, Try.ntmps64
    go_wp2
    go_ret
    exact ⟨rfl, Kept.refl _ _⟩
set_option maxHeartbeats 4000000 in
theorem may_line {n : Nat} (h : StL w1 W T n (.slice (some ⟨g, 0, none⟩) n vc) ds) (hn : n ≤ 1048576) {hd : Int} (hh : Nh T n hd) {r : Nat} (hr : r < n) (hs : (T.ps r).st = 1) (hb : ∀ j, j < n → (T.ps j).st = 1 → ¬ (T.ps j).ahead (T.ps r)) : Calls Try.prog 64 #[.slice (some ⟨g, 0, none⟩) n vc, .int .i64 0, .int .i64 hd, .int .i64 ((r : Int) + 1)] W fun e w' => e = .returned (.bool true) ∧ Kept No W w' := by
  obtain ⟨c0, _, _⟩ := h.c hr
  obtain ⟨hc1, hc2⟩ := h.cap
  rw [hs] at c0
  have hrz : (r : Int) < (n : Int) := by omega
  have g1 : ¬ (r : Int) + 1 < 1 := by omega
  have g2 : ¬ (n : Int) < (r : Int) + 1 := by omega
  have HB := hid hb
  have HH := hid h
  obtain ⟨g', e, _, rr⟩ := h.row hr
  injection e with e
  injection e with e _ _
  subst e
  obtain ⟨X, hX⟩ : ∃ X, X = (T.ps r).val (ds r) := ⟨_, rfl⟩
  have LX := hid (ldSt rr rfl)
  rw [← hX] at LX
  have OX : Hid (X.size = 28 ∧ X.all (·.oneCell') = true) := by
    obtain ⟨xa, xc, ex, _⟩ := h.2.2.1 r hr
    rw [hX, ex]; exact ⟨rfl, val_one _⟩
  have bx := hid (alloc_new W (.cells Z28 48))
  have HX : Hid ((put28 W X).heap[W.heap.size]? = some (.cells ((T.ps r).val (ds r)) 48)) := by rw [← hX]; exact put28_at W X
  have K1 := hid (put28_kept W X)
  clear h hs hb rr hX
  rcases hh with rfl | ⟨i, hi, rfl, hi1⟩
  · go_enter Try.func64, Try.ntmps64
    go_wp2_with (first
      | (refine l_take 52 rfl rfl (er_ld 48 (.tmp 51) rfl _ (.agg X) rfl LX.out) ?_)
      | (refine list_make rfl 9 rfl (er_alS rfl) ?_)
      | (refine wpList_store_row rfl 48 (.tmp 9) (.tmp 52) rfl W.heap.size X rfl rfl _ Z28 bx.out (by rw [OX.out.1]; exact Try.info48) OX.out.1.symm OX.out.2 ?_; rw [show (W.alloc (.cells Z28 48)).setRow W.heap.size X = put28 W X from rfl]))
    clear LX OX bx
    generalize put28 W X = w5 at *
    go_loopw [10] (fun i wr => ∃ k : Nat, k ≤ n ∧ i = .int .i64 k ∧ Kept No w5 wr) (fun i _ => n - (intOf i).toNat)
    case atStart => exact ⟨0, Nat.zero_le _, rfl, Kept.refl _ _⟩
    case round =>
      obtain ⟨k, hk, rfl, kr⟩ := hrel
      by_cases hlt : k < n
      · have hltz : (k : Int) < (n : Int) := by omega
        have kall : Kept No W wr := K1.out.trans kr (fun _ e => .inl e)
        have hst := HH.out.keep kall
        obtain ⟨g', e, _, ry⟩ := hst.row hlt
        injection e with e
        injection e with e _ _
        subst e
        obtain ⟨Y, hY⟩ : ∃ Y, Y = (T.ps k).val (ds k) := ⟨_, rfl⟩
        have LY := hid (ldSt ry rfl)
        rw [← hY] at LY
        have OY : Hid (Y.size = 28 ∧ Y.all (·.oneCell') = true) := by
          obtain ⟨xa, xc, ex, _⟩ := hst.2.2.1 k hlt
          rw [hY, ex]; exact ⟨rfl, val_one _⟩
        have by' := hid (alloc_new wr (.cells Z28 48))
        have k2 := put28_kept wr Y
        have HY : (put28 wr Y).heap[wr.heap.size]? = some (.cells ((T.ps k).val (ds k)) 48) := by rw [← hY]; exact put28_at wr Y
        have HX2 := k2.at' (kr.at' HX.out (fun e => e)) (fun e => e)
        have KK := hid (kr.trans k2 (fun _ e => .inl e))
        have y0 : (put28 wr Y).cell? ⟨wr.heap.size, 0, none⟩ = some (.int .i64 (T.ps k).st) := cell_row HY rfl
        have y1 : (put28 wr Y).cell? ⟨wr.heap.size, 1, none⟩ = some (.int .i64 (T.ps k).pri) := cell_row HY rfl
        have y2 : (put28 wr Y).cell? ⟨wr.heap.size, 2, none⟩ = some (.int .i64 (T.ps k).pl) := cell_row HY rfl
        have x1 : (put28 wr Y).cell? ⟨W.heap.size, 1, none⟩ = some (.int .i64 (T.ps r).pri) := cell_row HX2 rfl
        have x2 : (put28 wr Y).cell? ⟨W.heap.size, 2, none⟩ = some (.int .i64 (T.ps r).pl) := cell_row HX2 rfl
        have AH := hid (HB.out k hlt)
        clear kr kall hst ry hY k2 HY HX2
        go_upto_region 12 with (first
          | (refine l_take 62 rfl rfl (er_ld 48 (.tmp 61) rfl _ (.agg Y) rfl LY.out) ?_)
          | (refine list_make rfl 11 rfl (er_alS rfl) ?_)
          | (refine wpList_store_row rfl 48 (.tmp 11) (.tmp 62) rfl wr.heap.size Y rfl rfl _ Z28 by'.out (by rw [OY.out.1]; exact Try.info48) OY.out.1.symm OY.out.2 ?_; rw [show (wr.alloc (.cells Z28 48)).setRow wr.heap.size Y = put28 wr Y from rfl]))
        clear LY OY by'
        generalize put28 wr Y = w6 at *
        generalize wr.heap.size = yb at *
        generalize hps : T.ps k = p at *
        generalize hpr : T.ps r = z at *
        by_cases s1 : p.st = 1
        · rw [s1] at y0
          by_cases ek : k = r
          · subst ek
            clear s1 hps hpr
            go_wp2
            refine ⟨⟨k + 1, by omega, by go_num, KK.out⟩, ?_⟩
            simp [intOf]; omega
          · have ek' : ((k : Int) == (r : Int)) = false := by simp; omega
            have ah := AH.out s1
            unfold Pr.ahead at ah
            have a1 : ¬ z.pri < p.pri := fun e => ah (.inl e)
            by_cases e1 : p.pri = z.pri
            · have a2 : ¬ p.pl < z.pl := fun e => ah (.inr ⟨e1, e⟩)
              rw [e1] at y1
              clear ah s1 hps hpr a1 e1
              go_wp2
              refine ⟨⟨k + 1, by omega, by go_num, KK.out⟩, ?_⟩
              simp [intOf]; omega
            · have e1' : (p.pri == z.pri) = false := by simp [e1]
              clear ah s1 hps hpr e1
              go_wp2
              refine ⟨⟨k + 1, by omega, by go_num, KK.out⟩, ?_⟩
              simp [intOf]; omega
        · have s1' : (p.st == 1) = false := by simp [s1]
          clear s1 hps hpr
          go_wp2
          refine ⟨⟨k + 1, by omega, by go_num, KK.out⟩, ?_⟩
          simp [intOf]; omega
      · have hltz : ¬ (k : Int) < (n : Int) := by omega
        have KK := hid (K1.out.trans kr (fun _ e => .inl e))
        go_wp2
        go_ret
        exact ⟨rfl, KK.out⟩
  · obtain ⟨d0, _, _⟩ := HH.out.c hi
    have hiz : (i : Int) < (n : Int) := by omega
    have g4 : 0 < (i : Int) + 1 := by omega
    have g5 : ((T.ps i).st == 1) = false := by simp [hi1]
    clear hi1
    go_enter Try.func64, Try.ntmps64
    go_wp2_with (first
      | (refine l_take 52 rfl rfl (er_ld 48 (.tmp 51) rfl _ (.agg X) rfl LX.out) ?_)
      | (refine list_make rfl 9 rfl (er_alS rfl) ?_)
      | (refine wpList_store_row rfl 48 (.tmp 9) (.tmp 52) rfl W.heap.size X rfl rfl _ Z28 bx.out (by rw [OX.out.1]; exact Try.info48) OX.out.1.symm OX.out.2 ?_; rw [show (W.alloc (.cells Z28 48)).setRow W.heap.size X = put28 W X from rfl]))
    clear LX OX bx
    generalize put28 W X = w5 at *
    go_loopw [10] (fun i wr => ∃ k : Nat, k ≤ n ∧ i = .int .i64 k ∧ Kept No w5 wr) (fun i _ => n - (intOf i).toNat)
    case atStart => exact ⟨0, Nat.zero_le _, rfl, Kept.refl _ _⟩
    case round =>
      obtain ⟨k, hk, rfl, kr⟩ := hrel
      by_cases hlt : k < n
      · have hltz : (k : Int) < (n : Int) := by omega
        have kall : Kept No W wr := K1.out.trans kr (fun _ e => .inl e)
        have hst := HH.out.keep kall
        obtain ⟨g', e, _, ry⟩ := hst.row hlt
        injection e with e
        injection e with e _ _
        subst e
        obtain ⟨Y, hY⟩ : ∃ Y, Y = (T.ps k).val (ds k) := ⟨_, rfl⟩
        have LY := hid (ldSt ry rfl)
        rw [← hY] at LY
        have OY : Hid (Y.size = 28 ∧ Y.all (·.oneCell') = true) := by
          obtain ⟨xa, xc, ex, _⟩ := hst.2.2.1 k hlt
          rw [hY, ex]; exact ⟨rfl, val_one _⟩
        have by' := hid (alloc_new wr (.cells Z28 48))
        have k2 := put28_kept wr Y
        have HY : (put28 wr Y).heap[wr.heap.size]? = some (.cells ((T.ps k).val (ds k)) 48) := by rw [← hY]; exact put28_at wr Y
        have HX2 := k2.at' (kr.at' HX.out (fun e => e)) (fun e => e)
        have KK := hid (kr.trans k2 (fun _ e => .inl e))
        have y0 : (put28 wr Y).cell? ⟨wr.heap.size, 0, none⟩ = some (.int .i64 (T.ps k).st) := cell_row HY rfl
        have y1 : (put28 wr Y).cell? ⟨wr.heap.size, 1, none⟩ = some (.int .i64 (T.ps k).pri) := cell_row HY rfl
        have y2 : (put28 wr Y).cell? ⟨wr.heap.size, 2, none⟩ = some (.int .i64 (T.ps k).pl) := cell_row HY rfl
        have x1 : (put28 wr Y).cell? ⟨W.heap.size, 1, none⟩ = some (.int .i64 (T.ps r).pri) := cell_row HX2 rfl
        have x2 : (put28 wr Y).cell? ⟨W.heap.size, 2, none⟩ = some (.int .i64 (T.ps r).pl) := cell_row HX2 rfl
        have AH := hid (HB.out k hlt)
        clear kr kall hst ry hY k2 HY HX2
        go_upto_region 12 with (first
          | (refine l_take 62 rfl rfl (er_ld 48 (.tmp 61) rfl _ (.agg Y) rfl LY.out) ?_)
          | (refine list_make rfl 11 rfl (er_alS rfl) ?_)
          | (refine wpList_store_row rfl 48 (.tmp 11) (.tmp 62) rfl wr.heap.size Y rfl rfl _ Z28 by'.out (by rw [OY.out.1]; exact Try.info48) OY.out.1.symm OY.out.2 ?_; rw [show (wr.alloc (.cells Z28 48)).setRow wr.heap.size Y = put28 wr Y from rfl]))
        clear LY OY by'
        generalize put28 wr Y = w6 at *
        generalize wr.heap.size = yb at *
        generalize hps : T.ps k = p at *
        generalize hpr : T.ps r = z at *
        by_cases s1 : p.st = 1
        · rw [s1] at y0
          by_cases ek : k = r
          · subst ek
            clear s1 hps hpr
            go_wp2
            refine ⟨⟨k + 1, by omega, by go_num, KK.out⟩, ?_⟩
            simp [intOf]; omega
          · have ek' : ((k : Int) == (r : Int)) = false := by simp; omega
            have ah := AH.out s1
            unfold Pr.ahead at ah
            have a1 : ¬ z.pri < p.pri := fun e => ah (.inl e)
            by_cases e1 : p.pri = z.pri
            · have a2 : ¬ p.pl < z.pl := fun e => ah (.inr ⟨e1, e⟩)
              rw [e1] at y1
              clear ah s1 hps hpr a1 e1
              go_wp2
              refine ⟨⟨k + 1, by omega, by go_num, KK.out⟩, ?_⟩
              simp [intOf]; omega
            · have e1' : (p.pri == z.pri) = false := by simp [e1]
              clear ah s1 hps hpr e1
              go_wp2
              refine ⟨⟨k + 1, by omega, by go_num, KK.out⟩, ?_⟩
              simp [intOf]; omega
        · have s1' : (p.st == 1) = false := by simp [s1]
          clear s1 hps hpr
          go_wp2
          refine ⟨⟨k + 1, by omega, by go_num, KK.out⟩, ?_⟩
          simp [intOf]; omega
      · have hltz : ¬ (k : Int) < (n : Int) := by omega
        have KK := hid (K1.out.trans kr (fun _ e => .inl e))
        go_wp2
        go_ret
        exact ⟨rfl, KK.out⟩
end
end Go.Proofs.Ytofkacfchkimiaa
