/-
  One text: SSeek, SWalk, SWalkN.
-/
import Derived.Test.YtdcfcgmmjobdcaaGreatDoorGSlot
namespace Go.Proofs.YtdcfcgmmjobdcaaGreatDoor
open Go.RowKit Go.Shelf
attribute [local go_sem] Oper.semAt_some
set_option linter.unusedVariables false
set_option maxRecDepth 100000

/-- a walker's cells -/
def wkC (H gp np gc nc t : Nat) (x y : Int) : Obj := .cells #[.int .i64 H, .slice (some ⟨gp, 0, none⟩) np np, .slice (some ⟨gc, 0, none⟩) nc nc, .int .i64 t, .int .i64 x, .int .i64 y] 92
theorem wk_cells {w : World} {b H gp np gc nc t : Nat} {x y : Int} (h : w.heap[b]? = some (wkC H gp np gc nc t x y)) : w.cell? ⟨b, 0, none⟩ = some (.int .i64 H) ∧ w.cell? ⟨b, 1, none⟩ = some (.slice (some ⟨gp, 0, none⟩) np np) ∧ w.cell? ⟨b, 2, none⟩ = some (.slice (some ⟨gc, 0, none⟩) nc nc) ∧ w.cell? ⟨b, 3, none⟩ = some (.int .i64 t) ∧ w.cell? ⟨b, 4, none⟩ = some (.int .i64 x) ∧ w.cell? ⟨b, 5, none⟩ = some (.int .i64 y) ∧ ∀ k, w.frozen? ⟨b, k, none⟩ = false := by
  refine ⟨?_, ?_, ?_, ?_, ?_, ?_, fun k => ?_⟩ <;> simp [World.cell?, World.frozen?, h, wkC]

/-- what a walker keeps of its table -/
structure Wt (w : World) (gp gc : Nat) (P C : List (Int × Int)) : Prop where
  p : Sl w (fun k => k = gp) (some ⟨gp, 0, none⟩) P.length P.length (stops P)
  c : Sl w (fun k => k = gc) (some ⟨gc, 0, none⟩) C.length C.length (stops C)

set_option maxHeartbeats 1000000 in
theorem seek1_any {P C : List (Int × Int)} {H t g q0 i : Nat} {L : List (Int × Int)} (w : World) (b B1 B2 B3 gl nl : Nat) {x : Value} (h1 : w.cell? ⟨B1, 0, none⟩ = some (.pointer (some ⟨b, 0, none⟩))) (h2 : w.cell? ⟨B3, 0, none⟩ = some (.int .i64 g)) (h3 : w.cell? ⟨B2, 0, none⟩ = some (.slice (some ⟨gl, 0, none⟩) L.length nl)) (h4 : w.cell? ⟨b, 3, none⟩ = some (.int .i64 t))
    (hs : Sl w (fun k => k = gl) (some ⟨gl, 0, none⟩) L.length nl (stops L)) (hi : i < L.length) (hg : Slt.Goes L) (hgt : g ≤ 1099511627776) :
    Calls Tryz.prog 93 #[.int .i64 i, .pointer (some ⟨B1, 0, none⟩), .pointer (some ⟨B3, 0, none⟩), .pointer (some ⟨B2, 0, none⟩)] w fun e w' => e = .returned (.bool (decide ((t : Int) < g + Slt.pr L (i + 1)))) ∧ Kept No w w' := by
  obtain ⟨b', o', e', _, c0, c1⟩ := hs.gt hi
  injection e' with e'
  injection e' with e1 e2
  subst e1 e2
  rw [stops_gt hi] at c0
  have hbd := Slt.pr_bd (q := i + 1) hi (fun j hj => hg j (by omega))
  have hiz : (i : Int) < (L.length : Int) := by omega
  have hcap := hs.cap
  have hmax := hs.max
  clear hs hg
  simp only [Nat.zero_add] at c0
  generalize Slt.pr L (i + 1) = A at *
  obtain ⟨hb1, hb2⟩ := hbd
  go_enter Tryz.func93, Tryz.ntmps93
  go_upto_region 1 with fail
  go_quiet (fail)
  go_wp2
  go_ret
  exact ⟨rfl, (Kept.refl No w).drewN nq⟩

theorem sbox2 (w : World) (o1 o2 : Obj) : ((w.alloc o1).alloc o2).drew.heap[w.heap.size]? = some o1 ∧ ((w.alloc o1).alloc o2).drew.heap[w.heap.size + 1]? = some o2 := by
  constructor
  · exact (Below.heap_alloc _ _ _ (by simp)).trans (World.alloc_heap_new w o1)
  · have := World.alloc_heap_new (w.alloc o1) o2; rwa [World.size_alloc] at this
theorem wk_set {w : World} {b H gp np gc nc t : Nat} {x y : Int} (h : w.heap[b]? = some (wkC H gp np gc nc t x y)) (x' y' : Int) : ((w.setCell ⟨b, 4, none⟩ (.int .i64 x')).setCell ⟨b, 5, none⟩ (.int .i64 y')).heap[b]? = some (wkC H gp np gc nc t x' y') := by
  simp [World.setCell, Array.getElem?_modify, h, wkC]

theorem set45_kept {w0 w : World} {b : Nat} (k : Kept (fun k => k = b) w0 w) (u v : Value) : Kept (fun k => k = b) w0 ((w.setCell ⟨b, 4, none⟩ u).setCell ⟨b, 5, none⟩ v).drew :=
  (Kept.setCell (F := fun k => k = b) (p := ⟨b, 5, none⟩) (Kept.setCell (F := fun k => k = b) (p := ⟨b, 4, none⟩) k (.inl rfl) u) (.inl rfl) v).drew
set_option maxHeartbeats 4000000 in
theorem seek_any {P C : List (Int × Int)} {H t q0 b gp gc : Nat} {x y : Int} (w : World) (hb : w.heap[b]? = some (wkC H gp P.length gc C.length t x y)) (hw : Wt w gp gc P C) (hT : Slt.Tab P C H) (ht : t < 1099511627776) (hs : Slt.Sits P C H t q0) (n1 : gp ≠ b) (n2 : gc ≠ b) :
    Calls Tryz.prog 50 #[.pointer (some ⟨b, 0, none⟩)] w fun e w' => (∃ v, e = .returned v) ∧ w'.heap[b]? = some (wkC H gp P.length gc C.length t (Slt.who P C H t q0) (min (Slt.fin P C H t q0) 1099511627776)) ∧ Kept (fun k => k = b) w w' := by
  have k1 : Kept No w (w.alloc (.cells #[.pointer (some ⟨b, 0, none⟩)] 39)) := (Kept.refl No w).alloc _
  have hb1 := k1.at' hb (fun h => h)
  have e1 := World.alloc_heap_new w (.cells #[.pointer (some ⟨b, 0, none⟩)] 39)
  have HW : Hid (Wt w gp gc P C ∧ Slt.Tab P C H ∧ Slt.Sits P C H t q0) := ⟨hw, hT, hs⟩
  have HB : Hid (b < w.heap.size) := heap_lt hb
  have H1 : Hid (Kept No w (w.alloc (.cells #[.pointer (some ⟨b, 0, none⟩)] 39)) ∧ (w.alloc (.cells #[.pointer (some ⟨b, 0, none⟩)] 39)).heap[b]? = some (wkC H gp P.length gc C.length t x y) ∧ (w.alloc (.cells #[.pointer (some ⟨b, 0, none⟩)] 39)).heap[w.heap.size]? = some (.cells #[.pointer (some ⟨b, 0, none⟩)] 39)) := ⟨k1, hb1, e1⟩
  have hH1 := hT.pos
  have hH2 := hT.top
  have tu := fun W => turnOf_any H t W hH1 hH2 ht
  clear k1 hb1 e1 hw hT hs hb
  go_enter Tryz.func50, Tryz.ntmps50
  go_upto_region 1 with fail
  generalize w.alloc (.cells #[.pointer (some ⟨b, 0, none⟩)] 39) = w1 at *
  have a0 := bx1 H1.out.2.2
  obtain ⟨y0, y1, y2, y3, y4, y5, yf⟩ := wk_cells H1.out.2.1
  obtain ⟨g, hg⟩ : ∃ g, Slt.beg H t = g := ⟨_, rfl⟩
  rw [hg] at tu
  have HG : Hid (Slt.beg H t = g) := hg
  clear hg
  go_cut [2, 3] from 2 to 17 (fun p2 p3 wx => ∃ B2 B3, p2 = .pointer (some ⟨B2, 0, none⟩) ∧ p3 = .pointer (some ⟨B3, 0, none⟩) ∧ B2 ≠ B3 ∧ w1.heap.size ≤ B2 ∧ w1.heap.size ≤ B3 ∧ wx.heap[B2]? = some (.cells #[.slice (some ⟨gc, 0, none⟩) C.length C.length] 89) ∧ wx.heap[B3]? = some (.cells #[.int .i64 g] 3) ∧ Kept No w1 wx)
  case first =>
    clear y1 y4 y5 yf
    go_region_held (fun w' => w'.cell? ⟨w.heap.size, 0, none⟩ = some (.pointer (some ⟨b, 0, none⟩)) ∧ w'.cell? ⟨b, 0, none⟩ = some (.int .i64 H) ∧ w'.cell? ⟨b, 2, none⟩ = some (.slice (some ⟨gc, 0, none⟩) C.length C.length) ∧ w'.cell? ⟨b, 3, none⟩ = some (.int .i64 t)) (go_keep) (first | (go_at_call 89; refine (tu _).mono ?_; rintro e w' ⟨rfl, rfl⟩))
    all_goals (try go_wp2)
    all_goals (go_meet; first
      | exact ⟨_, _, rfl, rfl, by omega, by omega, by omega, (sbox2 _ _ _).1, (sbox2 _ _ _).2, (((Kept.refl No w1).alloc _).alloc _).drew⟩
      | exact ⟨_, _, rfl, rfl, by omega, by omega, by omega, (sbox2 _ _ _).2, (sbox2 _ _ _).1, (((Kept.refl No w1).alloc _).alloc _).drew⟩)
  case rest =>
    obtain ⟨B2, B3, rfl, rfl, h23, hl2, hl3, hB2, hB3, hkc⟩ := hcut
    have HC : Hid (Kept No w1 wc ∧ wc.heap[B2]? = some (.cells #[.slice (some ⟨gc, 0, none⟩) C.length C.length] 89) ∧ wc.heap[B3]? = some (.cells #[.int .i64 g] 3) ∧ wc.heap[b]? = some (wkC H gp P.length gc C.length t x y) ∧ wc.heap[w.heap.size]? = some (.cells #[.pointer (some ⟨b, 0, none⟩)] 39)) := ⟨hkc, hB2, hB3, hkc.at' H1.out.2.1 (fun h => h), hkc.at' H1.out.2.2 (fun h => h)⟩
    clear y0 y1 y2 y3 y4 y5 yf a0 tu
    have b3 := bx1 hB3
    have b2 := bx1 hB2
    have a0 := bx1 HC.out.2.2.2.2
    have fB2 : wc.frozen? ⟨B2, 0, none⟩ = false := by simp [World.frozen?, hB2]
    obtain ⟨y0, y1, y2, y3, y4, y5, yf⟩ := wk_cells HC.out.2.2.2.1
    have hw1 : w.heap.size < w1.heap.size := heap_lt H1.out.2.2
    clear hB2 hB3 hkc
    go_upto_if 19 with fail
    go_cut [2, 3] from 2 to 23 (fun p2 p3 wx => p2 = .pointer (some ⟨B2, 0, none⟩) ∧ p3 = .pointer (some ⟨B3, 0, none⟩) ∧ ∃ gl, (gl = gp ∨ gl = gc) ∧ wx.heap[B2]? = some (.cells #[.slice (some ⟨gl, 0, none⟩) (Slt.lst P C g).length (Slt.lst P C g).length] 89) ∧ wx.heap[B3]? = some (.cells #[.int .i64 g] 3) ∧ Kept No w1 wx ∧ Sl wx (fun k => k = gl) (some ⟨gl, 0, none⟩) (Slt.lst P C g).length (Slt.lst P C g).length (stops (Slt.lst P C g)))
    case first =>
      by_cases hg0 : g = 0
      · have hg2 : (g : Int) = 0 := by omega
        have k2 : Kept No w1 (wc.setCell ⟨B2, 0, none⟩ (.slice (some ⟨gp, 0, none⟩) P.length P.length)) := HC.out.1.setCell (.inr hl2) _
        have HR : Hid (∃ gl, (gl = gp ∨ gl = gc) ∧ (wc.setCell ⟨B2, 0, none⟩ (.slice (some ⟨gp, 0, none⟩) P.length P.length)).heap[B2]? = some (.cells #[.slice (some ⟨gl, 0, none⟩) (Slt.lst P C g).length (Slt.lst P C g).length] 89) ∧ (wc.setCell ⟨B2, 0, none⟩ (.slice (some ⟨gp, 0, none⟩) P.length P.length)).heap[B3]? = some (.cells #[.int .i64 g] 3) ∧ Kept No w1 (wc.setCell ⟨B2, 0, none⟩ (.slice (some ⟨gp, 0, none⟩) P.length P.length)) ∧ Sl (wc.setCell ⟨B2, 0, none⟩ (.slice (some ⟨gp, 0, none⟩) P.length P.length)) (fun k => k = gl) (some ⟨gl, 0, none⟩) (Slt.lst P C g).length (Slt.lst P C g).length (stops (Slt.lst P C g))) := by
          have el : Slt.lst P C g = P := by unfold Slt.lst; rw [if_pos hg0]
          rw [el]
          exact ⟨gp, .inl rfl, set1 HC.out.2.1 _, (Below.heap_setCell _ _ _ _ (by simpa using fun e => h23 e.symm)).trans HC.out.2.2.1, k2, HW.out.1.p.keep (H1.out.1.trans k2 (fun _ h => h.elim))⟩
        clear hg0 k2
        go_wp2
        go_meet
        exact ⟨rfl, rfl, HR.out⟩
      · have hg2 : ¬ (g : Int) = 0 := by omega
        have HR : Hid (∃ gl, (gl = gp ∨ gl = gc) ∧ wc.heap[B2]? = some (.cells #[.slice (some ⟨gl, 0, none⟩) (Slt.lst P C g).length (Slt.lst P C g).length] 89) ∧ wc.heap[B3]? = some (.cells #[.int .i64 g] 3) ∧ Kept No w1 wc ∧ Sl wc (fun k => k = gl) (some ⟨gl, 0, none⟩) (Slt.lst P C g).length (Slt.lst P C g).length (stops (Slt.lst P C g))) := by
          have el : Slt.lst P C g = C := by unfold Slt.lst; rw [if_neg hg0]
          rw [el]
          exact ⟨gc, .inr rfl, HC.out.2.1, HC.out.2.2.1, HC.out.1, HW.out.1.c.keep (H1.out.1.trans HC.out.1 (fun _ h => h.elim))⟩
        clear hg0
        go_wp2
        go_meet
        exact ⟨rfl, rfl, HR.out⟩
    case rest =>
      clear y0 y1 y2 y3 y4 y5 yf a0 b2 b3 fB2 HC
      obtain ⟨rfl, rfl, gl, hgl, hB2, hB3, hk, hsl⟩ := hcut
      obtain ⟨T1, T2⟩ := HW.out.2
      have hgo := T1.goes g
      have hin := T2.in'
      have hbm := Slt.beg_add H t
      rw [HG.out] at hin hbm
      have hln : (Slt.lst P C g).length ≤ 1048576 := by
        have := Slt.pr_bd (q := (Slt.lst P C g).length) (Nat.le_refl _) hgo
        omega
      obtain ⟨m, hm⟩ : ∃ m, t % H = m := ⟨_, rfl⟩
      rw [hm] at hin hbm
      obtain ⟨FN, eFN⟩ : ∃ z, Slt.fin P C H t q0 = z := ⟨_, rfl⟩
      obtain ⟨WH, eWH⟩ : ∃ z, Slt.who P C H t q0 = z := ⟨_, rfl⟩
      have HFE : Hid (Slt.fin P C H t q0 = FN ∧ Slt.who P C H t q0 = WH) := ⟨eFN, eWH⟩
      have HFN : Hid (FN = g + Slt.pr (Slt.lst P C g) (q0 + 1) ∧ WH = (Slt.gt (Slt.lst P C g) q0).2) := by
        refine ⟨?_, ?_⟩
        · rw [← eFN, ← HG.out]; rfl
        · rw [← eWH, ← HG.out]; rfl
      clear eFN eWH hm
      have hbx := hk.at' H1.out.2.1 (fun h => h)
      have hwx := hk.at' H1.out.2.2 (fun h => h)
      have y3 := (wk_cells hbx).2.2.2.1
      have a0 := bx1 hwx
      have b2 := bx1 hB2
      have b3 := bx1 hB3
      have hgm := hgo
      generalize Slt.lst P C g = L at *
      have HCL : ∀ (W : World) (i : Nat), i < L.length → Kept No wc W → Calls Tryz.prog 93 (#[.int .i64 i] ++ #[.pointer (some ⟨w.heap.size, 0, none⟩), .pointer (some ⟨B3, 0, none⟩), .pointer (some ⟨B2, 0, none⟩)]) W fun e w' => e = .returned (.bool (decide (q0 ≤ i))) ∧ Kept No W w' := by
        intro W i hi hkW
        have hc := seek1_any (P := P) (C := C) (H := H) (t := t) (g := g) (q0 := q0) (x := .bool true) W b w.heap.size B2 B3 gl L.length (hkW.cell a0 (fun h => h)) (hkW.cell b3 (fun h => h)) (hkW.cell b2 (fun h => h)) (hkW.cell y3 (fun h => h)) (hsl.keep hkW) hi hgo (by omega)
        have ed : decide ((t : Int) < g + Slt.pr L (i + 1)) = decide (q0 ≤ i) := by
          by_cases hq : q0 ≤ i
          · rw [decide_eq_true hq, decide_eq_true]
            have := Slt.pr_mono hgo (p := q0 + 1) (q := i + 1) (by omega) hi
            have := hin.2.2
            omega
          · rw [decide_eq_false hq, decide_eq_false]
            have := Slt.pr_mono hgo (p := i + 1) (q := q0) (by omega) (Nat.le_of_lt hin.1)
            have := hin.2.1
            omega
        rw [ed] at hc
        exact hc
      have hse := search_any 93 #[.pointer (some ⟨w.heap.size, 0, none⟩), .pointer (some ⟨B3, 0, none⟩), .pointer (some ⟨B2, 0, none⟩)] L.length q0 wc (enters_of Tryz.func93 (by kernel_rfl) rfl) hln (Nat.le_of_lt hin.1) HCL
      have HX : Hid (Kept No w1 wc ∧ wc.heap[b]? = some (wkC H gp P.length gc C.length t x y) ∧ wc.heap[w.heap.size]? = some (.cells #[.pointer (some ⟨b, 0, none⟩)] 39) ∧ wc.heap[B2]? = some (.cells #[.slice (some ⟨gl, 0, none⟩) L.length L.length] 89) ∧ wc.heap[B3]? = some (.cells #[.int .i64 g] 3) ∧ Sl wc (fun k => k = gl) (some ⟨gl, 0, none⟩) L.length L.length (stops L) ∧ Slt.Goes L ∧ Slt.In L (m : Int) q0) := ⟨hk, hbx, hwx, hB2, hB3, hsl, hgo, hin⟩
      clear HCL hgo hin hgm hsl hB2 hB3 hk y3 hbx hwx
      go_upto_region 5 with (go_at_call 92; refine hse.mono ?_; rintro e w5 ⟨rfl, hk5⟩; have H5 : Hid (Kept No wc w5) := hk5; clear hk5 hse)
      clear a0 b2 b3 T1 T2
      obtain ⟨x0, x1, x2, x3, x4, x5, x6, x7⟩ := HX.out
      have hq0 : q0 < L.length := x7.1
      have hqz : (q0 : Int) < (L.length : Int) := by omega
      have hb5 := H5.out.at' x1 (fun h => h)
      have a0 := bx1 (H5.out.at' x2 (fun h => h))
      have b2 := bx1 (H5.out.at' x3 (fun h => h))
      have b3 := bx1 (H5.out.at' x4 (fun h => h))
      obtain ⟨b', o', e', _, c0, c1⟩ := (x5.keep H5.out).gt hq0
      injection e' with e'
      injection e' with e1 e2
      subst e1 e2
      rw [stops_gt hq0] at c0 c1
      simp only [Nat.zero_add] at c0 c1
      rw [← HFN.out.2] at c1
      have hpb := Slt.pr_bd (q := q0 + 1) hq0 (fun j hj => x6 j (by omega))
      have eF := HFN.out.1
      obtain ⟨hp1, hp2⟩ := hpb
      clear x0 x1 x2 x3 x4 x5 x6 x7
      generalize Slt.pr L (q0 + 1) = A at *
      obtain ⟨_, _, _, _, y4, y5, yf⟩ := wk_cells hb5
      have HB5 : Hid (w5.heap[b]? = some (wkC H gp P.length gc C.length t x y) ∧ FN = g + A) := ⟨hb5, eF⟩
      have yf4 := yf 4
      have yf5 := yf 5
      have hbl := HB.out
      have g1 : ¬ b = w.heap.size := by omega
      have g2 : ¬ b = B2 := by omega
      have g3 : ¬ b = B3 := by omega
      have g4 : ¬ b = gl := by rcases hgl with e | e <;> omega
      have EW : Hid (IntKind.i64.wrap ((g : Int) + A) = FN) := by
        show _ = _
        rw [IntKind.wrap_i64]; omega
      have EM : Hid ((if 1099511627776 < FN then 1099511627776 else FN) = min FN 1099511627776) := by
        show _ = _
        rw [Int.min_def]; split <;> split <;> omega
      clear hb5 eF yf hbm
      go_region_held (fun w' => w'.cell? ⟨w.heap.size, 0, none⟩ = some (.pointer (some ⟨b, 0, none⟩)) ∧ w'.cell? ⟨B2, 0, none⟩ = some (.slice (some ⟨gl, 0, none⟩) L.length L.length) ∧ w'.cell? ⟨B3, 0, none⟩ = some (.int .i64 g) ∧ w'.cell? ⟨gl, q0 * 2, none⟩ = some (.int .i64 A) ∧ w'.cell? ⟨gl, q0 * 2 + 1, none⟩ = some (.int .i64 WH)) (go_keep) (fail)
      all_goals (rw [EW.out, EM.out]; go_end0; refine ⟨⟨_, rfl⟩, ?_, ?_⟩)
      all_goals first
        | (rw [HFE.out.1, HFE.out.2]; exact wk_set HB5.out.1 _ _)
        | exact set45_kept (((H1.out.1.trans HX.out.1 (fun _ h => h.elim)).trans H5.out (fun _ h => h.elim)).mono (fun _ h => h.elim)) _ _
end Go.Proofs.YtdcfcgmmjobdcaaGreatDoor

namespace Go.Proofs.YtdcfcgmmjobdcaaGreatDoor
open Go.RowKit Go.Shelf
attribute [local go_sem] Oper.semAt_some
set_option linter.unusedVariables false
set_option maxRecDepth 100000

/-- block b is a walker along a table, at tick t; R: its blocks -/
def Wk (w : World) (R : Nat → Prop) (b : Nat) (P C : List (Int × Int)) (H t : Nat) : Prop :=
  ∃ gp gc q, w.heap[b]? = some (wkC H gp P.length gc C.length t (Slt.who P C H t q) (min (Slt.fin P C H t q) 1099511627776)) ∧ Wt w gp gc P C ∧ Slt.Sits P C H t q ∧ gp ≠ b ∧ gc ≠ b ∧ R b ∧ R gp ∧ R gc ∧ t < 1099511627776
theorem Wt.kept {w w' : World} {gp gc : Nat} {P C : List (Int × Int)} {G : Nat → Prop} (h : Wt w gp gc P C) (k : Kept G w w') (n1 : ¬ G gp) (n2 : ¬ G gc) : Wt w' gp gc P C :=
  ⟨h.p.kept k (fun b e => by subst e; exact n1), h.c.kept k (fun b e => by subst e; exact n2)⟩
section
variable {w w' : World} {R G : Nat → Prop} {b : Nat} {P C : List (Int × Int)} {H t : Nat}
theorem Wk.kept (h : Wk w R b P C H t) (k : Kept G w w') (hd : ∀ k, R k → ¬ G k) : Wk w' R b P C H t := by
  obtain ⟨gp, gc, q, h1, h2, h3, h4, h5, h6, h7, h8, h9⟩ := h
  exact ⟨gp, gc, q, k.at' h1 (hd _ h6), h2.kept k (hd _ h7) (hd _ h8), h3, h4, h5, h6, h7, h8, h9⟩
theorem Wk.keep (h : Wk w R b P C H t) (k : Kept No w w') : Wk w' R b P C H t := h.kept k (fun _ _ h => h)
end

theorem wk_set3 {w : World} {b H gp np gc nc t : Nat} {x y : Int} (h : w.heap[b]? = some (wkC H gp np gc nc t x y)) (t' : Nat) : (w.setCell ⟨b, 3, none⟩ (.int .i64 t')).heap[b]? = some (wkC H gp np gc nc t' x y) := by
  simp [World.setCell, Array.getElem?_modify, h, wkC]

set_option maxHeartbeats 1000000 in
theorem isMade_yes {b H gp np gc nc t : Nat} {x y : Int} (w : World) (h : w.heap[b]? = some (wkC H gp np gc nc t x y)) (hH : 1 ≤ H) :
    Calls Tryz.prog 51 #[.pointer (some ⟨b, 0, none⟩)] w fun e w' => e = .returned (.bool true) ∧ w' = w := by
  have q2 : ∀ (w : World) (ad : Addr), (binOp .neq 39 (.pointer (some ad)) (.pointer none)).run Tryz.prog w = .ok (.bool true) w := fun w ad => by rfl
  obtain ⟨y0, _⟩ := wk_cells h
  have hH' : (0 : Int) < H := by omega
  clear h
  go_enter Tryz.func51, Tryz.ntmps51
  go_wp2
  go_ret
  exact ⟨by simp; omega, rfl⟩
set_option maxHeartbeats 1000000 in
theorem wnow_any {b H gp np gc nc t : Nat} {x y : Int} (w : World) (h : w.heap[b]? = some (wkC H gp np gc nc t x y)) (hH : 1 ≤ H) :
    Calls Tryz.prog 20 #[.pointer (some ⟨b, 0, none⟩)] w fun e w' => e = .returned (.int .i64 (t : Int)) ∧ w' = w := by
  have im := isMade_yes w h hH
  obtain ⟨y0, y1, y2, y3, y4, y5, _⟩ := wk_cells h
  clear h y0 y1 y2
  go_enter Tryz.func20, Tryz.ntmps20
  go_wp2_with (go_at_call 51; refine im.mono ?_; rintro e w' ⟨rfl, rfl⟩; clear im)
  go_ret
  exact ⟨rfl, rfl⟩
set_option maxHeartbeats 1000000 in
theorem wocc_any {b H gp np gc nc t : Nat} {x y : Int} (w : World) (h : w.heap[b]? = some (wkC H gp np gc nc t x y)) (hH : 1 ≤ H) :
    Calls Tryz.prog 21 #[.pointer (some ⟨b, 0, none⟩)] w fun e w' => e = .returned (.int .i64 x) ∧ w' = w := by
  have im := isMade_yes w h hH
  obtain ⟨y0, y1, y2, y3, y4, y5, _⟩ := wk_cells h
  clear h y0 y1 y2
  go_enter Tryz.func21, Tryz.ntmps21
  go_wp2_with (go_at_call 51; refine im.mono ?_; rintro e w' ⟨rfl, rfl⟩; clear im)
  go_ret
  exact ⟨rfl, rfl⟩
set_option maxHeartbeats 1000000 in
theorem wuntil_any {b H gp np gc nc t : Nat} {x y : Int} (w : World) (h : w.heap[b]? = some (wkC H gp np gc nc t x y)) (hH : 1 ≤ H) :
    Calls Tryz.prog 22 #[.pointer (some ⟨b, 0, none⟩)] w fun e w' => e = .returned (.int .i64 y) ∧ w' = w := by
  have im := isMade_yes w h hH
  obtain ⟨y0, y1, y2, y3, y4, y5, _⟩ := wk_cells h
  clear h y0 y1 y2
  go_enter Tryz.func22, Tryz.ntmps22
  go_wp2_with (go_at_call 51; refine im.mono ?_; rintro e w' ⟨rfl, rfl⟩; clear im)
  go_ret
  exact ⟨rfl, rfl⟩

set_option maxHeartbeats 1000000 in
theorem wadv_no {b H gp np gc nc t : Nat} {x y : Int} (tt : Int) (w : World) (h : w.heap[b]? = some (wkC H gp np gc nc t x y)) (hH : 1 ≤ H) (hto : tt < t ∨ 1099511627776 ≤ tt) :
    Calls Tryz.prog 18 #[.pointer (some ⟨b, 0, none⟩), .int .i64 tt] w fun e w' => e = .returned (.int .i64 2) ∧ w' = w := by
  have im := isMade_yes w h hH
  obtain ⟨y0, y1, y2, y3, y4, y5, _⟩ := wk_cells h
  clear h y0 y1 y2
  by_cases h1 : tt < (t : Int)
  · go_enter Tryz.func18, Tryz.ntmps18
    go_wp2_with (go_at_call 51; refine im.mono ?_; rintro e w' ⟨rfl, rfl⟩; clear im)
    go_ret
    exact ⟨rfl, rfl⟩
  · have h2 : (1099511627776 : Int) ≤ tt := by omega
    go_enter Tryz.func18, Tryz.ntmps18
    go_wp2_with (go_at_call 51; refine im.mono ?_; rintro e w' ⟨rfl, rfl⟩; clear im)
    go_ret
    exact ⟨rfl, rfl⟩

set_option maxHeartbeats 2000000 in
theorem wadv_yes {R : Nat → Prop} {b : Nat} {P C : List (Int × Int)} {H t tt : Nat} (w : World) (h : Wk w R b P C H t) (hT : Slt.Tab P C H) (h1 : t ≤ tt) (h2 : tt < 1099511627776) :
    Calls Tryz.prog 18 #[.pointer (some ⟨b, 0, none⟩), .int .i64 tt] w fun e w' => e = .returned (.int .i64 0) ∧ Wk w' R b P C H tt ∧ Kept R w w' := by
  obtain ⟨gp, gc, q, hb, hw, hs, n1, n2, r1, r2, r3, ht⟩ := h
  have im := isMade_yes w hb hT.pos
  obtain ⟨y0, y1, y2, y3, y4, y5, yf⟩ := wk_cells hb
  have yf3 := yf 3
  have h1' : ¬ (tt : Int) < t := by omega
  have h2' : ¬ (1099511627776 : Int) ≤ tt := by omega
  have k1 : Kept (fun k => k = b) w (w.setCell ⟨b, 3, none⟩ (.int .i64 tt)) := Kept.setCell (F := fun k => k = b) (p := ⟨b, 3, none⟩) (Kept.refl _ w) (.inl rfl) _
  have hb3 := wk_set3 hb tt
  have hw3 := hw.kept k1 n1 n2
  have y53 := (wk_cells hb3).2.2.2.2.2.1
  by_cases hlt : (tt : Int) < min (Slt.fin P C H t q) 1099511627776
  · have hf : (tt : Int) < Slt.fin P C H t q := by rw [Int.min_def] at hlt; split at hlt <;> omega
    obtain ⟨s1, s2⟩ := hT.same hs h1 hf
    obtain ⟨f1, f2⟩ := hT.fin_same hs h1 hf
    have HR : Hid (Wk (w.setCell ⟨b, 3, none⟩ (.int .i64 tt)) R b P C H tt ∧ Kept R w (w.setCell ⟨b, 3, none⟩ (.int .i64 tt))) := by
      refine ⟨⟨gp, gc, q, ?_, hw3, s1, n1, n2, r1, r2, r3, h2⟩, k1.mono (fun k e => by subst e; exact r1)⟩
      rw [f1, f2]
      exact hb3
    clear hf s1 s2 f1 f2 hw hs hb k1 hb3 hw3 hT y0 y1 y2 y4 yf n1 n2 r1 r2 r3 ht h1 h2 y53
    generalize min (Slt.fin P C H t q) 1099511627776 = Y at *
    generalize ((tt : Nat) : Int) = z at *
    generalize ((t : Nat) : Int) = tz at *
    go_enter Tryz.func18, Tryz.ntmps18
    go_wp2_with (go_at_call 51; refine im.mono ?_; rintro e w' ⟨rfl, rfl⟩; clear im)
    go_ret
    exact ⟨rfl, HR.out⟩
  · obtain ⟨q', hs'⟩ := hT.sits tt
    have sk := seek_any (x := Slt.who P C H t q) (y := min (Slt.fin P C H t q) 1099511627776) (w.setCell ⟨b, 3, none⟩ (.int .i64 tt)) hb3 hw3 hT h2 hs' n1 n2
    have HR : Hid (∀ w9, w9.heap[b]? = some (wkC H gp P.length gc C.length tt (Slt.who P C H tt q') (min (Slt.fin P C H tt q') 1099511627776)) → Kept (fun k => k = b) (w.setCell ⟨b, 3, none⟩ (.int .i64 tt)) w9 → Wk w9 R b P C H tt ∧ Kept R w w9) := fun w9 e k => by
      have k2 := k1.trans k (fun k h => .inl h)
      exact ⟨⟨gp, gc, q', e, hw.kept k2 n1 n2, hs', n1, n2, r1, r2, r3, h2⟩, k2.mono (fun k e => by subst e; exact r1)⟩
    have hge : min (Slt.fin P C H t q) 1099511627776 ≤ (tt : Int) := by omega
    clear hw hs hb k1 hb3 hw3 hT y0 y1 y2 y4 yf hs' hlt n1 n2 r1 r2 r3 ht h1 h2 y53
    generalize min (Slt.fin P C H t q) 1099511627776 = Y at *
    generalize ((tt : Nat) : Int) = z at *
    generalize ((t : Nat) : Int) = tz at *
    go_enter Tryz.func18, Tryz.ntmps18
    go_wp2_with (first
      | (go_at_call 51; refine im.mono ?_; rintro e w' ⟨rfl, rfl⟩; clear im)
      | (go_at_call 50; refine sk.mono ?_; rintro e w9 ⟨⟨v9, rfl⟩, hb9, hk9⟩; have H9 := HR.out w9 hb9 hk9; have H9 : Hid _ := H9; clear hb9 hk9 sk))
    go_ret
    exact ⟨rfl, H9.out⟩
end Go.Proofs.YtdcfcgmmjobdcaaGreatDoor

namespace Go.Proofs.YtdcfcgmmjobdcaaGreatDoor
open Go.RowKit Go.Shelf
attribute [local go_sem] Oper.semAt_some
set_option linter.unusedVariables false
set_option maxRecDepth 100000

theorem ot_sl {w w' : World} {base g : Nat} {L : List (Int × Int)} (h : Ot w base (.slice (some ⟨g, 0, none⟩) L.length L.length) (stops L)) (k : Kept No w w') : Sl w' (fun k => k = g) (some ⟨g, 0, none⟩) L.length L.length (stops L) := by
  obtain ⟨a, n, c, e, hs⟩ := h.sl
  injection e with e1 e2 e3
  subst e1 e2 e3
  exact (hs.mono (fun k hk => by simp [Value.ownBlock] at hk; exact hk.symm)).keep k

set_option maxHeartbeats 4000000 in
theorem walk_yes {F G : Nat → Prop} {a0 a1 : Option Addr} {c0 c1 : Nat} {P C : List (Int × Int)} {H : Nat} (w : World) (h : Sl w F a0 P.length c0 P) (hF : ∀ k, F k → k < w.heap.size) (h' : Sl w G a1 C.length c1 C) (hG : ∀ k, G k → k < w.heap.size)
    (hT : Slt.Tab P C H) :
    Calls Tryz.prog 17 #[.agg #[.slice a0 P.length c0, .slice a1 C.length c1]] w fun e w' => ∃ b, e = .returned (.tuple #[.pointer (some ⟨b, 0, none⟩), .int .i64 0]) ∧ Wk w' (fun k => w.heap.size ≤ k) b P C H 0 ∧ Kept No w w' := by
  have k1 : Kept No w (w.alloc (.cells #[.slice a0 P.length c0, .slice a1 C.length c1] 29)) := (Kept.refl No w).alloc _
  have hl := hyperOf_any _ (h.keep k1) (fun k hk => Nat.lt_of_lt_of_le (hF k hk) k1.size) (h'.keep k1) (fun k hk => Nat.lt_of_lt_of_le (hG k hk) k1.size)
  rw [tab_hyF hT] at hl
  have hb := World.alloc_heap_new w (.cells #[.slice a0 P.length c0, .slice a1 C.length c1] 29)
  obtain ⟨b0, b1⟩ := bx2 hb
  have HK : Hid (Kept No w (w.alloc (.cells #[.slice a0 P.length c0, .slice a1 C.length c1] 29)) ∧ (w.alloc (.cells #[.slice a0 P.length c0, .slice a1 C.length c1] 29)).heap[w.heap.size]? = some (.cells #[.slice a0 P.length c0, .slice a1 C.length c1] 29)) := ⟨k1, hb⟩
  have hH0 : ¬ (H : Int) = 0 := by have := hT.pos; omega
  have HSP : Hid (∀ W, Kept No w W → Calls Tryz.prog 49 #[.slice a0 P.length c0] W fun e w' => e = .returned (.slice (some ⟨W.heap.size, 0, none⟩) P.length P.length) ∧ Ot w' W.heap.size (.slice (some ⟨W.heap.size, 0, none⟩) P.length P.length) (stops P) ∧ Kept No W w') := fun W k => stopsOf_any W (h.keep k) (fun j hj => Nat.lt_of_lt_of_le (hF j hj) k.size) hT.p
  have HSC : Hid (∀ W, Kept No w W → Calls Tryz.prog 49 #[.slice a1 C.length c1] W fun e w' => e = .returned (.slice (some ⟨W.heap.size, 0, none⟩) C.length C.length) ∧ Ot w' W.heap.size (.slice (some ⟨W.heap.size, 0, none⟩) C.length C.length) (stops C) ∧ Kept No W w') := fun W k => stopsOf_any W (h'.keep k) (fun j hj => Nat.lt_of_lt_of_le (hG j hj) k.size) hT.c
  have HT : Hid (Slt.Tab P C H) := hT
  clear h h' hF hG k1 hT hb
  go_enter Tryz.func17, Tryz.ntmps17
  go_upto_region 4 with (go_at_call 48; refine hl.mono ?_; rintro e w1 ⟨rfl, hk1⟩; have H1 : Hid (Kept No w w1 ∧ w1.heap[w.heap.size]? = some (.cells #[.slice a0 P.length c0, .slice a1 C.length c1] 29)) := ⟨HK.out.1.trans hk1 (fun _ h => h.elim), hk1.at' HK.out.2 (fun h => h)⟩; clear hk1 hl)
  clear b0 b1
  obtain ⟨d0, d1⟩ := bx2 H1.out.2
  have kd : Kept No w w1.drew := H1.out.1.drew
  have HD : Hid (w1.drew.heap[w.heap.size]? = some (.cells #[.slice a0 P.length c0, .slice a1 C.length c1] 29)) := H1.out.2
  go_cut [5] from 5 to 18 (fun p5 wx => ∃ b gp gc, p5 = .pointer (some ⟨b, 0, none⟩) ∧ wx.heap[b]? = some (wkC H gp P.length gc C.length 0 0 0) ∧ Wt wx gp gc P C ∧ gp ≠ b ∧ gc ≠ b ∧ w.heap.size ≤ b ∧ w.heap.size ≤ gp ∧ w.heap.size ≤ gc ∧ Kept No w wx)
  case first =>
    go_region_held (fun w' => w'.cell? ⟨w.heap.size, 0, none⟩ = some (.slice a0 P.length c0) ∧ w'.cell? ⟨w.heap.size, 1, none⟩ = some (.slice a1 C.length c1)) (go_keep) (first
      | (go_at_call 49; refine (HSP.out _ kd).mono ?_; rintro e w2 ⟨rfl, ho2, hk2⟩; have H2 : Hid (Ot w2 w1.heap.size (.slice (some ⟨w1.heap.size, 0, none⟩) P.length P.length) (stops P) ∧ w1.heap.size < w2.heap.size) := ⟨ho2, (ho2.lt _ rfl).2⟩; have k2 : Kept No w w2 := kd.trans hk2 (fun _ h => h.elim); obtain ⟨v0, v1⟩ := bx2 (hk2.at' HD.out (fun h => h)); clear ho2 hk2 kd)
      | (go_at_call 49; refine (HSC.out _ k2).mono ?_; rintro e w3 ⟨rfl, ho3, hk3⟩; have H3 : Hid (Ot w3 w2.heap.size (.slice (some ⟨w2.heap.size, 0, none⟩) C.length C.length) (stops C) ∧ Kept No w2 w3 ∧ Kept No w w3 ∧ w2.heap.size < w3.heap.size) := ⟨ho3, hk3, k2.trans hk3 (fun _ h => h.elim), (ho3.lt _ rfl).2⟩; have r0 := hk3.cell v0 (fun h => h); have r1 := hk3.cell v1 (fun h => h); clear ho3 hk3))
    all_goals (try go_wp2)
    all_goals (go_meet; have z1 := H1.out.1.size; have z2 := H2.out.2; have z3 := H3.out.2.2.2; exact ⟨w3.heap.size, w1.heap.size, w2.heap.size, rfl, World.alloc_heap_new _ _, ⟨ot_sl H2.out.1 (H3.out.2.1.alloc _), ot_sl H3.out.1 ((Kept.refl No w3).alloc _)⟩, by omega, by omega, by omega, by omega, by omega, H3.out.2.2.1.alloc _⟩)
  case rest =>
    obtain ⟨b, gp, gc, rfl, hb, hw, n1, n2, l1, l2, l3, hk⟩ := hcut
    obtain ⟨q, hs⟩ := HT.out.sits 0
    have sk := seek_any (t := 0) wc hb hw HT.out (by omega) hs n1 n2
    have HR : Hid (∀ w9, w9.heap[b]? = some (wkC H gp P.length gc C.length 0 (Slt.who P C H 0 q) (min (Slt.fin P C H 0 q) 1099511627776)) → Kept (fun k => k = b) wc w9 → Wk w9 (fun k => w.heap.size ≤ k) b P C H 0 ∧ Kept No w w9) := fun w9 e k =>
      ⟨⟨gp, gc, q, e, hw.kept k n1 n2, hs, n1, n2, l1, l2, l3, by omega⟩, hk.trans k (fun k e => .inr (by omega))⟩
    clear hb hw hs hk d0 d1 kd
    go_wp2_with (go_at_call 50; refine sk.mono ?_; rintro e w9 ⟨⟨v9, rfl⟩, hb9, hk9⟩; have H90 := HR.out w9 hb9 hk9; have H9 : Hid _ := H90; clear hb9 hk9 sk H90)
    go_ret2
    exact ⟨_, rfl, H9.out⟩
end Go.Proofs.YtdcfcgmmjobdcaaGreatDoor
