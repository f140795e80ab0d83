/-
  alike of two lists of states with the same data.
-/
import Derived.Test.YtofkacfchkimiaaPSt28
import Derived.Test.YtofkacfchkimiaaPSameW
import Derived.Deep.DeepCutAuto
namespace Go.Proofs.Ytofkacfchkimiaa
open Go.RowKit
set_option linter.unusedVariables false
set_option linter.unusedSimpArgs false
set_option maxRecDepth 100000

section
variable {w : World} {a : Act} {o : Oper}
theorem q_mv (x : Operand) (ho : o.op = .move x) (v : Value) (hx : a.eval x = v) : (execOp a.eval o).run Try.prog w = .ok (.value v) w := by simp only [execOp, ho, hx]; rfl
theorem q_s0 (x : Operand) (ho : o.op = .fieldAddr 48 x 0) (g : Nat) (hx : a.eval x = .pointer (some ⟨g, 0, none⟩)) : (execOp a.eval o).run Try.prog w = .ok (.value (.pointer (some ⟨g, 0, none⟩))) w := by simp only [execOp, ho, hx]; simp [go_sem, add_none]
theorem q_s1 (x : Operand) (ho : o.op = .fieldAddr 48 x 1) (g : Nat) (hx : a.eval x = .pointer (some ⟨g, 0, none⟩)) : (execOp a.eval o).run Try.prog w = .ok (.value (.pointer (some ⟨g, 1, none⟩))) w := by simp only [execOp, ho, hx]; simp [go_sem, add_none]
theorem q_s2 (x : Operand) (ho : o.op = .fieldAddr 48 x 2) (g : Nat) (hx : a.eval x = .pointer (some ⟨g, 0, none⟩)) : (execOp a.eval o).run Try.prog w = .ok (.value (.pointer (some ⟨g, 2, none⟩))) w := by simp only [execOp, ho, hx]; simp [go_sem, add_none]
theorem q_s3 (x : Operand) (ho : o.op = .fieldAddr 48 x 3) (g : Nat) (hx : a.eval x = .pointer (some ⟨g, 0, none⟩)) : (execOp a.eval o).run Try.prog w = .ok (.value (.pointer (some ⟨g, 3, none⟩))) w := by simp only [execOp, ho, hx]; simp [go_sem, add_none]
theorem q_ld3 (x : Operand) (ho : o.op = .load 3 x) (g off : Nat) (v : Value) (hx : a.eval x = .pointer (some ⟨g, off, none⟩)) (hr : w.cell? ⟨g, off, none⟩ = some v) : (execOp a.eval o).run Try.prog w = .ok (.value v) w := by
  simp only [execOp, ho, hx]; simp [go_sem, hr]
theorem q_ne (x y : Operand) (ho : o.op = .binOp .neq 3 x y 3) (u : Int) (hx : a.eval x = .int .i64 u) (hy : a.eval y = .int .i64 u) : (execOp a.eval o).run Try.prog w = .ok (.value (.bool false)) w := by
  simp only [execOp, ho, hx, hy]; simp [go_sem]
theorem q_pk (b x y : Operand) (ho : o.op = .pick b x y) (c : Bool) (v : Value) (hb : a.eval b = .bool c) (hv : (if c then a.eval x else a.eval y) = v) : (execOp a.eval o).run Try.prog w = .ok (.value v) w := by
  subst hv
  simp only [execOp, ho, hb]
  cases c <;> simp [go_sem]
end
theorem er_ne16 {w : World} {a : Act} {o : Oper} (x y : Operand) (ho : o.op = .binOp .neq 46 x y 46) (f : Nat → Int) (hx : a.eval x = .agg (rg16 f)) (hy : a.eval y = .agg (rg16 f)) : (execOp a.eval o).run Try.prog w = .ok (.value (.bool false)) w := by
  have hm : Try.prog.eqGuardType Try.prog.depth 46 = false := by kernel_rfl
  simp only [execOp, ho, hx, hy]
  simp [run_eqGuard_agg w _ _ _ _ _ _ hm, eq16, go_sem]
theorem Zs.ofL {w : World} {base : Nat} {a : Option Addr} {c n : Nat} {xs : List Int} (hn : xs.length = n) (h : w.ownsRow base 2 1 (.slice a n c) n (xs.map iv)) : Zs w (fun g => (Value.slice a n c).ownBlock = some g) a n c xs := by
  subst hn
  obtain ⟨a', c', e, z⟩ := Zs.of_owns h
  injection e with e1 _ e3
  subst e1 e3
  exact z

set_option maxHeartbeats 8000000 in
theorem alike_any {w1 w2 W : World} {T : Tt} {n : Nat} {va va' : Option Addr} {vc vc' : Nat} {ds ds' : Nat → Value} (h1 : StL w1 W T n (.slice va n vc) ds) (h2 : StL w2 W T n (.slice va' n vc') ds') (hn : n ≤ 1048576) :
    Calls Try.prog 31 #[.slice va n vc, .slice va' n vc'] W fun e w' => e = .returned (.bool true) ∧ Kept No W w' := by
  have H1 := hid h1
  have H2 := hid h2
  have hc1 := h1.cap
  have hc2 := h2.cap
  clear h1 h2
  go_enter Try.func31, Try.ntmps31
  go_wp2
  go_loopw [5] (fun i wr => ∃ k : Nat, k ≤ n ∧ i = .int .i64 k ∧ Kept No W wr) (fun i _ => n - (intOf i).toNat)
  case atStart => exact ⟨0, Nat.zero_le _, rfl, Kept.refl _ _⟩
  case round =>
    obtain ⟨k, hk, rfl, kr⟩ := hrel
    have KR := hid kr
    by_cases hlt : k < n
    · have hltz : (k : Int) < (n : Int) := by omega
      obtain ⟨g, rfl, _, r1⟩ := (H1.out.keep kr).row hlt
      obtain ⟨g', rfl, _, r2⟩ := (H2.out.keep kr).row hlt
      obtain ⟨xa, xc, ex, ox⟩ := (H1.out.keep kr).2.2.1 k hlt
      obtain ⟨ya, yc, ey, oy⟩ := (H2.out.keep kr).2.2.1 k hlt
      rw [ex] at r1
      rw [ey] at r2
      have zx := hid (Zs.ofL rfl (by rw [ex] at ox; exact ox))
      have zy := hid (Zs.ofL rfl (by rw [ey] at oy; exact oy))
      generalize T.ps k = p at *
      obtain ⟨X, hX⟩ : ∃ X, X = p.val (.slice xa p.ws.length xc) := ⟨_, rfl⟩
      obtain ⟨Y, hY⟩ : ∃ Y, Y = p.val (.slice ya p.ws.length yc) := ⟨_, rfl⟩
      have LX := hid (ldSt r1 rfl)
      have LY := hid (ldSt ((put28_kept wr X).range r2 (fun e => e)) rfl)
      rw [← hX] at LX
      rw [← hY] at LY
      have OX : Hid (X.size = 28 ∧ X.all (·.oneCell') = true) := by rw [hX]; exact ⟨rfl, val_one _⟩
      have OY : Hid (Y.size = 28 ∧ Y.all (·.oneCell') = true) := by rw [hY]; exact ⟨rfl, val_one _⟩
      have bx := hid (alloc_new wr (.cells Z28 48))
      have by' := hid (alloc_new (put28 wr X) (.cells Z28 48))
      have K2 := hid ((put28_kept wr X).trans (put28_kept (put28 wr X) Y) (fun _ e => .inl e))
      have HX : Hid ((put28 (put28 wr X) Y).heap[wr.heap.size]? = some (.cells (p.val (.slice xa p.ws.length xc)) 48)) := by rw [← hX]; exact (put28_kept (put28 wr X) Y).at' (put28_at wr X) (fun e => e)
      have HY : Hid ((put28 (put28 wr X) Y).heap[(put28 wr X).heap.size]? = some (.cells (p.val (.slice ya p.ws.length yc)) 48)) := by rw [← hY]; exact put28_at (put28 wr X) Y
      have SX := hid (show wr.heap.size < (put28 wr X).heap.size from heap_lt (put28_at wr X))
      have LL := hid (And.intro (ld16 HX.out) (ld16 HY.out))
      have x0 : (put28 (put28 wr X) Y).cell? ⟨wr.heap.size, 0, none⟩ = some (.int .i64 p.st) := cell_row HX.out rfl
      have y0 : (put28 (put28 wr X) Y).cell? ⟨(put28 wr X).heap.size, 0, none⟩ = some (.int .i64 p.st) := cell_row HY.out rfl
      have x1 : (put28 (put28 wr X) Y).cell? ⟨wr.heap.size, 1, none⟩ = some (.int .i64 p.pri) := cell_row HX.out rfl
      have y1 : (put28 (put28 wr X) Y).cell? ⟨(put28 wr X).heap.size, 1, none⟩ = some (.int .i64 p.pri) := cell_row HY.out rfl
      have x2 : (put28 (put28 wr X) Y).cell? ⟨wr.heap.size, 2, none⟩ = some (.int .i64 p.pl) := cell_row HX.out rfl
      have y2 : (put28 (put28 wr X) Y).cell? ⟨(put28 wr X).heap.size, 2, none⟩ = some (.int .i64 p.pl) := cell_row HY.out rfl
      have x19 : (put28 (put28 wr X) Y).cell? ⟨wr.heap.size, 19, none⟩ = some (.int .i64 p.pc) := cell_row HX.out rfl
      have y19 : (put28 (put28 wr X) Y).cell? ⟨(put28 wr X).heap.size, 19, none⟩ = some (.int .i64 p.pc) := cell_row HY.out rfl
      have x20 : (put28 (put28 wr X) Y).cell? ⟨wr.heap.size, 20, none⟩ = some (.int .i64 p.rel) := cell_row HX.out rfl
      have y20 : (put28 (put28 wr X) Y).cell? ⟨(put28 wr X).heap.size, 20, none⟩ = some (.int .i64 p.rel) := cell_row HY.out rfl
      have x21 : (put28 (put28 wr X) Y).cell? ⟨wr.heap.size, 21, none⟩ = some (.int .i64 p.dl) := cell_row HX.out rfl
      have y21 : (put28 (put28 wr X) Y).cell? ⟨(put28 wr X).heap.size, 21, none⟩ = some (.int .i64 p.dl) := cell_row HY.out rfl
      have x22 : (put28 (put28 wr X) Y).cell? ⟨wr.heap.size, 22, none⟩ = some (.int .i64 p.un) := cell_row HX.out rfl
      have y22 : (put28 (put28 wr X) Y).cell? ⟨(put28 wr X).heap.size, 22, none⟩ = some (.int .i64 p.un) := cell_row HY.out rfl
      have x23 : (put28 (put28 wr X) Y).cell? ⟨wr.heap.size, 23, none⟩ = some (.bool p.late) := cell_row HX.out rfl
      have y23 : (put28 (put28 wr X) Y).cell? ⟨(put28 wr X).heap.size, 23, none⟩ = some (.bool p.late) := cell_row HY.out rfl
      have x24 : (put28 (put28 wr X) Y).cell? ⟨wr.heap.size, 24, none⟩ = some (.int .i64 p.ob) := cell_row HX.out rfl
      have y24 : (put28 (put28 wr X) Y).cell? ⟨(put28 wr X).heap.size, 24, none⟩ = some (.int .i64 p.ob) := cell_row HY.out rfl
      have x25 : (put28 (put28 wr X) Y).cell? ⟨wr.heap.size, 25, none⟩ = some (.int .i64 p.ad) := cell_row HX.out rfl
      have y25 : (put28 (put28 wr X) Y).cell? ⟨(put28 wr X).heap.size, 25, none⟩ = some (.int .i64 p.ad) := cell_row HY.out rfl
      have x27 : (put28 (put28 wr X) Y).cell? ⟨wr.heap.size, 27, none⟩ = some (.int .i64 p.mis) := cell_row HX.out rfl
      have y27 : (put28 (put28 wr X) Y).cell? ⟨(put28 wr X).heap.size, 27, none⟩ = some (.int .i64 p.mis) := cell_row HY.out rfl
      have x26 : (put28 (put28 wr X) Y).cell? ⟨wr.heap.size, 26, none⟩ = some (.slice xa p.ws.length xc) := cell_row HX.out rfl
      have y26 : (put28 (put28 wr X) Y).cell? ⟨(put28 wr X).heap.size, 26, none⟩ = some (.slice ya p.ws.length yc) := cell_row HY.out rfl
      have sw := sameW_any (put28 (put28 wr X) Y) (zx.out.kept K2.out (fun _ _ e => e)) (zy.out.kept K2.out (fun _ _ e => e))
      rw [decide_eq_true rfl] at sw
      have HQ : Hid (∀ W', Kept No (put28 (put28 wr X) Y) W' → (Kept No W W' ∧ (Instr.loadAt 46 (.pointer (some ⟨wr.heap.size, 3, none⟩))).run Try.prog W' = .ok (.agg (rg16 p.rg)) W' ∧ (Instr.loadAt 46 (.pointer (some ⟨(put28 wr X).heap.size, 3, none⟩))).run Try.prog W' = .ok (.agg (rg16 p.rg)) W')) := fun W' k' => ⟨(KR.out.trans K2.out (fun _ e => .inl e)).trans k' (fun _ e => .inl e), ld16 (k'.at' HX.out (fun e => e)), ld16 (k'.at' HY.out (fun e => e))⟩
      clear kr r1 r2 ex ey ox oy zx zy hX hY K2 HX HY LL
      go_upto_region 8 with (first
        | (refine l_take 22 rfl rfl (er_ld 48 (.tmp 21) rfl _ (.agg X) rfl LX.out) ?_)
        | (refine list_make rfl 6 rfl (er_alS rfl) ?_)
        | (refine wpList_store_row rfl 48 (.tmp 6) (.tmp 22) rfl wr.heap.size X rfl rfl _ Z28 bx.out (by rw [OX.out.1]; exact Try.info48) OX.out.1.symm OX.out.2 ?_; rw [show (wr.alloc (.cells Z28 48)).setRow wr.heap.size X = put28 wr X from rfl])
        | (refine l_take 26 rfl rfl (er_ld 48 (.tmp 25) rfl _ (.agg Y) rfl LY.out) ?_)
        | (refine list_make rfl 7 rfl (er_alS rfl) ?_)
        | (refine wpList_store_row rfl 48 (.tmp 7) (.tmp 26) rfl (put28 wr X).heap.size Y rfl rfl _ Z28 by'.out (by rw [OY.out.1]; exact Try.info48) OY.out.1.symm OY.out.2 ?_; rw [show ((put28 wr X).alloc (.cells Z28 48)).setRow (put28 wr X).heap.size Y = put28 (put28 wr X) Y from rfl]))
      clear LX LY OX OY bx by' SX
      generalize put28 (put28 wr X) Y = w5 at *
      generalize (put28 wr X).heap.size = yb at *
      generalize wr.heap.size = xb at *
      go_upto_region 10 with (go_at_call 62; refine sw.mono ?_; rintro e w6 ⟨rfl, k6⟩; obtain ⟨kk, l1, l2⟩ := HQ.out w6 k6; have KK := hid kk; have L1 := hid l1; have L2 := hid l2; have u0 := k6.cell x0 (fun e => e); have v0 := k6.cell y0 (fun e => e); have u1 := k6.cell x1 (fun e => e); have v1 := k6.cell y1 (fun e => e); have u2 := k6.cell x2 (fun e => e); have v2 := k6.cell y2 (fun e => e); have u19 := k6.cell x19 (fun e => e); have v19 := k6.cell y19 (fun e => e); have u20 := k6.cell x20 (fun e => e); have v20 := k6.cell y20 (fun e => e); have u21 := k6.cell x21 (fun e => e); have v21 := k6.cell y21 (fun e => e); have u22 := k6.cell x22 (fun e => e); have v22 := k6.cell y22 (fun e => e); have u23 := k6.cell x23 (fun e => e); have v23 := k6.cell y23 (fun e => e); have u24 := k6.cell x24 (fun e => e); have v24 := k6.cell y24 (fun e => e); have u25 := k6.cell x25 (fun e => e); have v25 := k6.cell y25 (fun e => e); have u27 := k6.cell x27 (fun e => e); have v27 := k6.cell y27 (fun e => e); clear kk l1 l2 sw HQ k6)
      refine wp_region_lit ?_
      refine l_take 33 rfl rfl (q_s0 _ rfl xb rfl) ?_
      simp only [Act.put, List.setIfInBounds_toArray, List.set_cons_zero, List.set_cons_succ]
      refine l_take 34 rfl rfl (q_ld3 _ rfl xb 0 (.int .i64 p.st) rfl u0) ?_
      simp only [Act.put, List.setIfInBounds_toArray, List.set_cons_zero, List.set_cons_succ]
      refine l_take 35 rfl rfl (q_s0 _ rfl yb rfl) ?_
      simp only [Act.put, List.setIfInBounds_toArray, List.set_cons_zero, List.set_cons_succ]
      refine l_take 36 rfl rfl (q_ld3 _ rfl yb 0 (.int .i64 p.st) rfl v0) ?_
      simp only [Act.put, List.setIfInBounds_toArray, List.set_cons_zero, List.set_cons_succ]
      refine l_take 37 rfl rfl (q_ne _ _ rfl p.st rfl rfl) ?_
      simp only [Act.put, List.setIfInBounds_toArray, List.set_cons_zero, List.set_cons_succ]
      refine l_take 38 rfl rfl (q_mv _ rfl (.bool false) rfl) ?_
      simp only [Act.put, List.setIfInBounds_toArray, List.set_cons_zero, List.set_cons_succ]
      refine l_take 39 rfl rfl (q_s1 _ rfl xb rfl) ?_
      simp only [Act.put, List.setIfInBounds_toArray, List.set_cons_zero, List.set_cons_succ]
      refine l_take 40 rfl rfl (q_ld3 _ rfl xb 1 (.int .i64 p.pri) rfl u1) ?_
      simp only [Act.put, List.setIfInBounds_toArray, List.set_cons_zero, List.set_cons_succ]
      refine l_take 41 rfl rfl (q_s1 _ rfl yb rfl) ?_
      simp only [Act.put, List.setIfInBounds_toArray, List.set_cons_zero, List.set_cons_succ]
      refine l_take 42 rfl rfl (q_ld3 _ rfl yb 1 (.int .i64 p.pri) rfl v1) ?_
      simp only [Act.put, List.setIfInBounds_toArray, List.set_cons_zero, List.set_cons_succ]
      refine l_take 43 rfl rfl (q_ne _ _ rfl p.pri rfl rfl) ?_
      simp only [Act.put, List.setIfInBounds_toArray, List.set_cons_zero, List.set_cons_succ]
      refine l_take 44 rfl rfl (q_pk _ _ _ rfl false (.bool false) rfl rfl) ?_
      simp only [Act.put, List.setIfInBounds_toArray, List.set_cons_zero, List.set_cons_succ]
      refine l_take 45 rfl rfl (q_mv _ rfl (.bool false) rfl) ?_
      simp only [Act.put, List.setIfInBounds_toArray, List.set_cons_zero, List.set_cons_succ]
      refine l_take 46 rfl rfl (q_s2 _ rfl xb rfl) ?_
      simp only [Act.put, List.setIfInBounds_toArray, List.set_cons_zero, List.set_cons_succ]
      refine l_take 47 rfl rfl (q_ld3 _ rfl xb 2 (.int .i64 p.pl) rfl u2) ?_
      simp only [Act.put, List.setIfInBounds_toArray, List.set_cons_zero, List.set_cons_succ]
      refine l_take 48 rfl rfl (q_s2 _ rfl yb rfl) ?_
      simp only [Act.put, List.setIfInBounds_toArray, List.set_cons_zero, List.set_cons_succ]
      refine l_take 49 rfl rfl (q_ld3 _ rfl yb 2 (.int .i64 p.pl) rfl v2) ?_
      simp only [Act.put, List.setIfInBounds_toArray, List.set_cons_zero, List.set_cons_succ]
      refine l_take 50 rfl rfl (q_ne _ _ rfl p.pl rfl rfl) ?_
      simp only [Act.put, List.setIfInBounds_toArray, List.set_cons_zero, List.set_cons_succ]
      refine l_take 51 rfl rfl (q_pk _ _ _ rfl false (.bool false) rfl rfl) ?_
      simp only [Act.put, List.setIfInBounds_toArray, List.set_cons_zero, List.set_cons_succ]
      refine l_take 52 rfl rfl (q_mv _ rfl (.bool false) rfl) ?_
      simp only [Act.put, List.setIfInBounds_toArray, List.set_cons_zero, List.set_cons_succ]
      refine l_take 53 rfl rfl (q_s3 _ rfl xb rfl) ?_
      simp only [Act.put, List.setIfInBounds_toArray, List.set_cons_zero, List.set_cons_succ]
      refine l_take 54 rfl rfl (er_ld 46 (.tmp 53) rfl _ (.agg (rg16 p.rg)) rfl L1.out) ?_
      simp only [Act.put, List.setIfInBounds_toArray, List.set_cons_zero, List.set_cons_succ]
      refine l_take 55 rfl rfl (q_s3 _ rfl yb rfl) ?_
      simp only [Act.put, List.setIfInBounds_toArray, List.set_cons_zero, List.set_cons_succ]
      refine l_take 56 rfl rfl (er_ld 46 (.tmp 55) rfl _ (.agg (rg16 p.rg)) rfl L2.out) ?_
      simp only [Act.put, List.setIfInBounds_toArray, List.set_cons_zero, List.set_cons_succ]
      refine l_take 57 rfl rfl (er_ne16 (.tmp 54) (.tmp 56) rfl p.rg rfl rfl) ?_
      simp only [Act.put, List.setIfInBounds_toArray, List.set_cons_zero, List.set_cons_succ]
      generalize rg16 p.rg = R16 at *
      go_wp2
      refine ⟨⟨k + 1, by omega, by go_num, KK.out⟩, ?_⟩
      simp [intOf]; omega
    · have hltz : ¬ (k : Int) < (n : Int) := by omega
      go_wp2
      go_ret
      exact ⟨rfl, KR.out⟩
end Go.Proofs.Ytofkacfchkimiaa
