/-
  copyPart of a partition that was made.
-/
import Derived.Test.YtofkacfchkimiaaPMade
namespace Go.Proofs.Ytofkacfchkimiaa
open Go.RowKit
set_option linter.unusedVariables false
set_option linter.unusedSimpArgs false
set_option maxRecDepth 100000

theorem cp_row {W : World} {B' : Nat} (t e : TypeId) {size bytes : Nat} {z : Value} (ht : Try.prog.underlying t = some (.slice e)) (hi : (Try.prog.info? e).map (fun i => (i.zero, i.size, i.bytes)) = some (some z, size, bytes)) (hzs : z.cells.size = size) (hsz : 0 < size) {g n c : Nat} {xs : List Value} (ho : W.ownsRow B' e size (.slice (some ⟨g, 0, none⟩) n c) n xs) (h1 : ∀ u ∈ xs, u.oneCell' = true) (hn : n ≤ 1048576) (hb : n * bytes ≤ 140737488355328) :
    ∃ ya yc wa, (Builtin.append_ #[t, t] t #[.slice (some ⟨W.heap.size, 0, none⟩) 0 0, .slice (some ⟨g, 0, none⟩) n c]).run Try.prog (W.alloc (.cells #[] e)) = .ok (.slice ya n yc) wa ∧ wa.ownsRow W.heap.size e size (.slice ya n yc) n xs ∧ Kept No W wa := by
  obtain ⟨i0, hi0, hz0, hz1, hz2⟩ := info_parts hi
  have own0 : (W.alloc (.cells #[] e)).ownsRow W.heap.size e size (.slice (some ⟨W.heap.size, 0, none⟩) 0 0) 0 [] := ⟨by simp, .inr ⟨W.heap.size, 0, #[], rfl, Nat.le_refl _, alloc_new W _, Nat.le_refl _, Nat.zero_le _, by simp, by simp⟩⟩
  obtain ⟨v1, wa, r1, r2, r3, _, _⟩ := run_append_own_at (P := Try.prog) (W.alloc (.cells #[] e)) W.heap.size t t e i0 z size bytes ht hi0 hz0 hz1 hz2 hzs hsz (.slice (some ⟨W.heap.size, 0, none⟩) 0 0) 0 [] own0 ⟨g, 0, none⟩ n c xs ho.1 (fun j u hu => ((Kept.refl No W).alloc _).cell (ho.cells (g := g) rfl j u hu) (fun e => e)) h1 (by unfold maxLen; omega) (by rw [Nat.zero_add]; exact hb) (by rw [World.size_alloc]; omega)
  rw [Nat.zero_add, List.nil_append] at r2
  obtain ⟨ya, yn, yc, rfl⟩ := own_slice r2
  have hyn : yn = n := by
    obtain ⟨_, ⟨h2, h3⟩ | ⟨g, cap, cur, h2, _⟩⟩ := r2
    · injection h2 with _ h4 _; omega
    · injection h2
  subst hyn
  refine ⟨ya, yc, wa, r1, r2, ?_⟩
  exact ((Kept.refl No W).alloc _).grown r3 (fun j e => .inr (by simp [Value.ownBlock] at e; omega))
theorem qL_one (qs : Nat → Ql) : ∀ k, ∀ u ∈ qL qs k, u.oneCell' = true
  | 0, u, h => by cases h
  | k + 1, u, h => by
    rcases List.mem_append.1 (show u ∈ qL qs k ++ qC (qs k) from h) with h1 | h1
    · exact qL_one qs k u h1
    · simp [qC] at h1
      rcases h1 with rfl | rfl | rfl | rfl | rfl | rfl <;> rfl
section
variable {w : World} {a : Act} {o : Oper}
theorem q_bsI0 (ho : o.op = .buildSlice 26 0 #[]) : (execOp a.eval o).run Try.prog w = .ok (.value (.slice (some ⟨w.heap.size, 0, none⟩) 0 0)) (w.alloc (.cells #[] 25)) := by
  simp only [execOp, ho]
  simp [go_sem, Instr.fill]
theorem q_bsP0 (ho : o.op = .buildSlice 29 0 #[]) : (execOp a.eval o).run Try.prog w = .ok (.value (.slice (some ⟨w.heap.size, 0, none⟩) 0 0)) (w.alloc (.cells #[] 28)) := by
  simp only [execOp, ho]
  simp [go_sem, Instr.fill]
end

set_option maxHeartbeats 4000000 in
theorem copy_any {w W : World} {cn n gc cc gp pc : Nat} {us : List Value} {qs : Nat → Ql} {hd : Int} (R : Rt w W cn n gc cc gp pc us qs hd) :
    Calls Try.prog 28 #[.agg (QA (.slice (some ⟨gc, 0, none⟩) cn cc) (.slice (some ⟨gp, 0, none⟩) n pc) hd)] W fun e w' => ∃ (gc' cc' gp' pc' : Nat), e = .returned (.agg (QA (.slice (some ⟨gc', 0, none⟩) cn cc') (.slice (some ⟨gp', 0, none⟩) n pc') hd)) ∧ (cn ≤ cc' ∧ cc' ≤ 9223372036854775807) ∧ Pq w' (fun k => k = gp') (some ⟨gp', 0, none⟩) n pc' qs ∧ gp' < w'.heap.size ∧ Kept No W w' := by
  obtain ⟨w0, e0⟩ : ∃ w0, w0 = (W.alloc (.cells (QA (.slice (some ⟨gc, 0, none⟩) cn cc) (.slice (some ⟨gp, 0, none⟩) n pc) hd) 38)).alloc (.cells Z21 38) := ⟨_, rfl⟩
  have k0 : Kept No W w0 := by rw [e0]; exact ((Kept.refl No W).alloc _).alloc _
  have B0 : w0.heap[W.heap.size]? = some (.cells (QA (.slice (some ⟨gc, 0, none⟩) cn cc) (.slice (some ⟨gp, 0, none⟩) n pc) hd) 38) := by rw [e0]; exact ((Kept.refl No _).alloc _).at' (alloc_new W _) (fun e => e)
  have B1 : w0.heap[W.heap.size + 1]? = some (.cells Z21 38) := by
    rw [e0]
    have := alloc_new (W.alloc (.cells (QA (.slice (some ⟨gc, 0, none⟩) cn cc) (.slice (some ⟨gp, 0, none⟩) n pc) hd) 38)) (.cells Z21 38)
    rwa [World.size_alloc] at this
  have R1 := R.cn1
  have R2 := R.n1
  obtain ⟨ya, yc, wa, hap, oa, ka⟩ := cp_row 26 25 Try.underlying26 Try.infoI5 rfl (by decide) (k0.owns R.co (fun _ _ e => e)) R.us1 (by omega) (by omega)
  have s0 := heap_lt B1
  have a0 := ka.at' B0 (fun e => e)
  have a1 := ka.at' B1 (fun e => e)
  -- the list of instructions is laid into the parameter
  have ks : Kept (fun j => j = W.heap.size) wa (wa.setCell ⟨W.heap.size, 7, none⟩ (.slice ya cn yc)) := (Kept.refl (fun j => j = W.heap.size) wa).setCell (p := ⟨W.heap.size, 7, none⟩) (.inl rfl) _
  have b0 : (wa.setCell ⟨W.heap.size, 7, none⟩ (.slice ya cn yc)).heap[W.heap.size]? = some (.cells (QA (.slice ya cn yc) (.slice (some ⟨gp, 0, none⟩) n pc) hd) 38) := setC 7 _ a0
  have b1 := ks.at' a1 (by omega)
  have lo := oa.lt
  have ob := ks.owns oa (fun j hj e => by have := lo j hj; omega)
  have lp := R.ow.lt
  have op := ks.owns (ka.owns (k0.owns R.ow (fun _ _ e => e)) (fun _ _ e => e)) (fun j hj e => by have := lp j hj; omega)
  have kw : Kept (fun j => j = W.heap.size) W (wa.setCell ⟨W.heap.size, 7, none⟩ (.slice ya cn yc)) := ((k0.trans ka (fun _ e => .inl e)).mono (fun _ e => e.elim)).trans ks (fun _ e => .inl e)
  have c7a : wa.cell? ⟨W.heap.size, 7, none⟩ = some (.slice (some ⟨gc, 0, none⟩) cn cc) := cell_row a0 rfl
  have f7a := fzc a0 7
  have c7 : (w0.alloc (.cells #[] 25)).cell? ⟨W.heap.size, 7, none⟩ = some (.slice (some ⟨gc, 0, none⟩) cn cc) := ((Kept.refl No w0).alloc _).cell (cell_row B0 rfl) (fun e => e)
  obtain ⟨wb, hwb⟩ : ∃ wb, wb = wa.setCell ⟨W.heap.size, 7, none⟩ (.slice ya cn yc) := ⟨_, rfl⟩
  rw [← hwb] at ks b0 b1 ob op kw
  obtain ⟨xa, xc, we, hap2, oe, ke⟩ := cp_row 29 28 Try.underlying29 Try.infoP6 rfl (by decide) op (qL_one qs n) (by omega) (by omega)
  have e0' := ke.at' b0 (fun e => e)
  have e1' := ke.at' b1 (fun e => e)
  have kt : Kept (fun j => j = W.heap.size) we (we.setCell ⟨W.heap.size, 8, none⟩ (.slice xa n xc)) := (Kept.refl (fun j => j = W.heap.size) we).setCell (p := ⟨W.heap.size, 8, none⟩) (.inl rfl) _
  have g0 : (we.setCell ⟨W.heap.size, 8, none⟩ (.slice xa n xc)).heap[W.heap.size]? = some (.cells (QA (.slice ya cn yc) (.slice xa n xc) hd) 38) := setC 8 _ e0'
  have g1 := kt.at' e1' (by omega)
  have sb := heap_lt b1
  have og := kt.owns oe (fun j hj e => by have := oe.lt j hj; omega)
  have c8a : we.cell? ⟨W.heap.size, 8, none⟩ = some (.slice (some ⟨gp, 0, none⟩) n pc) := cell_row e0' rfl
  have f8a := fzc e0' 8
  have c8 : (wb.alloc (.cells #[] 28)).cell? ⟨W.heap.size, 8, none⟩ = some (.slice (some ⟨gp, 0, none⟩) n pc) := ((Kept.refl No wb).alloc _).cell (cell_row b0 rfl) (fun e => e)
  obtain ⟨gc', rfl⟩ := own_some oa R1.1
  obtain ⟨gp', rfl⟩ := own_some oe R2.1
  have hcc : cn ≤ yc ∧ yc ≤ maxLen := by
    rcases oa.2 with ⟨e, _⟩ | ⟨g', cap', cur, e, _, _, h1, h2, _⟩
    · cases e
    · injection e with _ _ e3; subst e3; exact ⟨h1, h2⟩
  obtain ⟨wf, hwf⟩ : ∃ wf, wf = we.setCell ⟨W.heap.size, 8, none⟩ (.slice (some ⟨gp', 0, none⟩) n xc) := ⟨_, rfl⟩
  rw [← hwf] at g0 g1 og kt
  have kr : Kept (fun j => j = W.heap.size + 1) wf (wf.setRow (W.heap.size + 1) (QA (.slice (some ⟨gc', 0, none⟩) cn yc) (.slice (some ⟨gp', 0, none⟩) n xc) hd)) := (Kept.refl (fun j => j = W.heap.size + 1) wf).setRow (.inl rfl) _
  have lg := (og.lt gp' rfl)
  have FIN : Hid ((cn ≤ yc ∧ yc ≤ 9223372036854775807) ∧ Pq (wf.setRow (W.heap.size + 1) (QA (.slice (some ⟨gc', 0, none⟩) cn yc) (.slice (some ⟨gp', 0, none⟩) n xc) hd)) (fun k => k = gp') (some ⟨gp', 0, none⟩) n xc qs ∧ gp' < (wf.setRow (W.heap.size + 1) (QA (.slice (some ⟨gc', 0, none⟩) cn yc) (.slice (some ⟨gp', 0, none⟩) n xc) hd)).heap.size ∧ Kept No W (wf.setRow (W.heap.size + 1) (QA (.slice (some ⟨gc', 0, none⟩) cn yc) (.slice (some ⟨gp', 0, none⟩) n xc) hd))) := by
    refine ⟨⟨hcc.1, by have := hcc.2; unfold maxLen at this; omega⟩, pq_of (kr.owns og (fun j hj e => by have := og.lt j hj; omega)), by have := kr.size; omega, ?_⟩
    have t1 : Kept (fun j => j = W.heap.size) W wf := (kw.trans ke (fun _ e => e.elim)).trans kt (fun _ e => .inl e)
    have t2 : Kept No W wf := ⟨t1.os, t1.tape, t1.output, t1.size, fun j hj _ => t1.block j hj (fun e => by omega)⟩
    exact t2.trans kr (fun j e => .inr (by omega))
  have HP1 := hid hap
  have HP2 := hid hap2
  have G0 := hid g0
  have G1 := hid g1
  have HWB := hid hwb
  have HWF := hid hwf
  clear hap hap2 R k0 B0 B1 oa ka a0 a1 ks b0 b1 lo ob lp op kw oe ke e0' e1' kt g0 g1 og kr lg R1 R2 s0 sb hcc
  have ez : ∀ W : World, W.alloc (.cells #[.int .i64 0, .int .i64 0, .int .i64 0, .int .i64 0, .int .i64 0, .int .i64 0, .slice none 0 0, .slice none 0 0, .slice none 0 0, .int .i64 0, .int .i64 0, .int .i64 0, .int .i64 0, .int .i64 0, .int .i64 0, .int .i64 0, .int .i64 0, .int .i64 0, .slice none 0 0, .slice none 0 0, .slice none 0 0] 38) = W.alloc (.cells Z21 38) := fun _ => rfl
  go_enter Try.func28, Try.ntmps28
  go_upto_region 1 with fail
  rw [← e0]
  clear e0 ez
  go_upto_region 2 with (first
    | (refine l_make 3 rfl rfl (q_bsI0 rfl) ?_)
    | (at_builtin; refine l_make 6 rfl rfl (q_apI (.tmp 3) (.tmp 5) rfl _ _ rfl rfl _ _ rfl HP1.out) ?_))
  rw [← HWB.out]
  clear hwb
  go_upto_region 3 with (first
    | (refine l_make 8 rfl rfl (q_bsP0 rfl) ?_)
    | (at_builtin; refine l_make 11 rfl rfl (q_apP (.tmp 8) (.tmp 10) rfl _ _ rfl rfl _ _ rfl HP2.out) ?_))
  rw [← HWF.out]
  clear hwf
  refine wp_region_lit ?_
  refine wpList_load_row rfl 38 (.tmp 1) rfl W.heap.size rfl _ _ (0, 0) _ G0.out Try.underlying38 rfl Try.info21 ?_
  simp only [Act.put, List.setIfInBounds_toArray, List.set_cons_zero, List.set_cons_succ]
  refine wpList_store_row rfl 38 (.tmp 2) (.tmp 13) rfl (W.heap.size + 1) _ rfl rfl _ Z21 G1.out Try.info21 rfl (qa_one _ _ _ _ _ _ hd) ?_
  simp only [Act.put]
  go_wp2
  refine bodyPost_ret (results_cell_row rfl _ _ (W.heap.size + 1) 38 _ _ _ rfl (setRow_heap _ _ Z21 _ _ (0, 0) G1.out) Try.underlying38 rfl Try.info21) rfl ?_
  exact ⟨gc', yc, gp', xc, rfl, FIN.out⟩
end Go.Proofs.Ytofkacfchkimiaa
