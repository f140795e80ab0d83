/-
  The closure that reads an instruction.
-/
import Derived.Test.YtolmhoenjcinjaaGreatIHeld
import Derived.Test.YtolmhoenjcinjaaGreatIIsa
import Derived.Deep.DeepCutAuto
namespace Go.Proofs.YtolmhoenjcinjaaGreat
open Go.RowKit
set_option linter.unusedVariables false
set_option maxRecDepth 100000

theorem size_u8 : (Tryz.prog.info? 5).map (·.size) = some 1 := by kernel_rfl
def z8 : List Value := [.int .u8 0, .int .u8 0, .int .u8 0, .int .u8 0, .int .u8 0, .int .u8 0, .int .u8 0, .int .u8 0]
def z5 : List Value := [.int .u8 0, .int .u8 0, .int .u8 0, .int .u8 0, .int .i32 0]
theorem setK5i (w : World) (b : Nat) (v0 v1 v2 v3 v4 : Value) : Kept (fun k => k = b) w (((((w.setCell ⟨b, 0, none⟩ v0).setCell ⟨b, 1, none⟩ v1).setCell ⟨b, 2, none⟩ v2).setCell ⟨b, 3, none⟩ v3).setCell ⟨b, 4, none⟩ v4) := ((((((Kept.refl (fun k => k = b) w).setCell (p := ⟨b, 0, none⟩) (.inl rfl) _).setCell (p := ⟨b, 1, none⟩) (.inl rfl) _).setCell (p := ⟨b, 2, none⟩) (.inl rfl) _).setCell (p := ⟨b, 3, none⟩) (.inl rfl) _).setCell (p := ⟨b, 4, none⟩) (.inl rfl) _)
theorem set5i {w : World} {b : Nat} {t : TypeId} {v0 v1 v2 v3 v4 : Value} (h : Bk w b z5 t) : (((((w.setCell ⟨b, 0, none⟩ v0).setCell ⟨b, 1, none⟩ v1).setCell ⟨b, 2, none⟩ v2).setCell ⟨b, 3, none⟩ v3).setCell ⟨b, 4, none⟩ v4).heap[b]? = some (.cells #[v0, v1, v2, v3, v4] t (0, 0)) :=
  (((((h.set 0 v0).set 1 v1).set 2 v2).set 3 v3).set 4 v4)
theorem setRow_heap8 (w : World) (g : Nat) (cs cur : Array Value) (t : TypeId) (hg : w.heap[g]? = some (.cells cur t (0, 0))) : (w.setRow g cs).heap[g]? = some (.cells cs t (0, 0)) := by
  unfold World.setRow
  simp [Array.getElem?_modify, hg]
theorem setRow_kept8 (w : World) (g : Nat) (cs : Array Value) : Kept (fun k => k = g) w (w.setRow g cs) :=
  ⟨rfl, rfl, rfl, by simp [World.setRow], fun k hk hn => by unfold World.setRow; simp only [Array.getElem?_modify]; rw [if_neg (fun e => hn e.symm)]⟩
/-- what copy leaves in the eight bytes -/
theorem copy8 {w : World} {g : Nat} {v : Value} {ys : List Nat} {B : Nat} {t : TypeId} (ty : TypeId) (hb : Bk w g z8 t) (hv : w.ownsRow B 5 1 v ys.length (ys.map bv)) (hy : ys.length = 0 ∨ ys.length = 8) :
    ∃ w' r, (Builtin.copy_ #[27, 27] ty #[.slice (some ⟨g, 0, none⟩) 8 8, v]).run Tryz.prog w = .ok r w' ∧ Bk w' g (if ys.length = 8 then ys.map bv else z8) t ∧ Kept (fun k => k = g) w w' := by
  rcases owns_cells hv with ⟨rfl, h0⟩ | ⟨q, cap, rfl, _, hq, hn, hm, hc, hf⟩
  · refine ⟨w, _, run_copy_none (P := Tryz.prog) w _ _ ty 5 (some ⟨g, 0, none⟩) none 8 8 0 0 Tryz.underlying27 size_u8 rfl, ?_, Kept.refl _ _⟩
    rw [if_neg (by omega)]; exact hb
  · rcases hy with h0 | h8
    · rw [h0]
      refine ⟨w, _, run_copy_none (P := Tryz.prog) w _ _ ty 5 (some ⟨g, 0, none⟩) (some ⟨q, 0, none⟩) 8 8 0 cap Tryz.underlying27 size_u8 rfl, ?_, Kept.refl _ _⟩
      rw [if_neg (by omega)]; exact hb
    · rw [h8]
      have hl : (ys.map bv).length = 8 := by rw [List.length_map]; exact h8
      have key := run_copy_row (P := Tryz.prog) w 27 27 ty 5 g 0 8 8 ⟨q, 0, none⟩ 8 cap z8.toArray t (ys.map bv) Tryz.underlying27 size_u8 hb (by rw [hl]; rfl) (fun j u hj => by rw [add_none, Nat.zero_add]; exact hc j u hj) (by rw [hl]; decide) (bv_one _)
      refine ⟨_, _, key, ?_, setRow_kept8 _ _ _⟩
      rw [if_pos rfl]
      have e : (z8.toArray.toList.take 0 ++ ys.map bv ++ z8.toArray.toList.drop (0 + (ys.map bv).length)) = ys.map bv := by
        rw [hl]; simp [z8]
      rw [e]
      exact setRow_heap8 _ _ _ _ _ hb

/-- eight bytes as an instruction, as isa.Decode tells it -/
theorem ins_val {ys : List Nat} (h8 : ys.length = 8) (hb : ∀ x ∈ ys, x < 256) : ∃ o a b c p q r s : Nat, ys = [o, a, b, c, p, q, r, s] ∧ p < 256 ∧ q < 256 ∧ r < 256 ∧ s < 256 ∧ (insOf ys).op = o ∧ (insOf ys).a = a ∧ (insOf ys).b = b ∧ (insOf ys).c = c ∧ (insOf ys).imm = decN p q r s := by
  match ys, h8 with
  | [o, a, b, c, p, q, r, s], _ =>
    refine ⟨o, a, b, c, p, q, r, s, rfl, hb p (by simp), hb q (by simp), hb r (by simp), hb s (by simp), rfl, rfl, rfl, rfl, ?_⟩
    unfold insOf decN val
    simp only [List.drop_succ_cons, List.drop_zero, List.foldl_cons, List.foldl_nil]
    congr 1
    omega
theorem insOf_ok {ys : List Nat} (h8 : ys.length = 8) (hb : ∀ x ∈ ys, x < 256) : okIns (insOf ys) := by
  have h := dcIns.back ys (insOf ys) [] hb (by unfold decIns; rw [if_pos (by omega), List.take_of_length_le (by omega), List.drop_eq_nil_of_le (by omega)])
  exact h.2
theorem got_Ins (xs : List Nat) (e : Int) : Got decIns (xs, e) (insOf (if (tkXs xs e 8).length = 8 then tkXs xs e 8 else [0, 0, 0, 0, 0, 0, 0, 0])) (tkRest xs e 8, tkE xs e 8) where
  len := tkRest_len _ _ _
  got := by
    by_cases h : tkE xs e 8 = 0
    · obtain ⟨h1, h2, h3, h4⟩ := tk_yes (k := 8) h
      have h3' : tkXs xs e 8 = xs.take 8 := h3
      have hl : (xs.take 8).length = 8 := by rw [List.length_take]; omega
      refine .inl ⟨h1, h, ?_⟩
      show decIns xs = some (_, tkRest xs e 8)
      unfold decIns
      rw [if_pos h2, show tkRest xs e 8 = List.drop 8 xs from h4, h3', if_pos hl]
    · refine .inr ⟨h, fun he => ?_⟩
      have he' : e = 0 := he
      subst he'
      have := tk_no (k := 8) h
      show decIns xs = none
      unfold decIns
      rw [if_neg (by omega)]
theorem tk8_len (xs : List Nat) (e : Int) : (tkXs xs e 8).length = 0 ∨ (tkXs xs e 8).length = 8 := by
  unfold tkXs
  split
  · rename_i h
    right
    unfold tkOk at h
    simp at h
    rw [List.length_take]
    have := h.2
    omega
  · left; rfl

set_option maxHeartbeats 4000000 in
theorem askIns (F : Nat → Prop) (p : Nat) (xs : List Nat) (e : Int) (w : World) (h : Rd w F p xs e) (hsz : xs.length ≤ 1048576) :
    Calls Tryz.prog 150 #[.pointer (some ⟨p, 0, none⟩)] w fun ex w' => ∃ (x : Ins) (s' : St), ex = .returned (.agg #[.int .u8 x.op, .int .u8 x.a, .int .u8 x.b, .int .u8 x.c, .int .i32 x.imm]) ∧ okIns x ∧ Got decIns (xs, e) x s' ∧ RdDid F p s'.1 s'.2 w w' := by
  have hxl := h.lt
  have hflt : ∀ k, F k → k < w.heap.size := by obtain ⟨a, n, c, hv⟩ := h; exact hv.flt
  have hfp : F p := by obtain ⟨a, n, c, hv⟩ := h; exact hv.fp
  have hkk : Kept No w ((w.alloc (.cells #[.int .u8 0, .int .u8 0, .int .u8 0, .int .u8 0, .int .i32 0] 122)).alloc (.cells #[.int .u8 0, .int .u8 0, .int .u8 0, .int .u8 0, .int .u8 0, .int .u8 0, .int .u8 0, .int .u8 0] 146)) := ((Kept.refl No w).alloc _).alloc _
  have HK : Hid (Kept No w ((w.alloc (.cells #[.int .u8 0, .int .u8 0, .int .u8 0, .int .u8 0, .int .i32 0] 122)).alloc (.cells #[.int .u8 0, .int .u8 0, .int .u8 0, .int .u8 0, .int .u8 0, .int .u8 0, .int .u8 0, .int .u8 0] 146))) := hkk
  have HR0 : Hid (Rd ((w.alloc (.cells #[.int .u8 0, .int .u8 0, .int .u8 0, .int .u8 0, .int .i32 0] 122)).alloc (.cells #[.int .u8 0, .int .u8 0, .int .u8 0, .int .u8 0, .int .u8 0, .int .u8 0, .int .u8 0, .int .u8 0] 146)) F p xs e) := h.kept hkk (fun _ _ h => h)
  have HB2 : Hid (Bk ((w.alloc (.cells #[.int .u8 0, .int .u8 0, .int .u8 0, .int .u8 0, .int .i32 0] 122)).alloc (.cells #[.int .u8 0, .int .u8 0, .int .u8 0, .int .u8 0, .int .u8 0, .int .u8 0, .int .u8 0, .int .u8 0] 146)) w.heap.size z5 122) := by show _ = _; rw [heap_alloc_old _ _ (by simp)]; exact heap_alloc_new w _
  have HB3 : Hid (Bk ((w.alloc (.cells #[.int .u8 0, .int .u8 0, .int .u8 0, .int .u8 0, .int .i32 0] 122)).alloc (.cells #[.int .u8 0, .int .u8 0, .int .u8 0, .int .u8 0, .int .u8 0, .int .u8 0, .int .u8 0, .int .u8 0] 146)) (w.heap.size + 1) z8 146) := heap_alloc2_new w _ _
  have HF : Hid ((∀ k, F k → k < w.heap.size) ∧ F p) := ⟨hflt, hfp⟩
  have HXL : Hid (∀ x ∈ xs, x < 256) := hxl
  clear h hkk hflt hfp hxl
  go_enter Tryz.func150, Tryz.ntmps150
  go_upto_region 2 with fail
  generalize (w.alloc (.cells #[.int .u8 0, .int .u8 0, .int .u8 0, .int .u8 0, .int .i32 0] 122)).alloc (.cells #[.int .u8 0, .int .u8 0, .int .u8 0, .int .u8 0, .int .u8 0, .int .u8 0, .int .u8 0, .int .u8 0] 146) = w0 at *
  have cb := rbytes_any F p xs e 8 w0.drew (HR0.out.drewN 1) (by omega)
  have HCB : Hid (Calls Tryz.prog 151 #[.pointer (some ⟨p, 0, none⟩), .int .i64 8] w0.drew fun ex w' => ∃ v, ex = .returned v ∧ True ∧ (w'.ownsRow w0.drew.heap.size 5 1 v (tkXs xs e 8).length ((tkXs xs e 8).map bv) ∧ RdDid F p (tkRest xs e 8) (tkE xs e 8) w0.drew w')) := cb.mono (fun ex w' ⟨v, h1, h2, h3⟩ => ⟨v, h1, trivial, h2, h3⟩)
  clear cb
  go_cut [] (fun wx => Bk wx w.heap.size z5 122 ∧ Bk wx (w.heap.size + 1) (if (tkXs xs e 8).length = 8 then (tkXs xs e 8).map bv else z8) 146 ∧ RdDid F p (tkRest xs e 8) (tkE xs e 8) w wx)
  case first =>
    refine wp_region_held_drew (S := fun _ => True) (by kernel_rfl) trivial (fun hS => ?_)
    refine d_take 0 4 rfl rfl (by kernel_rfl) (by kernel_rfl) (by kernel_rfl) (fun _ _ _ h => h) rfl (fun w' hw' => er_arr8 _ rfl (w.heap.size + 1) rfl) hS ?_
    simp only [Act.put, List.setIfInBounds_toArray, List.set_cons_zero, List.set_cons_succ]
    refine d_take 1 5 rfl rfl (by kernel_rfl) (by kernel_rfl) (by kernel_rfl) (fun _ _ _ h => h) rfl (fun w' hw' => er_mv _ rfl (.pointer (some ⟨p, 0, none⟩)) rfl) hS ?_
    simp only [Act.put, List.setIfInBounds_toArray, List.set_cons_zero, List.set_cons_succ]
    refine d_callN (fun v w'' => w''.ownsRow w0.drew.heap.size 5 1 v (tkXs xs e 8).length ((tkXs xs e 8).map bv) ∧ RdDid F p (tkRest xs e 8) (tkE xs e 8) w0.drew w'') 2 6 (by kernel_rfl) rfl rfl rfl (er_rbytes _ _ _ rfl) HCB.out ?_
    intro v w5 hS5 hT
    simp only [Act.put, List.setIfInBounds_toArray, List.set_cons_zero, List.set_cons_succ]
    have hp1 := HF.out.1 p HF.out.2
    have b3 : Bk w5 (w.heap.size + 1) z8 146 := Bk.kept (w := w0.drew) HB3.out hT.2.2 (fun e => by omega)
    have b2 : Bk w5 w.heap.size z5 122 := Bk.kept (w := w0.drew) HB2.out hT.2.2 (fun e => by omega)
    obtain ⟨w6, r6, hr6, hb6, hk6⟩ := copy8 3 b3 hT.1 (tk8_len xs e)
    refine d_make 3 7 (by kernel_rfl) rfl rfl rfl (er_copy8 (.tmp 4) (.tmp 6) rfl (.slice (some ⟨w.heap.size + 1, 0, none⟩) 8 8) v r6 rfl rfl hr6) trivial ?_
    simp only [Act.put, List.setIfInBounds_toArray, List.set_cons_zero, List.set_cons_succ]
    refine wpAnyH_done (by kernel_rfl) ?_ _
    go_wp2
    go_meet
    refine ⟨b2.kept hk6 (fun e => by omega), hb6, hT.2.1.kept hk6 (fun b hb e => by have := HF.out.1 b hb; omega), ?_⟩
    have k1 : Kept (fun k => k = p) w w5 := (HK.out.mono (fun _ h => h.elim)).trans (⟨hT.2.2.os, hT.2.2.tape, hT.2.2.output, hT.2.2.size, hT.2.2.block⟩ : Kept (fun k => k = p) w0 w5) (fun _ h => .inl h)
    exact k1.trans hk6 (fun k e => .inr (by omega))
  case rest =>
    obtain ⟨h2, h3, hd⟩ := hcut
    rename World => w7
    obtain ⟨ys, hys⟩ : ∃ ys, ys = (if (tkXs xs e 8).length = 8 then tkXs xs e 8 else [0, 0, 0, 0, 0, 0, 0, 0]) := ⟨_, rfl⟩
    have hy8 : ys.length = 8 := by rw [hys]; split; assumption; rfl
    have hyb : ∀ x ∈ ys, x < 256 := by
      rw [hys]; split
      · exact tkXs_lt e 8 HXL.out
      · intro x hx; simp at hx; omega
    have h3' : Bk w7 (w.heap.size + 1) (ys.map bv) 146 := by
      rw [hys]
      split
      · rename_i h; rw [if_pos h] at h3; exact h3
      · rename_i h; rw [if_neg h] at h3; exact h3
    have hgot := got_Ins xs e
    rw [← hys] at hgot
    have hok := insOf_ok hy8 hyb
    obtain ⟨o, a, b, c, p1, q1, r1, s1, hy, hp, hq, hr, hs, io, ia, ib, ic, im⟩ := ins_val hy8 hyb
    have cd := decode_any o a b c p1 q1 r1 s1 (by omega) (by omega) (by omega) (by omega) w7
    rw [hy] at h3'
    have HEND : Hid (Got decIns (xs, e) (insOf ys) (tkRest xs e 8, tkE xs e 8) ∧ okIns (insOf ys) ∧ RdDid F p (tkRest xs e 8) (tkE xs e 8) w w7) := ⟨hgot, hok, hd⟩
    have HIM : Hid ((insOf ys).op = o ∧ (insOf ys).a = a ∧ (insOf ys).b = b ∧ (insOf ys).c = c ∧ (insOf ys).imm = decN p1 q1 r1 s1) := ⟨io, ia, ib, ic, im⟩
    have q0 := h3'.cell (j := 0) rfl
    have q1' := h3'.cell (j := 1) rfl
    have q2 := h3'.cell (j := 2) rfl
    have q3 := h3'.cell (j := 3) rfl
    have q4 := h3'.cell (j := 4) rfl
    have q5 := h3'.cell (j := 5) rfl
    have q6 := h3'.cell (j := 6) rfl
    have q7 := h3'.cell (j := 7) rfl
    have HB : Hid (Bk w7 w.heap.size z5 122) := h2
    unfold insV bytV at cd
    obtain ⟨im', him⟩ : ∃ i, i = decN p1 q1 r1 s1 := ⟨_, rfl⟩
    rw [← him] at cd
    unfold bv at q0 q1' q2 q3 q4 q5 q6 q7
    rw [← him] at HIM
    clear h2 h3 hd hys hy8 hyb h3' hgot hok hy hp hq hr hs io ia ib ic im him HCB HR0 HB2 HB3
    go_wp2_with (go_at_call 152; refine cd.mono ?_; rintro ex w8 ⟨rfl, hb8⟩; have HB8 : Hid (Bk w8 w.heap.size z5 122 ∧ Kept No w7 w8) := ⟨HB.out.kept (Kept.of_below (F := No) hb8) (fun h => h), Kept.of_below hb8⟩; have y0 := HB8.out.1.cell (j := 0) rfl; have y1 := HB8.out.1.cell (j := 1) rfl; have y2 := HB8.out.1.cell (j := 2) rfl; have y3 := HB8.out.1.cell (j := 3) rfl; have y4 := HB8.out.1.cell (j := 4) rfl; have f0 := HB8.out.1.fz 0; have f1 := HB8.out.1.fz 1; have f2 := HB8.out.1.fz 2; have f3 := HB8.out.1.fz 3; have f4 := HB8.out.1.fz 4; clear hb8)
    refine bodyPost_ret (results_cell_row rfl _ _ w.heap.size 122 #[.int .u8 o, .int .u8 a, .int .u8 b, .int .u8 c, .int .i32 im'] (0, 0) _ rfl (set5i HB8.out.1) Tryz.underlying122 rfl (by kernel_rfl)) rfl ?_
    obtain ⟨g1, g2, g3⟩ := HEND.out
    obtain ⟨i1, i2, i3, i4, i5⟩ := HIM.out
    refine ⟨insOf ys, (tkRest xs e 8, tkE xs e 8), by rw [i1, i2, i3, i4, i5], g2, g1, ?_⟩
    have ks := setK5i w8 w.heap.size (.int .u8 o) (.int .u8 a) (.int .u8 b) (.int .u8 c) (.int .i32 im')
    have k8 : Kept (fun k => k = p) w w8 := g3.2.trans (HB8.out.2.mono (G := fun k => k = p) (fun _ h => h.elim)) (fun _ h => .inl h)
    exact ⟨(g3.1.kept HB8.out.2 (fun _ _ h => h)).kept ks (fun b hb e => by have := HF.out.1 b hb; omega), k8.trans ks (fun k e => .inr (by omega))⟩

end Go.Proofs.YtolmhoenjcinjaaGreat
