/-
  GetList and get of api.Channel: lists whose elements have lists of their own.
-/
import Derived.Test.YtolmhoenjcinjaaGreatIGd
namespace Go.Proofs.YtolmhoenjcinjaaGreat
open Go.RowKit
set_option linter.unusedVariables false
set_option maxRecDepth 100000

theorem ChO.len {w : World} {B : Nat} {cs : List Value} {x : Ch} (h : ChO w B cs x) : cs.length = 5 := by
  obtain ⟨a0, n0, c0, rfl, _⟩ := h.sl
  rfl
theorem ChO.one {w : World} {B : Nat} {cs : List Value} {x : Ch} (h : ChO w B cs x) : ∀ v ∈ cs, v.oneCell' = true := by
  obtain ⟨a0, n0, c0, rfl, _⟩ := h.sl
  intro v hv
  simp only [List.mem_cons, List.not_mem_nil, or_false] at hv
  rcases hv with rfl | rfl | rfl | rfl | rfl <;> rfl
theorem ChO.kept {w w' : World} {B B' : Nat} {cs : List Value} {x : Ch} {G : Nat → Prop} (h : ChO w B cs x) (k : Kept G w w') (hd : ∀ v ∈ cs, ∀ g, v.ownBlock = some g → ¬ G g) (hB : B' ≤ B) : ChO w' B' cs x := by
  obtain ⟨⟨a, n, c, rfl, h1⟩, ho⟩ := h
  exact ⟨⟨a, n, c, rfl, owns_base (k.owns h1 (fun g hg => hd _ (by simp) g hg)) hB⟩, ho⟩
theorem ChO.apart {w : World} {B B' : Nat} {cs : List Value} {x : Ch} {u : Value} {n : Nat} {r : List Value} (h : ChO w B cs x) (hu : w.ownsRow B' 68 5 u n r) : ∀ v ∈ cs, ∀ g, v.ownBlock = some g → u.ownBlock ≠ some g := by
  obtain ⟨⟨a, n', c, rfl, h1⟩, ho⟩ := h
  intro v hv g hg
  simp only [List.mem_cons, List.not_mem_nil, or_false] at hv
  rcases hv with rfl | rfl | rfl | rfl | rfl
  · cases hg
  · cases hg
  · exact own_ne h1 hu (by decide) g hg
  · cases hg
  · cases hg
theorem ChO.blocks {w : World} {B : Nat} {cs : List Value} {x : Ch} (h : ChO w B cs x) : ∀ v ∈ cs, ∀ g, v.ownBlock = some g → B ≤ g ∧ g < w.heap.size := by
  obtain ⟨⟨a, n', c, rfl, h1⟩, ho⟩ := h
  intro v hv g hg
  simp only [List.mem_cons, List.not_mem_nil, or_false] at hv
  rcases hv with rfl | rfl | rfl | rfl | rfl
  · cases hg
  · cases hg
  · exact h1.lt g hg
  · cases hg
  · cases hg

theorem Tryz.infECh : (Tryz.prog.info? 68).map (fun i => (i.zero, i.size, i.bytes)) = some (some (.agg #[.int .i64 0, .int .i64 0, .slice none 0 0, .int .i64 0, .int .i64 0]), 5, 56) := by kernel_rfl
theorem sizeECh : (Tryz.prog.info? 68).map (·.size) = some 5 := by kernel_rfl
/-- a list that is wholly the caller's own: its elements' lists lie in blocks of their own, each behind those of the element ahead -/
structure OwCh (w : World) (B : Nat) (v : Value) (l : List Ch) : Prop where
  row : ∃ (css : List (List Value)) (lo : Nat → Nat), w.ownsRow B 68 5 v l.length css.flatten ∧ css.length = l.length ∧ B ≤ lo 0 ∧ (∀ i, lo i ≤ lo (i + 1)) ∧ lo l.length ≤ w.heap.size ∧ ∀ i cs x, css[i]? = some cs → l[i]? = some x → ChO w (lo i) cs x ∧ bnd (lo (i + 1)) cs
  few : l.length ≤ 1048576
theorem OwCh.nil (w : World) (B : Nat) (hB : B ≤ w.heap.size) : OwCh w B (.slice none 0 0) [] :=
  ⟨⟨[], fun _ => B, World.ownsRow_nil _ _ _ _, rfl, Nat.le_refl _, fun _ => Nat.le_refl _, hB, fun i cs x h => by simp at h⟩, by simp⟩
theorem OwCh.kept {w w' : World} {B : Nat} {v : Value} {l : List Ch} {G : Nat → Prop} (h : OwCh w B v l) (k : Kept G w w') (hd : ∀ g, B ≤ g → ¬ G g) : OwCh w' B v l := by
  obtain ⟨⟨css, lo, h1, h2, h3, h4, h5, h6⟩, hf⟩ := h
  refine ⟨⟨css, lo, k.owns h1 (fun g hg => hd g (h1.lt g hg).1), h2, h3, h4, Nat.le_trans h5 k.size, fun i cs x hc hx => ?_⟩, hf⟩
  obtain ⟨e1, e2⟩ := h6 i cs x hc hx
  refine ⟨e1.kept k (fun v hv g hg => hd g ?_) (Nat.le_refl _), e2⟩
  exact Nat.le_trans (Nat.le_trans h3 (mono_le h4 (Nat.zero_le i))) (e1.blocks v hv g hg).1
/-- one element more: the row has grown, its element was read since -/
theorem OwCh.snoc {w w2 w3 w4 : World} {B : Nat} {u v4 : Value} {l : List Ch} {x : Ch} {cs : List Value} {css : List (List Value)} {lo : Nat → Nat} (h2 : css.length = l.length) (h3 : B ≤ lo 0) (h4 : ∀ i, lo i ≤ lo (i + 1)) (h5 : lo l.length ≤ w.heap.size) (hw2 : w.heap.size ≤ w2.heap.size)
    (h1 : w3.ownsRow B 68 5 u l.length css.flatten) (h6 : ∀ i cs x, css[i]? = some cs → l[i]? = some x → ChO w3 (lo i) cs x ∧ bnd (lo (i + 1)) cs) (hE2 : ChO w2 w.heap.size cs x) (hE : ChO w3 w.heap.size cs x) (hf : l.length < 1048576)
    (own4 : w4.ownsRow B 68 5 v4 (l.length + 1) (css.flatten ++ cs)) (k4 : Kept (fun k => u.ownBlock = some k) w3 w4) (hsz : w2.heap.size ≤ w4.heap.size) : OwCh w4 B v4 (l ++ [x]) := by
  refine ⟨⟨css ++ [cs], fun i => if i ≤ l.length then lo i else w2.heap.size, ?_, by simp [h2], ?_, ?_, ?_, ?_⟩, by simp; omega⟩
  · simpa using own4
  · simpa using h3
  · intro i
    dsimp only
    by_cases q : i + 1 ≤ l.length
    · rw [if_pos (by omega), if_pos q]; exact h4 i
    · rw [if_neg q]
      by_cases q2 : i ≤ l.length
      · rw [if_pos q2]
        have : i = l.length := by omega
        subst this
        omega
      · rw [if_neg q2]; exact Nat.le_refl _
  · simp only [List.length_append, List.length_singleton]
    rw [if_neg (by omega)]; exact hsz
  · intro i cs' x' hc hx
    by_cases q : i < l.length
    · rw [List.getElem?_append_left (by omega)] at hc
      rw [List.getElem?_append_left q] at hx
      obtain ⟨e1, e2⟩ := h6 i cs' x' hc hx
      dsimp only
      rw [if_pos (by omega), if_pos (by omega)]
      exact ⟨e1.kept k4 (fun v hv g hg => e1.apart h1 v hv g hg) (Nat.le_refl _), e2⟩
    · rw [List.getElem?_append_right (by omega), h2] at hc
      rw [List.getElem?_append_right (by omega)] at hx
      have hi : i = l.length := by
        by_cases q2 : i = l.length
        · exact q2
        · rw [show i - l.length = (i - l.length - 1) + 1 by omega] at hx; simp at hx
      subst hi
      rw [Nat.sub_self] at hc hx
      simp at hc hx
      subst hc
      subst hx
      dsimp only
      rw [if_pos (Nat.le_refl _), if_neg (by omega)]
      exact ⟨hE.kept k4 (fun v hv g hg => hE.apart h1 v hv g hg) h5, fun v hv g hg => (hE2.blocks v hv g hg).2⟩

section
variable {o : Oper} {a : Act} {w : World}
theorem er_alChE (ho : o.op = .alloc 68) : (execOp a.eval o).run Tryz.prog w = .ok (.value (.pointer (some ⟨w.heap.size, 0, none⟩))) (w.alloc (.cells #[.int .i64 0, .int .i64 0, .slice none 0 0, .int .i64 0, .int .i64 0] 68)) := by
  simp only [execOp, ho, Instr.alloc, newVar]; simp [Value.cells, go_sem]
theorem er_bsCh (x : Operand) (ho : o.op = .buildSlice 24 1 #[(0, x)]) (cs : List Value) (hl : cs.length = 5) (h1 : ∀ v ∈ cs, v.oneCell' = true) (hx : a.eval x = .agg cs.toArray) : (execOp a.eval o).run Tryz.prog w = .ok (.value (.slice (some ⟨w.heap.size, 0, none⟩) 1 1)) (w.alloc (.cells cs.toArray 68)) := by
  match cs, hl with
  | [e0, e1, e2, e3, e4], _ =>
    simp only [execOp, ho, List.map_toArray, List.map_cons, List.map_nil, hx]
    simp [go_sem]
theorem er_appCh (s x : Operand) (ho : o.op = .call { callee := .builtin .append, args := #[s, x], argTypes := #[24, 24] }) (u v r : Value) {w' : World} (hs : a.eval s = u) (hx : a.eval x = v) (hr : (Builtin.append_ #[24, 24] o.type #[u, v]).run Tryz.prog w = .ok r w') : (execOp a.eval o).run Tryz.prog w = .ok (.value r) w' := by
  simp only [execOp, ho, resolve, invoke, builtin, Sem.run_bind, Sem.run_pure, Result.andThen_ok, List.map_toArray, List.map_cons, List.map_nil, hs, hx, hr]
end
theorem box_ChE (w : World) (cs : List Value) (hl : cs.length = 5) (h1 : ∀ v ∈ cs, v.oneCell' = true) :
    ∃ w2, (Instr.storeAt 68 (.pointer (some ⟨w.heap.size, 0, none⟩)) (.agg cs.toArray)).run Tryz.prog (w.alloc (.cells #[.int .i64 0, .int .i64 0, .slice none 0 0, .int .i64 0, .int .i64 0] 68)) = .ok () w2 ∧
      (Instr.loadAt 68 (.pointer (some ⟨w.heap.size, 0, none⟩))).run Tryz.prog w2 = .ok (.agg cs.toArray) w2 ∧ Kept No w w2 := by
  have hb : Bk (w.alloc (.cells #[.int .i64 0, .int .i64 0, .slice none 0 0, .int .i64 0, .int .i64 0] 68)) w.heap.size [.int .i64 0, .int .i64 0, .slice none 0 0, .int .i64 0, .int .i64 0] 68 := heap_alloc_new w _
  have ht : (w.alloc (.cells #[.int .i64 0, .int .i64 0, .slice none 0 0, .int .i64 0, .int .i64 0] 68)).there w.heap.size 0 5 := by
    intro j hj
    rw [Nat.zero_add]
    refine ⟨?_, hb.fz j⟩
    obtain ⟨v, hv⟩ : ∃ v, ([.int .i64 0, .int .i64 0, .slice none 0 0, .int .i64 0, .int .i64 0] : List Value)[j]? = some v := ⟨_, List.getElem?_eq_getElem (by simpa using hj)⟩
    rw [hb.cell hv]; rfl
  refine ⟨(w.alloc (.cells #[.int .i64 0, .int .i64 0, .slice none 0 0, .int .i64 0, .int .i64 0] 68)).setCells w.heap.size 0 cs, ?_, ?_, ?_⟩
  · exact run_storeAt_mid _ w.heap.size 0 _ cs.toArray (by simpa [hl] using ht) (by rw [sizeECh]; simp [hl]) (all_oneCell_toArray h1)
  · exact run_loadAt_mid _ w.heap.size 0 _ cs _ (World.rangeAt_setCells_same _ _ _ _ (by rw [hl]; exact ht)) Tryz.underlying68 rfl (by rw [hl]; exact sizeECh)
  · exact setCells_kept _ _ _ _ _ ((Kept.refl No w).alloc _) (Nat.le_refl _)

set_option maxHeartbeats 8000000 in
theorem getList_Ch (F : Nat → Prop) (p : Nat) (xs : List Nat) (e : Int) (w : World) (h : Rd w F p xs e) (hsz : xs.length ≤ 1048576) :
    Calls Tryz.prog 161 #[.pointer (some ⟨p, 0, none⟩), .int .i64 1048576, .func (.func 119) #[] #[]] w fun ex w' => ∃ v l s', ex = .returned v ∧ OwCh w' w.heap.size v l ∧ Got (decL decCh) (xs, e) l s' ∧ RdDid F p s'.1 s'.2 w w' := by
  obtain ⟨i0, hi, hz0, hz1, hz2⟩ := info_parts Tryz.infECh
  have c60 := count_any F p xs e 1048576 w h
  have hflt : ∀ k, F k → k < w.heap.size := by obtain ⟨a, n, c, hv⟩ := h; exact hv.flt
  have HFL : Hid (∀ k, F k → k < w.heap.size) := hflt
  clear h hflt
  by_cases hok : e = 0 ∧ 4 ≤ xs.length ∧ val (xs.take 4) ≤ 1048576 ∧ val (xs.take 4) ≤ xs.length - 4
  · obtain ⟨rfl, hl4, hm, hr⟩ := hok
    obtain ⟨e1, e2, e3⟩ := cn_yes hl4 hm hr
    have hdec := decL_eq decCh hl4 hm hr
    have hrl : (xs.drop 4).length ≤ xs.length := by rw [List.length_drop]; omega
    obtain ⟨N, hN⟩ : ∃ N, N = val (xs.take 4) := ⟨_, rfl⟩
    obtain ⟨r, hr'⟩ : ∃ r, r = xs.drop 4 := ⟨_, rfl⟩
    rw [e1, e2, e3] at c60
    rw [← hN, ← hr'] at c60 hdec
    rw [← hN] at hm hr
    rw [← hr'] at hrl
    have HDEC : Hid (decL decCh xs = decNn decCh N r) := hdec
    have hNb : N ≤ 1048576 := hm
    clear e1 e2 e3 hdec hN hr' hm hr hl4
    go_enter Tryz.func161, Tryz.ntmps161
    go_wp2_with (go_at_call 168; refine c60.mono ?_; rintro ex w1 ⟨rfl, hd⟩)
    have HD : Hid (RdDid F p r 0 w w1) := hd
    clear hd c60
    go_loopw [7, 12] (fun u i wr => ∃ (k : Nat) (l : List Ch) (t : List Nat), k ≤ N ∧ i = .int .i64 k ∧ decNn decCh k r = some (l, t) ∧ t.length ≤ xs.length ∧ l.length = k ∧ OwCh wr w.heap.size u l ∧ RdDid F p t 0 w wr) (fun _ i _ => N - (intOf i).toNat)
    case atStart => exact ⟨0, [], r, by omega, rfl, rfl, hrl, rfl, OwCh.nil _ _ HD.out.2.size, HD.out⟩
    case round =>
      clear HD
      obtain ⟨k, l, t, hk, rfl, hdk, htl, hll, hown, hdr⟩ := hrel
      have HDK : Hid (decNn decCh k r = some (l, t)) := hdk
      have HOW : Hid (OwCh wr w.heap.size u7 l) := hown
      have HDR : Hid (RdDid F p t 0 w wr) := hdr
      have HLL : Hid (l.length = k) := hll
      have HTL : Hid (t.length ≤ xs.length) := htl
      by_cases hlt : k < N
      · have cg := askCh F p t 0 wr hdr.1 (by omega)
        clear hdk hown hdr hll htl
        go_upto_region 4 with fail
        refine wp_region_lit ?_
        try simp only [Act.put, List.setIfInBounds_toArray, List.set_cons_zero, List.set_cons_succ]
        refine l_take 14 rfl rfl (er_mv _ rfl (.func (.func 119) #[] #[]) rfl) ?_
        simp only [Act.put, List.setIfInBounds_toArray, List.set_cons_zero, List.set_cons_succ]
        refine l_take 15 rfl rfl (er_mv _ rfl (.pointer (some ⟨p, 0, none⟩)) rfl) ?_
        simp only [Act.put, List.setIfInBounds_toArray, List.set_cons_zero, List.set_cons_succ]
        refine l_call 16 rfl rfl (er_askCh _ _ _ rfl rfl) cg ?_
        rintro ex w2 ⟨x, s2, cs, rfl, hE, hg, hd2⟩
        refine ⟨_, rfl, ?_⟩
        simp only [Act.put, List.setIfInBounds_toArray, List.set_cons_zero, List.set_cons_succ]
        have HE : Hid (ChO w2 wr.heap.size cs x) := hE
        have HG : Hid (Got decCh (t, 0) x s2) := hg
        have HD2 : Hid (RdDid F p s2.1 s2.2 wr w2) := hd2
        obtain ⟨w3, hst3, hld3, hk3⟩ := box_ChE w2 cs hE.len hE.one
        have HST3 : Hid ((Instr.storeAt 68 (.pointer (some ⟨w2.heap.size, 0, none⟩)) (.agg cs.toArray)).run Tryz.prog (w2.alloc (.cells #[.int .i64 0, .int .i64 0, .slice none 0 0, .int .i64 0, .int .i64 0] 68)) = .ok () w3) := hst3
        have HLD3 : Hid ((Instr.loadAt 68 (.pointer (some ⟨w2.heap.size, 0, none⟩))).run Tryz.prog w3 = .ok (.agg cs.toArray) w3) := hld3
        have HK3 : Hid (Kept No w2 w3) := hk3
        clear hE hg hd2 cg hst3 hld3 hk3
        refine l_make 8 rfl rfl (er_alChE rfl) ?_
        simp only [Act.put, List.setIfInBounds_toArray, List.set_cons_zero, List.set_cons_succ]
        refine l_turn rfl rfl (er_st _ _ _ rfl _ _ rfl rfl HST3.out) ?_
        have HD3 : Hid (RdDid F p s2.1 s2.2 wr w3) := ⟨HD2.out.1.kept HK3.out (fun _ _ h => h), HD2.out.2.trans HK3.out (fun _ h => h.elim)⟩
        clear HST3
        obtain ⟨sb, se⟩ := s2
        dsimp only at HD2 HG HD3
        obtain ⟨ra, rn, rc, hv2⟩ := HD3.out.1
        have d1 := hv2.c1
        clear hv2
        by_cases hse : se = 0
        · subst hse
          obtain ⟨⟨css, lo, o1, o2, o3, o4, o5, o6⟩, ofew⟩ := HOW.out
          have hp : p < w.heap.size := HFL.out p HD3.out.fp
          have o1' : w3.ownsRow w.heap.size 68 5 u7 l.length css.flatten := HD3.out.2.owns o1 (fun g hg e => by have := (o1.lt g hg).1; omega)
          have o6' : ∀ i cs x, css[i]? = some cs → l[i]? = some x → ChO w3 (lo i) cs x ∧ bnd (lo (i + 1)) cs := fun i cs x hc hx => by
            obtain ⟨q1, q2⟩ := o6 i cs x hc hx
            refine ⟨q1.kept HD3.out.2 (fun v hv g hg e => ?_) (Nat.le_refl _), q2⟩
            have h1 := (q1.blocks v hv g hg).1
            have h2 := mono_le o4 (Nat.zero_le i)
            omega
          have hE3 : ChO w3 wr.heap.size cs x := HE.out.kept HK3.out (fun _ _ _ _ h => h) (Nat.le_refl _)
          have hsz3 := HD3.out.2.size
          have hszr := HDR.out.2.size
          have hl21 := HE.out.len
          have happ := run_append_own_at (P := Tryz.prog) (w3.alloc (.cells cs.toArray 68)) w.heap.size 24 24 68 i0 (.agg #[.int .i64 0, .int .i64 0, .slice none 0 0, .int .i64 0, .int .i64 0]) 5 56 Tryz.underlying24 hi hz0 hz1 hz2 rfl (by decide) u7 l.length css.flatten (o1'.alloc _) ⟨w3.heap.size, 0, none⟩ 1 1 cs (by rw [hl21]) (cells_new w3 cs _ _ rfl) HE.out.one (by rw [HLL.out]; unfold maxLen; omega) (by rw [HLL.out]; omega) (by simp; omega)
          obtain ⟨v4, w4, hrun4, own4, grow4, _, _⟩ := happ
          have HRUN : Hid ((Builtin.append_ #[24, 24] 24 #[u7, .slice (some ⟨w3.heap.size, 0, none⟩) 1 1]).run Tryz.prog (w3.alloc (.cells cs.toArray 68)) = .ok v4 w4) := hrun4
          have k34 : Kept (fun k => u7.ownBlock = some k) w3 w4 := ((Kept.refl (fun k => u7.ownBlock = some k) w3).alloc _).grown grow4 (fun k hk => .inl hk)
          have hk4 : Kept (fun k => k = p) w w4 := (HDR.out.2.trans HD3.out.2 (fun _ h => .inl h)).trans k34 (fun k hk => .inr (o1'.lt k hk).1)
          have hr4 : Rd w4 F p sb 0 := HD3.out.1.kept k34 (fun b hb hu => by have h3 := HFL.out b hb; have h4 := (o1'.lt b hu).1; omega)
          have hgot : decCh t = some (x, sb) := by
            rcases HG.out.got with ⟨_, _, h⟩ | ⟨h, _⟩
            · exact h
            · exact absurd rfl h
          have own5 : OwCh w4 w.heap.size v4 (l ++ [x]) := OwCh.snoc (w := wr) (w2 := w2) o2 o3 o4 o5 HD2.out.2.size o1' o6' HE.out hE3 (by rw [HLL.out]; omega) own4 k34 (Nat.le_trans HK3.out.size k34.size)
          have HEND : Hid (decNn decCh (k + 1) r = some (l ++ [x], sb) ∧ sb.length ≤ xs.length ∧ OwCh w4 w.heap.size v4 (l ++ [x]) ∧ RdDid F p sb 0 w w4) := ⟨step_yes HDK.out hgot, Nat.le_trans HG.out.len HTL.out, own5, hr4, hk4⟩
          clear grow4 own4 own5 hk4 hr4 hgot o1 o2 o3 o4 o5 o6 o1' o6' hE3 k34 hrun4 ofew
          go_upto_region 7 with fail
          refine wp_region_lit ?_
          try simp only [Act.put, List.setIfInBounds_toArray, List.set_cons_zero, List.set_cons_succ]
          refine l_take 22 rfl rfl (er_mv _ rfl u7 rfl) ?_
          simp only [Act.put, List.setIfInBounds_toArray, List.set_cons_zero, List.set_cons_succ]
          refine l_take 23 rfl rfl (er_ld _ _ rfl _ _ rfl HLD3.out) ?_
          simp only [Act.put, List.setIfInBounds_toArray, List.set_cons_zero, List.set_cons_succ]
          refine l_make 24 rfl rfl (er_bsCh _ rfl cs HE.out.len HE.out.one rfl) ?_
          simp only [Act.put, List.setIfInBounds_toArray, List.set_cons_zero, List.set_cons_succ]
          refine l_make 25 rfl rfl (er_appCh (.tmp 22) (.tmp 24) rfl u7 _ v4 rfl rfl HRUN.out) ?_
          simp only [Act.put, List.setIfInBounds_toArray, List.set_cons_zero, List.set_cons_succ]
          refine l_take 7 rfl rfl (er_as _ rfl v4 rfl) ?_
          simp only [Act.put, List.setIfInBounds_toArray, List.set_cons_zero, List.set_cons_succ]
          clear HRUN HLD3
          go_wp2
          go_roundw
          case rel => exact ⟨k + 1, l ++ [x], sb, by omega, by go_num, HEND.out.1, HEND.out.2.1, by rw [List.length_append, HLL.out]; rfl, HEND.out.2.2.1, HEND.out.2.2.2⟩
          case measure => simp [intOf]; omega
        · have hse2 : (se == 0) = false := by simpa using hse
          have hno : decCh t = none := by
            rcases HG.out.got with ⟨_, h, _⟩ | ⟨_, h⟩
            · exact absurd h hse
            · exact h rfl
          have HNO : Hid (decL decCh xs = none) := HDEC.out.trans (dec_none (by omega) (step_no HDK.out hno))
          have HSE : Hid (se ≠ 0) := hse
          clear hse hno
          go_wp2
          go_ret
          have hB : w.heap.size ≤ w3.heap.size := Nat.le_trans HDR.out.2.size HD3.out.2.size
          first
            | exact ⟨_, [], (sb, se), rfl, OwCh.nil _ _ hB, got_no decCh [] (Nat.le_trans HG.out.len HTL.out) HSE.out (fun _ => HNO.out), HD3.out.1, HDR.out.2.trans HD3.out.2 (fun _ h => .inl h)⟩
            | exact ⟨_, rfl, [], OwCh.nil _ _ hB, sb, se, got_no decCh [] (Nat.le_trans HG.out.len HTL.out) HSE.out (fun _ => HNO.out), HD3.out.1, HDR.out.2.trans HD3.out.2 (fun _ h => .inl h)⟩
      · have hkN : k = N := by omega
        subst hkN
        clear hown hdr hdk hll htl
        go_wp2
        go_ret
        exact ⟨_, l, (t, 0), rfl, HOW.out, ⟨HTL.out, .inl ⟨rfl, rfl, HDEC.out.trans HDK.out⟩⟩, HDR.out⟩
  · obtain ⟨e1, e2, e3⟩ := cn_no hok
    have hno : e = 0 → decL decCh xs = none := fun he => by
      unfold decL; rw [if_neg (fun h => hok ⟨he, h⟩)]
    have HNO : Hid (e = 0 → decL decCh xs = none) := hno
    rw [e1, e2] at c60
    obtain ⟨ce, hce⟩ : ∃ ce, ce = cnE xs e 1048576 := ⟨_, rfl⟩
    rw [← hce] at c60 e3
    have HCE : Hid (ce ≠ 0) := e3
    clear e1 e2 e3 hok hno hce
    go_enter Tryz.func161, Tryz.ntmps161
    go_wp2_with (go_at_call 168; refine c60.mono ?_; rintro ex w1 ⟨rfl, hd⟩)
    have HD : Hid (RdDid F p xs ce w w1) := hd
    clear hd
    go_loopw [7, 12] (fun u i wr => i = .int .i64 0 ∧ u = .slice none 0 0 ∧ wr = w1) (fun _ _ _ => 0)
    case atStart => exact ⟨rfl, rfl, rfl⟩
    case round =>
      obtain ⟨rfl, rfl, rfl⟩ := hrel
      go_wp2
      go_ret
      exact ⟨_, [], (xs, ce), rfl, OwCh.nil _ _ HD.out.2.size, got_no decCh [] (Nat.le_refl _) HCE.out HNO.out, HD.out⟩

theorem get_Ch (F : Nat → Prop) (p : Nat) (xs : List Nat) (e : Int) (w : World) (h : Rd w F p xs e) (hsz : xs.length ≤ 1048576) :
    Calls Tryz.prog 118 #[.pointer (some ⟨p, 0, none⟩), .func (.func 119) #[] #[]] w fun ex w' => ∃ v l s', ex = .returned v ∧ OwCh w' w.heap.size v l ∧ Got (decL decCh) (xs, e) l s' ∧ RdDid F p s'.1 s'.2 w w' := by
  have cc := getList_Ch F p xs e w h hsz
  clear h hsz
  go_enter Tryz.func118, Tryz.ntmps118
  go_wp2_with (go_at_call 161; refine cc.mono ?_; rintro ex w1 ⟨v, l, s', rfl, h1, h2, h3⟩)
  go_ret
  exact ⟨v, l, s', rfl, h1, h2, h3⟩
theorem gets_Ch (F : Nat → Prop) (p : Nat) (xs : List Nat) (e : Int) (w : World) (h : Rd w F p xs e) (hsz : xs.length ≤ 1048576) :
    Calls Tryz.prog 69 #[.pointer (some ⟨p, 0, none⟩)] w fun ex w' => ∃ v l s', ex = .returned v ∧ OwCh w' w.heap.size v l ∧ Got (decL decCh) (xs, e) l s' ∧ RdDid F p s'.1 s'.2 w w' := by
  have cc := get_Ch F p xs e w h hsz
  clear h hsz
  go_enter Tryz.func69, Tryz.ntmps69
  go_wp2_with (go_at_call 118; refine cc.mono ?_; rintro ex w1 ⟨v, l, s', rfl, h1, h2, h3⟩)
  go_ret
  exact ⟨v, l, s', rfl, h1, h2, h3⟩

end Go.Proofs.YtolmhoenjcinjaaGreat
