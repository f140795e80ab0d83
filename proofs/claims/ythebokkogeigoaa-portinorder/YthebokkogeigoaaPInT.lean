/-
  PortInOrder: what the law itself turns.
-/
import Derived.Test.YthebokkogeigoaaPInP
namespace Go.Proofs.Ythebokkogeigoaa
open Go.RowKit
set_option linter.unusedVariables false
set_option maxRecDepth 100000

theorem Pt.pf_tag {w : World} {B b mb c : Nat} {S : Pd} (h : Pt w B b mb c S) {k : Nat} (hk : Pf b mb S k) {cs : Array Value} {t : TypeId} {fr : Nat × Nat} (hc : w.heap[k]? = some (.cells cs t fr)) : t = 87 ∨ t = 90 ∨ t = 22 ∨ t = 2 := by
  rcases hk with rfl | rfl | ⟨i, h1, h2, h3⟩
  · exact .inl (two_tags hc h.box)
  · exact absurd hc h.map.not_cells
  · obtain ⟨_, _, cs', t', q1, q2⟩ := (h.ends i h1 h2).ef_blk h3
    rw [two_tags hc q1]
    exact .inr q2
namespace Wy
variable {w wr wa : World} {q : Nat} {pv : Value} {la : Option Addr} {n lc : Nat} {ps : Nat → Pr} {part : Int} {b mb c gw gl : Nat} {S : Pd} {wv : Nat → Value} {wm : Nat → List Value} {lo : Nat → Int} {st : Nat}
theorem gw_tag (h : Wy w wr q pv la n lc ps part b mb c gw gl S wv wm lo) {k : Nat} {cs : Array Value} {t : TypeId} (hc : wr.heap[k]? = some (.cells cs t (0, 0))) (ht : t ≠ 47) : ¬ k = gw := fun e => by
  obtain ⟨cw, h1, _⟩ := h.wt
  rw [e] at hc
  exact ht (two_tags hc h1)
/-- another line waits at port i -/
theorem wput (h : Wy w wr q pv la n lc ps part b mb c gw gl S wv wm lo) {i : Nat} (hi : i < n) {v' : Value} {ms' : List Value} (K : Kept (fun k => (wv i).ownBlock = some k) wr wa) (qr : Qr wa w.heap.size 22 v' ms') (loc : v'.ownBlock = (wv i).ownBlock ∨ ∃ k, v'.ownBlock = some k ∧ wr.heap.size ≤ k) :
    Wy w (wa.setCell ⟨gw, i, none⟩ v') q pv la n lc ps part b mb c gw gl S (upd wv i v') (upd wm i ms') lo ∧ (∀ v x, Mg wr v x → Mg (wa.setCell ⟨gw, i, none⟩ v') v x) ∧ wa.cell? ⟨gw, i, none⟩ = some (wv i) ∧ wa.frozen? ⟨gw, i, none⟩ = false := by
  obtain ⟨cw, hw1, hw2⟩ := h.wt
  have tagI : ∀ k cs t, wr.heap[k]? = some (.cells cs t (0, 0)) → t ≠ 22 → ¬ (wv i).ownBlock = some k := fun k cs t q1 q2 q3 => by
    obtain ⟨_, cs', q4⟩ := (h.que i hi).blk q3
    exact q2 (two_tags q1 q4)
  have hwa := K.at' hw1 (tagI _ _ _ hw1 (by decide))
  have K2 : Kept (fun k => k = gw) wa (wa.setCell ⟨gw, i, none⟩ v') := (Kept.refl (fun k => k = gw) wa).setCell (p := ⟨gw, i, none⟩) (.inl rfl) _
  have Kf : Kept (fun k => (wv i).ownBlock = some k ∨ k = gw) wr (wa.setCell ⟨gw, i, none⟩ v') := (K.mono (fun k e => Or.inl e)).trans K2 (fun k e => .inl (.inr e))
  have both : ∀ k cs t, wr.heap[k]? = some (.cells cs t (0, 0)) → t ≠ 22 → t ≠ 47 → ¬ ((wv i).ownBlock = some k ∨ k = gw) := fun k cs t q1 q2 q3 q4 => by
    rcases q4 with q4 | q4
    · exact tagI k cs t q1 q2 q4
    · exact h.gw_tag q1 q3 q4
  have pfn : ∀ k, Pf b mb S k → ¬ ((wv i).ownBlock = some k ∨ k = gw) := fun k hk q4 => by
    rcases q4 with q4 | q4
    · exact h.far i k hi q4 hk
    · rw [q4] at hk
      rcases h.pt.pf_tag hk hw1 with q5 | q5 | q5 | q5 <;> exact absurd q5 (by decide)
  have vblk : ∀ k, v'.ownBlock = some k → (wv i).ownBlock = some k ∨ wr.heap.size ≤ k := fun k hk => by
    rcases loc with q1 | ⟨k', q1, q2⟩
    · exact .inl (q1 ▸ hk)
    · rw [q1] at hk
      injection hk with hk
      subst hk
      exact .inr q2
  refine ⟨{ h with kept := h.kept.trans Kf (fun k hk => .inr ?_), img := Kf.at' h.img (both _ _ _ h.img (by decide) (by decide)), lst := Kf.owns h.lst (fun k hk => ?_), pt := h.pt.kept Kf pfn, wt := ⟨_, set_blk hwa i v', fun j hj => ?_⟩, lt := ?_, que := fun j hj => ?_, far := fun j k hj hk => ?_, wfar := fun j l hj hl hjl => ?_ }, fun v x hm => hm.kept Kf (fun k cs q1 => both k cs _ q1 (by decide) (by decide)), ?_, fz_blk hwa i⟩
  · rcases hk with hk | hk
    · exact ((h.que i hi).blk hk).1
    · rw [hk]; exact h.gwl
  · obtain ⟨_, cs, q1⟩ := owns_blk h.lst hk
    exact both _ _ _ q1 (by decide) (by decide)
  · show _ = some (upd wv i v' j)
    have hlen : i < cw.size := by
      have := hw2 i hi
      exact (Array.getElem?_eq_some_iff.1 this).1
    by_cases e : j = i
    · subst e
      rw [upd_same, Array.getElem?_setIfInBounds_self_of_lt hlen]
    · rw [upd_oth _ _ e, Array.getElem?_setIfInBounds_ne (fun q => e q.symm)]
      exact hw2 j hj
  · obtain ⟨cl, q1, q2⟩ := h.lt
    exact ⟨cl, Kf.at' q1 (both _ _ _ q1 (by decide) (by decide)), q2⟩
  · show Qr _ _ _ (upd wv i v' j) (upd wm i ms' j)
    by_cases e : j = i
    · subst e
      rw [upd_same, upd_same]
      refine qr.kept K2 (fun k hk hk' => ?_)
      obtain ⟨_, cs, q1⟩ := qr.blk hk
      rw [hk'] at q1
      exact absurd (two_tags q1 hwa) (by decide)
    · rw [upd_oth _ _ e, upd_oth _ _ e]
      refine (h.que j hj).kept Kf (fun k hk hk' => ?_)
      rcases hk' with hk' | hk'
      · exact h.wfar j i hj hi e k hk hk'
      · obtain ⟨_, cs, q1⟩ := (h.que j hj).blk hk
        exact h.gw_tag q1 (by decide) hk'
  · have hk1 : (upd wv i v' j).ownBlock = some k := hk
    by_cases e : j = i
    · subst e
      rw [upd_same] at hk1
      intro q1
      rcases vblk k hk1 with q2 | q2
      · exact h.far j k hj q2 q1
      · have := (h.pt.pf_low q1).2
        omega
    · rw [upd_oth _ _ e] at hk1
      exact h.far j k hj hk1
  · show Far (upd wv i v' j) (upd wv i v' l)
    have key : ∀ m, m < n → m ≠ i → Far v' (wv m) := fun m hm hmi k hk hk' => by
      rcases vblk k hk with q2 | q2
      · exact h.wfar m i hm hi hmi k hk' q2
      · obtain ⟨_, cs, q1⟩ := (h.que m hm).blk hk'
        have := heap_lt q1
        omega
    by_cases e : j = i
    · subst e
      rw [upd_same, upd_oth _ _ (fun q => hjl q.symm)]
      exact key l hl (fun q => hjl q.symm)
    · by_cases e2 : l = i
      · subst e2
        rw [upd_same, upd_oth _ _ e]
        exact (key j hj e).symm
      · rw [upd_oth _ _ e, upd_oth _ _ e2]
        exact h.wfar j l hj hl hjl
  · rw [cell_blk hwa]
    exact hw2 i hi
/-- one more is lost -/
theorem lput (h : Wy w wr q pv la n lc ps part b mb c gw gl S wv wm lo) {i : Nat} (hi : i < n) (x : Int) :
    Wy w (wr.setCell ⟨gl, i, none⟩ (.int .i64 x)) q pv la n lc ps part b mb c gw gl S wv wm (upd lo i x) ∧ (∀ v y, Mg wr v y → Mg (wr.setCell ⟨gl, i, none⟩ (.int .i64 x)) v y) := by
  obtain ⟨cl, hw1, hw2⟩ := h.lt
  have K : Kept (fun k => k = gl) wr (wr.setCell ⟨gl, i, none⟩ (.int .i64 x)) := (Kept.refl (fun k => k = gl) wr).setCell (p := ⟨gl, i, none⟩) (.inl rfl) _
  have tag : ∀ k cs t, wr.heap[k]? = some (.cells cs t (0, 0)) → t ≠ 3 → ¬ k = gl := fun k cs t q1 q2 q3 => by
    rw [q3] at q1
    exact q2 (two_tags q1 hw1)
  refine ⟨{ h with kept := h.kept.trans K (fun k hk => .inr (by rw [hk]; exact h.gll)), img := K.at' h.img (tag _ _ _ h.img (by decide)), lst := K.owns h.lst (fun k hk => ?_), pt := h.pt.kept K (fun k hk q4 => ?_), wt := ?_, lt := ⟨_, set_blk hw1 i _, fun j hj => ?_⟩, que := fun j hj => (h.que j hj).kept K (fun k hk => ?_) }, fun v y hm => hm.kept K (fun k cs q1 => tag k cs _ q1 (by decide))⟩
  · obtain ⟨_, cs, q1⟩ := owns_blk h.lst hk
    exact tag _ _ _ q1 (by decide)
  · rw [q4] at hk
    rcases h.pt.pf_tag hk hw1 with q5 | q5 | q5 | q5 <;> exact absurd q5 (by decide)
  · obtain ⟨cw, q1, q2⟩ := h.wt
    exact ⟨cw, K.at' q1 (tag _ _ _ q1 (by decide)), q2⟩
  · have hlen : i < cl.size := (Array.getElem?_eq_some_iff.1 (hw2 i hi)).1
    by_cases e : j = i
    · subst e
      rw [upd_same, Array.getElem?_setIfInBounds_self_of_lt hlen]
    · rw [upd_oth _ _ e, Array.getElem?_setIfInBounds_ne (fun q => e q.symm)]
      exact hw2 j hj
  · obtain ⟨_, cs, q1⟩ := (h.que j hj).blk hk
    exact tag _ _ _ q1 (by decide)
theorem wcell (h : Wy w wr q pv la n lc ps part b mb c gw gl S wv wm lo) {i : Nat} (hi : i < n) : wr.cell? ⟨gw, i, none⟩ = some (wv i) := by
  obtain ⟨cw, hw1, hw2⟩ := h.wt
  rw [cell_blk hw1]
  exact hw2 i hi
theorem wfz (h : Wy w wr q pv la n lc ps part b mb c gw gl S wv wm lo) (i : Nat) : wr.frozen? ⟨gw, i, none⟩ = false := by
  obtain ⟨cw, hw1, hw2⟩ := h.wt
  exact fz_blk hw1 i
theorem lcell (h : Wy w wr q pv la n lc ps part b mb c gw gl S wv wm lo) {i : Nat} (hi : i < n) : wr.cell? ⟨gl, i, none⟩ = some (.int .i64 (lo i)) := by
  obtain ⟨cw, hw1, hw2⟩ := h.lt
  rw [cell_blk hw1]
  exact hw2 i hi
theorem lfz (h : Wy w wr q pv la n lc ps part b mb c gw gl S wv wm lo) (i : Nat) : wr.frozen? ⟨gl, i, none⟩ = false := by
  obtain ⟨cw, hw1, hw2⟩ := h.lt
  exact fz_blk hw1 i
theorem pl (h : Wy w wr q pv la n lc ps part b mb c gw gl S wv wm lo) : Pl wr (fun g => (Value.slice la n lc).ownBlock = some g) la n lc ps := by
  obtain ⟨a, c', hv, hl⟩ := Pl.of_owns h.lst
  injection hv with h1 _ h2
  subst h1 h2
  exact hl
/-- the whole: what lies there, and what the queues hold -/
def Ok (w wr : World) (q : Nat) (pv : Value) (la : Option Addr) (n lc : Nat) (ps : Nat → Pr) (part : Int) (b mb c gw gl : Nat) (st : Nat) : Prop :=
  ∃ S wv wm lo, Wy w wr q pv la n lc ps part b mb c gw gl S wv wm lo ∧ Cn wr n S wm lo st (fun _ => False)
theorem en_put {i : Nat} {e' : En} : (S.put i e').en i = e' := by show upd S.en i e' i = e'; exact upd_same _ _ _
/-- Push behind which the message waits too -/
theorem push {w1 W wb : World} {i : Nat} {x : List Int} {it m mv v' : Value} {o : Obj} (h : Wy w wr q pv la n lc ps part b mb c gw gl S wv wm lo) (H : Cn wr n S wm lo st (fun _ => False)) (hi : i < n) (ho : S.own i = true) (hk : (S.en i).kd = 1) (hl : ((S.en i).ms.length : Int) < (ps i).dp) (d : Did wr w1 w.heap.size (S.en i) ((S.en i).more it m x)) (K1 : Kept No w1 W) (hm : Mg W mv x)
    (K2 : Kept (fun k => (wv i).ownBlock = some k) W wb) (q2 : Qr wb w.heap.size 22 v' (wm i ++ [mv])) (loc : v'.ownBlock = (wv i).ownBlock ∨ ∃ k, v'.ownBlock = some k ∧ W.heap.size ≤ k) :
    Ok w (wb.setCell ⟨gw, i, none⟩ v') q pv la n lc ps part b mb c gw gl st ∧ wb.cell? ⟨gw, i, none⟩ = some (wv i) ∧ wb.frozen? ⟨gw, i, none⟩ = false := by
  obtain ⟨r1, r2⟩ := h.room i hi ho hk
  have h1 := (h.did hi ho d rfl rfl rfl (fun _ => ⟨r1, by show (((S.en i).ms ++ [m]).length : Int) ≤ _; rw [List.length_append, List.length_singleton]; omega⟩)).keep K1
  have C1 := (h.cn H hi ho d).keep K1
  obtain ⟨h2, mg, c2, f2⟩ := h1.wput hi K2 q2 loc
  refine ⟨⟨_, _, _, _, h2, fun j hj hoj hkj _ => ?_⟩, c2, f2⟩
  by_cases e : j = i
  · subst e
    obtain ⟨a1, a2, a3, a4, a5⟩ := H j hj ho hk (fun e => e)
    rw [en_put] at hkj ⊢
    refine ⟨a1, a2, a3, ?_, fun l v y hv hy => ?_⟩
    · rw [upd_same]
      show (wm j ++ [mv]).length = ((S.en j).xs ++ [x]).length
      rw [List.length_append, List.length_append, a4]
      rfl
    · rw [upd_same] at hv
      have hy' : ((S.en j).xs ++ [x])[l]? = some y := hy
      rcases get_snoc hv with ⟨b1, b2⟩ | ⟨b1, rfl⟩
      · rw [List.getElem?_append_left (by rw [← a4]; exact b2)] at hy'
        exact mg v y ((h.mgs hi ho d (a5 l v y b1 hy')).kept K1 (fun _ _ _ e => e))
      · rcases get_snoc hy' with ⟨_, b3⟩ | ⟨_, rfl⟩
        · omega
        · exact mg v y hm
  · obtain ⟨a1, a2, a3, a4, a5⟩ := C1 j hj hoj hkj e
    refine ⟨a1, a2, a3, ?_, fun l v y hv hy => ?_⟩
    · rw [upd_oth _ _ e]; exact a4
    · rw [upd_oth _ _ e] at hv
      exact mg v y (a5 l v y hv hy)
/-- Pop behind which the message waits no more -/
theorem pop {w1 W : World} {i : Nat} {x : List Int} {it m mv : Value} {ms wms : List Value} {xs : List (List Int)} {g o cap : Nat} (h : Wy w wr q pv la n lc ps part b mb c gw gl S wv wm lo) (H : Cn wr n S wm lo st (fun _ => False)) (hi : i < n) (ho : S.own i = true) (hk : (S.en i).kd = 1) (hm : (S.en i).ms = m :: ms) (hx : (S.en i).xs = x :: xs) (d : Did wr w1 w.heap.size (S.en i) ((S.en i).less it ms xs)) (K1 : Kept No w1 W)
    (hwm : wm i = mv :: wms) (hwv : wv i = .slice (some ⟨g, o, none⟩) (mv :: wms).length cap) :
    Ok w (W.setCell ⟨gw, i, none⟩ (.slice (if cap = 1 then some ⟨g, o, none⟩ else some ⟨g, o + 1, none⟩) wms.length (cap - 1))) q pv la n lc ps part b mb c gw gl st := by
  obtain ⟨r1, r2⟩ := h.room i hi ho hk
  have h1 := (h.did hi ho d rfl rfl rfl (fun _ => ⟨r1, by show (ms.length : Int) ≤ _; rw [hm, List.length_cons] at r2; omega⟩)).keep K1
  have C1 := (h.cn H hi ho d).keep K1
  have q1 := h1.que i hi
  rw [hwm, hwv] at q1
  obtain ⟨h2, mg, _, _⟩ := h1.wput hi (Kept.refl _ W) q1.rest (.inl (by rw [hwv]; split <;> rfl))
  refine ⟨_, _, _, _, h2, fun j hj hoj hkj _ => ?_⟩
  by_cases e : j = i
  · subst e
    obtain ⟨a1, a2, a3, a4, a5⟩ := H j hj ho hk (fun e => e)
    rw [hwm, hx, List.length_cons, List.length_cons] at a4
    rw [en_put] at hkj ⊢
    refine ⟨a1, a2, a3, ?_, fun l v y hv hy => ?_⟩
    · rw [upd_same]
      show wms.length = xs.length
      omega
    · rw [upd_same] at hv
      have hy' : xs[l]? = some y := hy
      exact mg v y ((h.mgs hi ho d (a5 (l + 1) v y (by rw [hwm]; simpa using hv) (by rw [hx]; simpa using hy'))).kept K1 (fun _ _ _ e => e))
  · obtain ⟨a1, a2, a3, a4, a5⟩ := C1 j hj hoj hkj e
    refine ⟨a1, a2, a3, ?_, fun l v y hv hy => ?_⟩
    · rw [upd_oth _ _ e]; exact a4
    · rw [upd_oth _ _ e] at hv
      exact mg v y (a5 l v y hv hy)
/-- Lose, and one more is lost -/
theorem lose {w1 : World} {i : Nat} (h : Wy w wr q pv la n lc ps part b mb c gw gl S wv wm lo) (H : Cn wr n S wm lo st (fun _ => False)) (hi : i < n) (ho : S.own i = true) (hk : (S.en i).kd = 1) (d : Did wr w1 w.heap.size (S.en i) (S.en i).lose) :
    Ok w (w1.setCell ⟨gl, i, none⟩ (.int .i64 (lo i + 1))) q pv la n lc ps part b mb c gw gl (st + 1) ∧ w1.cell? ⟨gl, i, none⟩ = some (.int .i64 (lo i)) ∧ w1.frozen? ⟨gl, i, none⟩ = false := by
  obtain ⟨r1, r2⟩ := h.room i hi ho hk
  have h1 := h.did hi ho d rfl rfl rfl (fun _ => ⟨r1, r2⟩)
  have C1 := h.cn H hi ho d
  obtain ⟨h2, mg⟩ := h1.lput hi (lo i + 1)
  refine ⟨⟨_, _, _, _, h2, fun j hj hoj hkj _ => ?_⟩, h1.lcell hi, h1.lfz i⟩
  by_cases e : j = i
  · subst e
    obtain ⟨a1, a2, a3, a4, a5⟩ := H j hj ho hk (fun e => e)
    rw [en_put] at hkj ⊢
    rw [upd_same]
    refine ⟨?_, by omega, by omega, a4, fun l v y hv hy => mg v y (h.mgs hi ho d (a5 l v y hv hy))⟩
    show (S.en j).lost + 1 = lo j + 1
    rw [a1]
  · obtain ⟨a1, a2, a3, a4, a5⟩ := C1 j hj hoj hkj e
    rw [upd_oth _ _ e]
    exact ⟨a1, a2, by omega, a4, fun l v y hv hy => mg v y (a5 l v y hv hy)⟩
/-- Set, on a port that is no queue -/
theorem set {w1 : World} {i : Nat} {t : Int} {v : Value} {x : List Int} (h : Wy w wr q pv la n lc ps part b mb c gw gl S wv wm lo) (H : Cn wr n S wm lo st (fun _ => False)) (hi : i < n) (ho : S.own i = true) (hk : (S.en i).kd = 0) (d : Did wr w1 w.heap.size (S.en i) ((S.en i).stamp t v x)) : Ok w w1 q pv la n lc ps part b mb c gw gl st := by
  have h1 := h.did hi ho d rfl rfl rfl (fun q1 => by omega)
  have C1 := h.cn H hi ho d
  refine ⟨_, _, _, _, h1, fun j hj hoj hkj _ => ?_⟩
  by_cases e : j = i
  · subst e
    rw [en_put] at hkj
    have hkj' : (S.en j).kd = 1 := hkj
    omega
  · exact C1 j hj hoj hkj e
end Wy
end Go.Proofs.Ythebokkogeigoaa
