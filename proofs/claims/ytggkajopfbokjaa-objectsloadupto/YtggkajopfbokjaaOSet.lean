/-
  A set of objects in memory: no dump.
-/
import Derived.Test.YtggkajopfbokjaaODat
namespace Go.Proofs.Ytggkajopfbokjaa
open Go.RowKit
set_option linter.unusedVariables false
set_option maxRecDepth 100000

/-- the objects: semaphores, events; of each buffer its line, the messages (where they lie, and their words), Depth, Size -/
structure So where
  ns : Nat
  cnt : Nat → Int
  mx : Nat → Int
  ne : Nat
  ev : Nat → Bool
  nb : Nat
  it : Nat → Value
  ms : Nat → List Value
  xs : Nat → List (List Int)
  dp : Nat → Int
  sz : Nat → Int
def So.sc (S : So) (i j : Nat) : Value := if j = 0 then .int .i64 (S.cnt i) else .int .i64 (S.mx i)
def So.bc (S : So) (i j : Nat) : Value := if j = 0 then S.it i else if j = 1 then .int .i64 (S.dp i) else .int .i64 (S.sz i)
def upd {α : Type} (f : Nat → α) (i : Nat) (x : α) : Nat → α := fun j => if j = i then x else f j
theorem upd_same {α : Type} (f : Nat → α) (i : Nat) (x : α) : upd f i x i = x := if_pos rfl
theorem upd_oth {α : Type} (f : Nat → α) {i j : Nat} (x : α) (h : j ≠ i) : upd f i x j = f j := if_neg h

/-- block b is the set S; all that it has lies in blocks from B on -/
structure St (w : World) (B b : Nat) (sv ev bv : Value) (S : So) : Prop where
  box : w.heap[b]? = some (.cells #[sv, ev, bv] 82 (0, 0))
  low : B ≤ b
  sems : Rc w B 84 2 sv S.ns S.sc
  evs : Rc w B 4 1 ev S.ne (fun i _ => .bool (S.ev i))
  bufs : Rc w B 88 3 bv S.nb S.bc
  its : ∀ i, i < S.nb → Qr w B 31 (S.it i) (S.ms i)
  len : ∀ i, i < S.nb → (S.xs i).length = (S.ms i).length
  msg : ∀ (i j : Nat) (v : Value) (x : List Int), i < S.nb → (S.ms i)[j]? = some v → (S.xs i)[j]? = some x → w.ownsRow B 2 1 v x.length (x.map iv)
  far : ∀ i j, i < S.nb → j < S.nb → i ≠ j → Far (S.it i) (S.it j)
  mfar : ∀ (i j i' j' : Nat) (v v' : Value), i < S.nb → i' < S.nb → (S.ms i)[j]? = some v → (S.ms i')[j']? = some v' → ¬ (i = i' ∧ j = j') → Far v v'

/-- its blocks that are written -/
def Fo (b : Nat) (sv ev bv : Value) (S : So) (k : Nat) : Prop := k = b ∨ sv.ownBlock = some k ∨ ev.ownBlock = some k ∨ bv.ownBlock = some k ∨ ∃ i, i < S.nb ∧ (S.it i).ownBlock = some k
/-- those of its messages -/
def Fm (S : So) (k : Nat) : Prop := ∃ i v, i < S.nb ∧ v ∈ S.ms i ∧ v.ownBlock = some k

namespace St
variable {w w' : World} {B b : Nat} {sv ev bv : Value} {S : So}
theorem at_msg (h : St w B b sv ev bv S) {i j : Nat} {v : Value} (hi : i < S.nb) (hv : (S.ms i)[j]? = some v) : ∃ x, (S.xs i)[j]? = some x ∧ w.ownsRow B 2 1 v x.length (x.map iv) := by
  have hj : j < (S.xs i).length := by rw [h.len i hi]; exact (List.getElem?_eq_some_iff.1 hv).1
  exact ⟨_, List.getElem?_eq_getElem hj, h.msg i j v _ hi hv (List.getElem?_eq_getElem hj)⟩
/-- all that it writes: new since B, and of a type that no message has -/
theorem fo_blk (h : St w B b sv ev bv S) {k : Nat} (hk : Fo b sv ev bv S k) : B ≤ k ∧ ∃ cs t, w.heap[k]? = some (.cells cs t (0, 0)) ∧ t ≠ 2 := by
  rcases hk with rfl | hk | hk | hk | ⟨i, hi, hk⟩
  · exact ⟨h.low, _, _, h.box, by decide⟩
  · obtain ⟨h1, cs, h2⟩ := h.sems.blk hk
    exact ⟨h1, cs, _, h2, by decide⟩
  · obtain ⟨h1, cs, h2⟩ := h.evs.blk hk
    exact ⟨h1, cs, _, h2, by decide⟩
  · obtain ⟨h1, cs, h2⟩ := h.bufs.blk hk
    exact ⟨h1, cs, _, h2, by decide⟩
  · obtain ⟨h1, cs, h2⟩ := (h.its i hi).blk hk
    exact ⟨h1, cs, _, h2, by decide⟩
theorem fm_blk (h : St w B b sv ev bv S) {k : Nat} (hk : Fm S k) : B ≤ k ∧ ∃ cs, w.heap[k]? = some (.cells cs 2 (0, 0)) := by
  obtain ⟨i, v, hi, hv, hk⟩ := hk
  obtain ⟨j, hj, e⟩ := List.mem_iff_getElem.1 hv
  obtain ⟨x, _, ho⟩ := h.at_msg (j := j) (v := v) hi (by rw [List.getElem?_eq_getElem hj, e])
  exact owns_blk ho hk
theorem fo_lt (h : St w B b sv ev bv S) {k : Nat} (hk : Fo b sv ev bv S k) : k < w.heap.size := by
  obtain ⟨_, cs, t, h2, _⟩ := h.fo_blk hk
  exact heap_lt h2
theorem fm_lt (h : St w B b sv ev bv S) {k : Nat} (hk : Fm S k) : k < w.heap.size := by
  obtain ⟨_, cs, h2⟩ := h.fm_blk hk
  exact heap_lt h2
theorem fo_fm (h : St w B b sv ev bv S) {k : Nat} (hk : Fo b sv ev bv S k) : ¬ Fm S k := fun hm => by
  obtain ⟨_, cs, t, h2, hn⟩ := h.fo_blk hk
  obtain ⟨_, cs', h3⟩ := h.fm_blk hm
  exact hn (two_tags h2 h3)
/-- what turns none of its blocks -/
theorem kept {G : Nat → Prop} (h : St w B b sv ev bv S) (K : Kept G w w') (h1 : ∀ k, Fo b sv ev bv S k → ¬ G k) (h2 : ∀ k, Fm S k → ¬ G k) : St w' B b sv ev bv S :=
  ⟨K.at' h.box (h1 b (.inl rfl)), h.low, h.sems.kept K (fun g hg => h1 g (.inr (.inl hg))), h.evs.kept K (fun g hg => h1 g (.inr (.inr (.inl hg)))), h.bufs.kept K (fun g hg => h1 g (.inr (.inr (.inr (.inl hg))))),
    fun i hi => (h.its i hi).kept K (fun g hg => h1 g (.inr (.inr (.inr (.inr ⟨i, hi, hg⟩))))), h.len,
    fun i j v x hi hv hx => K.owns (h.msg i j v x hi hv hx) (fun g hg => h2 g ⟨i, v, hi, List.mem_of_getElem? hv, hg⟩), h.far, h.mfar⟩
theorem keep (h : St w B b sv ev bv S) (K : Kept No w w') : St w' B b sv ev bv S := h.kept K (fun _ _ e => e) (fun _ _ e => e)
theorem cells (h : St w B b sv ev bv S) : w.cell? ⟨b, 0, none⟩ = some sv ∧ w.cell? ⟨b, 1, none⟩ = some ev ∧ w.cell? ⟨b, 2, none⟩ = some bv :=
  ⟨(cell_blk h.box 0).trans rfl, (cell_blk h.box 1).trans rfl, (cell_blk h.box 2).trans rfl⟩
end St

/-- a call has made S' of the set -/
def Did (w w' : World) (B b : Nat) (sv ev bv : Value) (S S' : So) : Prop :=
  St w' B b sv ev bv S' ∧ Kept (Fo b sv ev bv S) w w' ∧ (∀ k, Fo b sv ev bv S' k → Fo b sv ev bv S k ∨ w.heap.size ≤ k) ∧ (∀ k, Fm S' k → Fm S k ∨ w.heap.size ≤ k)

section
variable {w w' : World} {B b : Nat} {sv ev bv : Value} {S : So}
theorem Did.same (h : St w B b sv ev bv S) (K : Kept No w w') : Did w w' B b sv ev bv S S :=
  ⟨h.keep K, K.mono (fun _ e => e.elim), fun _ h => .inl h, fun _ h => .inl h⟩
/-- a semaphore's number is another one -/
def So.semTo (S : So) (i : Nat) (x : Int) : So := { S with cnt := upd S.cnt i x }
theorem St.sem_put (h : St w B b sv ev bv S) {g : Nat} (hg : sv.ownBlock = some g) {i : Nat} (x : Int) : Did w (w.setCell ⟨g, i * 2 + 0, none⟩ (.int .i64 x)) B b sv ev bv S (S.semTo i x) := by
  have K : Kept (fun k => sv.ownBlock = some k) w (w.setCell ⟨g, i * 2 + 0, none⟩ (.int .i64 x)) := (Kept.refl (fun k => sv.ownBlock = some k) w).setCell (p := ⟨g, i * 2 + 0, none⟩) (.inl hg) _
  have hfo : ∀ k, sv.ownBlock = some k → Fo b sv ev bv S k := fun k hk => .inr (.inl hk)
  have tag : ∀ k cs t, w.heap[k]? = some (.cells cs t (0, 0)) → t ≠ 84 → ¬ sv.ownBlock = some k := fun k cs t h1 h2 h3 => by
    obtain ⟨_, cs', h4⟩ := h.sems.blk h3
    exact h2 (two_tags h1 h4)
  refine ⟨⟨K.at' h.box (tag _ _ _ h.box (by decide)), h.low, (h.sems.put hg (i := i) (j := 0) (by decide) (.int .i64 x)).congr (fun a c ha hc => ?_), h.evs.kept K (fun k hk => ?_), h.bufs.kept K (fun k hk => ?_), fun j hj => (h.its j hj).kept K (fun k hk => ?_), h.len, fun a c v y ha hv hy => K.owns (h.msg a c v y ha hv hy) (fun k hk => ?_), h.far, h.mfar⟩, K.mono hfo, fun k hk => .inl hk, fun k hk => .inl hk⟩
  · show (if a = i ∧ c = 0 then Value.int .i64 x else S.sc a c) = (if c = 0 then .int .i64 (upd S.cnt i x a) else .int .i64 (S.mx a))
    by_cases e : c = 0
    · subst e
      by_cases e2 : a = i
      · subst e2; simp [upd]
      · simp [upd, e2, So.sc]
    · simp [e, So.sc]
  · obtain ⟨_, cs, h2⟩ := h.evs.blk hk
    exact tag k _ _ h2 (by decide)
  · obtain ⟨_, cs, h2⟩ := h.bufs.blk hk
    exact tag k _ _ h2 (by decide)
  · obtain ⟨_, cs, h2⟩ := (h.its j hj).blk hk
    exact tag k _ _ h2 (by decide)
  · obtain ⟨_, cs, h2⟩ := owns_blk (h.msg a c v y ha hv hy) hk
    exact tag k _ _ h2 (by decide)
/-- a buffer's line is another one -/
def So.bufTo (S : So) (i : Nat) (it : Value) (ms : List Value) (xs : List (List Int)) : So := { S with it := upd S.it i it, ms := upd S.ms i ms, xs := upd S.xs i xs }
theorem St.buf_put {wa : World} (h : St w B b sv ev bv S) {g : Nat} (hg : bv.ownBlock = some g) {i : Nat} (hi : i < S.nb) {it : Value} {ms : List Value} {xs : List (List Int)} (K : Kept (fun k => (S.it i).ownBlock = some k) w wa) (q : Qr wa B 31 it ms)
    (hit : it.ownBlock = (S.it i).ownBlock ∨ ∃ k, it.ownBlock = some k ∧ w.heap.size ≤ k) (hl : xs.length = ms.length) (hm : ∀ (j : Nat) (v : Value) (x : List Int), ms[j]? = some v → xs[j]? = some x → wa.ownsRow B 2 1 v x.length (x.map iv))
    (hold : ∀ (j : Nat) (v : Value), ms[j]? = some v → (∃ j' : Nat, (S.ms i)[j']? = some v) ∨ ∀ k, v.ownBlock = some k → w.heap.size ≤ k) (hf : ∀ (j j' : Nat) (v v' : Value), ms[j]? = some v → ms[j']? = some v' → j ≠ j' → Far v v') :
    Did w (wa.setCell ⟨g, i * 3 + 0, none⟩ it) B b sv ev bv S (S.bufTo i it ms xs) := by
  have hfi : ∀ k, (S.it i).ownBlock = some k → Fo b sv ev bv S k := fun k hk => .inr (.inr (.inr (.inr ⟨i, hi, hk⟩)))
  have K2 : Kept (fun k => bv.ownBlock = some k) wa (wa.setCell ⟨g, i * 3 + 0, none⟩ it) := (Kept.refl (fun k => bv.ownBlock = some k) wa).setCell (p := ⟨g, i * 3 + 0, none⟩) (.inl hg) _
  have tagI : ∀ k cs t, w.heap[k]? = some (.cells cs t (0, 0)) → t ≠ 31 → ¬ (S.it i).ownBlock = some k := fun k cs t h1 h2 h3 => by
    obtain ⟨_, cs', h4⟩ := (h.its i hi).blk h3
    exact h2 (two_tags h1 h4)
  have tagB : ∀ k cs t, w.heap[k]? = some (.cells cs t (0, 0)) → t ≠ 88 → ¬ bv.ownBlock = some k := fun k cs t h1 h2 h3 => by
    obtain ⟨_, cs', h4⟩ := h.bufs.blk h3
    exact h2 (two_tags h1 h4)
  have hbw : ∀ k, bv.ownBlock = some k → k < w.heap.size := fun k hk => by
    obtain ⟨_, cs, h4⟩ := h.bufs.blk hk
    exact heap_lt h4
  have Kf : Kept (fun k => (S.it i).ownBlock = some k ∨ bv.ownBlock = some k) w (wa.setCell ⟨g, i * 3 + 0, none⟩ it) := (K.mono (fun k hk => Or.inl hk)).trans K2 (fun k hk => .inl (.inr hk))
  have both : ∀ k cs t, w.heap[k]? = some (.cells cs t (0, 0)) → t ≠ 31 → t ≠ 88 → ¬ ((S.it i).ownBlock = some k ∨ bv.ownBlock = some k) := fun k cs t h1 h2 h3 e => by
    rcases e with e | e
    · exact tagI k cs t h1 h2 e
    · exact tagB k cs t h1 h3 e
  have hb' : Rc wa B 88 3 bv S.nb S.bc := h.bufs.kept K (fun k hk => by
    obtain ⟨_, cs, h2⟩ := h.bufs.blk hk
    exact tagI k _ _ h2 (by decide))
  have hnew : ∀ {v : Value} {k : Nat}, (∃ j : Nat, ms[j]? = some v) → v.ownBlock = some k → (∃ j : Nat, (S.ms i)[j]? = some v) ∨ w.heap.size ≤ k := by
    rintro v k ⟨j, hj⟩ hk
    rcases hold j v hj with h1 | h1
    · exact .inl h1
    · exact .inr (h1 k hk)
  have old_lt : ∀ {a c : Nat} {v : Value} {k : Nat}, a < S.nb → (S.ms a)[c]? = some v → v.ownBlock = some k → k < w.heap.size := fun ha hv hk => h.fm_lt ⟨_, _, ha, List.mem_of_getElem? hv, hk⟩
  refine ⟨⟨Kf.at' h.box (both _ _ _ h.box (by decide) (by decide)), h.low, h.sems.kept Kf (fun k hk => ?_), h.evs.kept Kf (fun k hk => ?_), (hb'.put hg (i := i) (j := 0) (by decide) it).congr (fun a c ha hc => ?_), fun j hj => ?_, fun j hj => ?_, fun a c v y ha hv hy => ?_, fun a c ha hc hac => ?_, fun a c a' c' v v' ha ha' hv hv' hne => ?_⟩, Kf.mono (fun k hk => ?_), fun k hk => ?_, fun k hk => ?_⟩
  · obtain ⟨_, cs, h2⟩ := h.sems.blk hk
    exact both k _ _ h2 (by decide) (by decide)
  · obtain ⟨_, cs, h2⟩ := h.evs.blk hk
    exact both k _ _ h2 (by decide) (by decide)
  · show (if a = i ∧ c = 0 then it else S.bc a c) = (if c = 0 then upd S.it i it a else if c = 1 then .int .i64 (S.dp a) else .int .i64 (S.sz a))
    by_cases e : c = 0
    · subst e
      by_cases e2 : a = i
      · subst e2; simp [upd]
      · simp [upd, e2, So.bc]
    · simp [e, So.bc]
  · show Qr _ B _ (upd S.it i it j) (upd S.ms i ms j)
    by_cases e : j = i
    · subst e
      rw [upd_same, upd_same]
      refine q.kept K2 (fun k hk hb => ?_)
      obtain ⟨_, cs, h2⟩ := q.blk hk
      obtain ⟨_, cs', h4⟩ := hb'.blk hb
      exact absurd (two_tags h2 h4) (by decide)
    · rw [upd_oth _ _ e, upd_oth _ _ e]
      refine (h.its j hj).kept Kf (fun k hk hb => ?_)
      rcases hb with hb | hb
      · exact h.far j i hj hi e k hk hb
      · obtain ⟨_, cs, h2⟩ := (h.its j hj).blk hk
        exact tagB k _ _ h2 (by decide) hb
  · show (upd S.xs i xs j).length = (upd S.ms i ms j).length
    by_cases e : j = i
    · subst e
      rw [upd_same, upd_same]
      exact hl
    · rw [upd_oth _ _ e, upd_oth _ _ e]
      exact h.len j hj
  · have hv' : (upd S.ms i ms a)[c]? = some v := hv
    have hy' : (upd S.xs i xs a)[c]? = some y := hy
    by_cases e : a = i
    · subst e
      rw [upd_same] at hv' hy'
      have ho := hm c v y hv' hy'
      refine K2.owns ho (fun k hk hb => ?_)
      obtain ⟨_, cs, h2⟩ := owns_blk ho hk
      obtain ⟨_, cs', h4⟩ := hb'.blk hb
      exact absurd (two_tags h2 h4) (by decide)
    · rw [upd_oth _ _ e] at hv' hy'
      have ho := h.msg a c v y ha hv' hy'
      refine Kf.owns ho (fun k hk => ?_)
      obtain ⟨_, cs, h2⟩ := owns_blk ho hk
      exact both k _ _ h2 (by decide) (by decide)
  · show Far (upd S.it i it a) (upd S.it i it c)
    have key : ∀ d, d < S.nb → d ≠ i → Far it (S.it d) := by
      intro d hd hdi k hk hk'
      rcases hit with h1 | ⟨k', h1, h2⟩
      · exact h.far d i hd hi hdi k hk' (h1 ▸ hk)
      · rw [h1] at hk
        injection hk with hk
        subst hk
        obtain ⟨_, cs, h4⟩ := (h.its d hd).blk hk'
        have := heap_lt h4
        omega
    by_cases e : a = i
    · subst e
      rw [upd_same, upd_oth _ _ (fun q => hac q.symm)]
      exact key c hc (fun q => hac q.symm)
    · by_cases e2 : c = i
      · subst e2
        rw [upd_same, upd_oth _ _ e]
        exact (key a ha e).symm
      · rw [upd_oth _ _ e, upd_oth _ _ e2]
        exact h.far a c ha hc hac
  · have hv1 : (upd S.ms i ms a)[c]? = some v := hv
    have hv2 : (upd S.ms i ms a')[c']? = some v' := hv'
    have key : ∀ (d e : Nat) (u u' : Value) (f : Nat), d < S.nb → d ≠ i → (S.ms d)[e]? = some u → ms[f]? = some u' → Far u' u := by
      intro d e u u' f hd hdi hu hu' k hk hk'
      rcases hnew ⟨f, hu'⟩ hk with ⟨j, hj⟩ | h1
      · exact h.mfar i j d e u' u hi hd hj hu (fun q => hdi q.1.symm) k hk hk'
      · have := old_lt hd hu hk'
        omega
    by_cases e : a = i
    · subst e
      rw [upd_same] at hv1
      by_cases e2 : a' = a
      · subst e2
        rw [upd_same] at hv2
        exact hf c c' v v' hv1 hv2 (fun q => hne ⟨rfl, q⟩)
      · rw [upd_oth _ _ e2] at hv2
        exact key a' c' v' v c ha' e2 hv2 hv1
    · rw [upd_oth _ _ e] at hv1
      by_cases e2 : a' = i
      · subst e2
        rw [upd_same] at hv2
        exact (key a c v v' c' ha e hv1 hv2).symm
      · rw [upd_oth _ _ e2] at hv2
        exact h.mfar a c a' c' v v' ha ha' hv1 hv2 hne
  · rcases hk with hk | hk
    · exact hfi k hk
    · exact .inr (.inr (.inr (.inl hk)))
  · rcases hk with hk | hk | hk | hk | ⟨j, hj, hk⟩
    · exact .inl (.inl hk)
    · exact .inl (.inr (.inl hk))
    · exact .inl (.inr (.inr (.inl hk)))
    · exact .inl (.inr (.inr (.inr (.inl hk))))
    · have hk' : (upd S.it i it j).ownBlock = some k := hk
      by_cases e : j = i
      · subst e
        rw [upd_same] at hk'
        rcases hit with h1 | ⟨k', h1, h2⟩
        · exact .inl (hfi k (h1 ▸ hk'))
        · rw [h1] at hk'
          injection hk' with hk'
          subst hk'
          exact .inr h2
      · rw [upd_oth _ _ e] at hk'
        exact .inl (.inr (.inr (.inr (.inr ⟨j, hj, hk'⟩))))
  · obtain ⟨j, v, hj, hv, hk⟩ := hk
    have hv' : v ∈ upd S.ms i ms j := hv
    by_cases e : j = i
    · subst e
      rw [upd_same] at hv'
      obtain ⟨c, hc, e2⟩ := List.mem_iff_getElem.1 hv'
      rcases hnew ⟨c, by rw [List.getElem?_eq_getElem hc, e2]⟩ hk with ⟨c', hc'⟩ | h1
      · exact .inl ⟨j, v, hj, List.mem_of_getElem? hc', hk⟩
      · exact .inr h1
    · rw [upd_oth _ _ e] at hv'
      exact .inl ⟨j, v, hj, hv', hk⟩
end
end Go.Proofs.Ytggkajopfbokjaa
