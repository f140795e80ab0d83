/-
  A state that may be spoilt: no walk.
-/
import Derived.Test.YtggkajopfbokjaaOEmpty
namespace Go.Proofs.Ytggkajopfbokjaa
open Go.RowKit
set_option linter.unusedVariables false
set_option maxRecDepth 100000

/-- a list of one's own: its things, and whatever lies behind them -/
def Rs (w : World) (B M : Nat) (t : TypeId) (v : Value) (xs : List Value) : Prop :=
  (v = .slice none 0 0 ∧ xs = []) ∨ ∃ g c m L, v = .slice (some ⟨g, 0, none⟩) xs.length c ∧ xs.length ≤ c ∧ c ≤ 9223372036854775807 ∧ B ≤ g ∧ g < M ∧ w.ownsRow B t 1 (.slice (some ⟨g, 0, none⟩) m c) m (xs ++ L)
namespace Rs
variable {w w' : World} {B M : Nat} {t : TypeId} {v : Value} {xs : List Value}
theorem kept {F : Nat → Prop} (h : Rs w B M t v xs) (K : Kept F w w') (hF : ∀ g, v.ownBlock = some g → ¬ F g) : Rs w' B M t v xs := by
  rcases h with h | ⟨g, c, m, L, rfl, h1, h2, h3, h4, h5⟩
  · exact .inl h
  · exact .inr ⟨g, c, m, L, rfl, h1, h2, h3, h4, K.owns h5 hF⟩
theorem blk (h : Rs w B M t v xs) {g : Nat} (hg : v.ownBlock = some g) : B ≤ g ∧ g < M ∧ ∃ cs, w.heap[g]? = some (.cells cs t (0, 0)) := by
  rcases h with ⟨rfl, _⟩ | ⟨g', c, m, L, rfl, h1, h2, h3, h4, h5⟩
  · cases hg
  · injection hg with hg
    subst hg
    exact ⟨h3, h4, (owns_blk h5 rfl).2⟩
theorem shape (h : Rs w B M t v xs) : ∃ a c, v = .slice a xs.length c ∧ xs.length ≤ c ∧ c ≤ 9223372036854775807 := by
  rcases h with ⟨rfl, rfl⟩ | ⟨g', c, m, L, rfl, h1, h2, _⟩
  · exact ⟨none, 0, rfl, Nat.le_refl _, by omega⟩
  · exact ⟨_, c, rfl, h1, h2⟩
theorem look (h : Rs w B M t v xs) {i : Nat} {u : Value} (hu : xs[i]? = some u) : ∃ g c, v = .slice (some ⟨g, 0, none⟩) xs.length c ∧ v.ownBlock = some g ∧ w.cell? ⟨g, i, none⟩ = some u ∧ ∀ x, w.frozen? ⟨g, x, none⟩ = false := by
  rcases h with ⟨_, rfl⟩ | ⟨g, c, m, L, rfl, h1, h2, h3, h4, h5⟩
  · cases hu
  · have := h5.cells (g := g) rfl i u (by rw [List.getElem?_append_left (List.getElem?_eq_some_iff.1 hu).1]; exact hu)
    rw [add_none, Nat.zero_add] at this
    obtain ⟨_, cs, hb⟩ := owns_blk h5 (g := g) rfl
    exact ⟨g, c, rfl, rfl, this, fun x => fz_blk hb x⟩
theorem set (h : Rs w B M t v xs) {g i : Nat} (hg : v.ownBlock = some g) (hi : i < xs.length) (u : Value) : Rs (w.setCell ⟨g, i, none⟩ u) B M t v (xs.set i u) := by
  rcases h with ⟨rfl, _⟩ | ⟨g', c, m, L, rfl, h1, h2, h3, h4, h5⟩
  · cases hg
  · injection hg with hg
    subst hg
    refine .inr ⟨_, c, m, L, by rw [List.length_set], by rw [List.length_set]; exact h1, h2, h3, h4, ?_⟩
    have := owns_set h5 i u
    rwa [List.set_append_left _ _ hi] at this
theorem of_owns {n : Nat} (h : w.ownsRow B t 1 v n xs) (hM : w.heap.size ≤ M) : Rs w B M t v xs := by
  have h0 := h
  obtain ⟨h1, ⟨h2, h3⟩ | ⟨g, c, cur, rfl, h3, h4, h5, h6, h7, h8⟩⟩ := h
  · exact .inl ⟨h2, List.eq_nil_of_length_eq_zero (by omega)⟩
  · have hn : xs.length = n := by omega
    have := heap_lt h4
    unfold maxLen at h6
    exact .inr ⟨g, c, n, [], by rw [hn], by omega, h6, h3, by omega, by rw [List.append_nil]; exact h0⟩
theorem of_rw {n : Nat} {mk : List Value} (h : Rw w B t 1 v n xs mk) (hx : xs.length = n) (hM : w.heap.size ≤ M) : Rs w B M t v xs := by
  obtain ⟨g, c, rfl, h1, h2, h3⟩ := h
  have := (owns_at h3 (k := g) rfl)
  exact .inr ⟨g, c, n + 1, mk, by rw [hx], by omega, h2, this.1, by omega, h3⟩
end Rs
/-- one cell is turned, and what it holds is of its kind -/
def Turn (w w' : World) : Prop := ∃ g j u cs t, w' = w.setCell ⟨g, j, none⟩ u ∧ w.heap[g]? = some (.cells cs t (0, 0)) ∧ ((t = 2 ∧ ∃ x : Int, u = .int .i64 x) ∨ (t = 31 ∧ u = .slice none 0 0) ∨ (t ≠ 2 ∧ t ≠ 31))
theorem Turn.heap {w w' : World} (h : Turn w w') {k : Nat} {cs : Array Value} {t : TypeId} (hk : w.heap[k]? = some (.cells cs t (0, 0))) : ∃ cs', w'.heap[k]? = some (.cells cs' t (0, 0)) ∧ ∀ (i : Nat) (v : Value), cs'[i]? = some v → cs[i]? = some v ∨ (t = 2 ∧ ∃ x : Int, v = .int .i64 x) ∨ (t = 31 ∧ v = .slice none 0 0) ∨ (t ≠ 2 ∧ t ≠ 31) := by
  obtain ⟨g, j, u, cs0, t0, rfl, hg, hu⟩ := h
  by_cases e : k = g
  · subst e
    have ht := two_tags hk hg
    rw [hk] at hg
    injection hg with hg
    injection hg with hg _ _
    subst hg ht
    refine ⟨_, set_blk hk _ _, fun i v hv => ?_⟩
    by_cases hij : i = j
    · subst hij
      right
      have hlt : i < cs.size := by
        have := (Array.getElem?_eq_some_iff.1 hv).1
        rwa [Array.size_setIfInBounds] at this
      rw [Array.getElem?_setIfInBounds_self_of_lt hlt] at hv
      injection hv with hv
      subst hv
      exact hu
    · rw [Array.getElem?_setIfInBounds_ne (fun q => hij q.symm)] at hv
      exact .inl hv
  · refine ⟨cs, ?_, fun i v hv => .inl hv⟩
    rw [Below.heap_setCell _ _ _ _ (fun q => e (by simpa using q))]
    exact hk
theorem Turn.size {w w' : World} (h : Turn w w') {k : Nat} {cs cs' : Array Value} {t : TypeId} (hk : w.heap[k]? = some (.cells cs t (0, 0))) (hk' : w'.heap[k]? = some (.cells cs' t (0, 0))) : cs'.size = cs.size := by
  obtain ⟨g, j, u, cs0, t0, rfl, hg, hu⟩ := h
  by_cases e : k = g
  · subst e
    rw [set_blk hk] at hk'
    injection hk' with hk'
    injection hk' with hk' _ _
    subst hk'
    rw [Array.size_setIfInBounds]
  · rw [Below.heap_setCell _ _ _ _ (fun q => e (by simpa using q)), hk] at hk'
    injection hk' with hk'
    injection hk' with hk' _ _
    subst hk'
    rfl
/-- a message that may be written over -/
def GoodM (w : World) (B M : Nat) (v : Value) : Prop := ∃ a n c, v = .slice a n c ∧ n ≤ c ∧ c ≤ 9223372036854775807 ∧ (n = 0 ∨ ∃ g, a = some ⟨g, 0, none⟩ ∧ B ≤ g ∧ g < M ∧ ∃ cs, w.heap[g]? = some (.cells cs 2 (0, 0)) ∧ n ≤ cs.size ∧ ∀ (j : Nat) (u : Value), j < n → cs[j]? = some u → ∃ x : Int, u = .int .i64 x)
theorem GoodM.turn {w w' : World} {B M : Nat} {v : Value} (h : GoodM w B M v) (T : Turn w w') : GoodM w' B M v := by
  obtain ⟨a, n, c, rfl, h1, h2, h3 | ⟨g, rfl, h4, h5, cs, h6, h7, h8⟩⟩ := h
  · exact ⟨a, n, c, rfl, h1, h2, .inl h3⟩
  · obtain ⟨cs', q1, q2⟩ := T.heap h6
    refine ⟨_, n, c, rfl, h1, h2, .inr ⟨g, rfl, h4, h5, cs', q1, by rw [T.size h6 q1]; exact h7, fun j u hj hu => ?_⟩⟩
    rcases q2 j u hu with q3 | ⟨_, q3⟩ | ⟨q3, _⟩ | ⟨q3, _⟩
    · exact h8 j u hj q3
    · exact q3
    · exact absurd q3 (by decide)
    · exact absurd rfl q3
/-- a list of such messages -/
def GoodL (w : World) (B M : Nat) (v : Value) : Prop := ∃ a n c, v = .slice a n c ∧ n ≤ c ∧ c ≤ 9223372036854775807 ∧ (n = 0 ∨ ∃ g, a = some ⟨g, 0, none⟩ ∧ B ≤ g ∧ g < M ∧ ∃ cs, w.heap[g]? = some (.cells cs 31 (0, 0)) ∧ n ≤ cs.size ∧ ∀ (j : Nat) (u : Value), j < n → cs[j]? = some u → GoodM w B M u)
theorem GoodL.turn {w w' : World} {B M : Nat} {v : Value} (h : GoodL w B M v) (T : Turn w w') : GoodL w' B M v := by
  obtain ⟨a, n, c, rfl, h1, h2, h3 | ⟨g, rfl, h4, h5, cs, h6, h7, h8⟩⟩ := h
  · exact ⟨a, n, c, rfl, h1, h2, .inl h3⟩
  · obtain ⟨cs', q1, q2⟩ := T.heap h6
    refine ⟨_, n, c, rfl, h1, h2, .inr ⟨g, rfl, h4, h5, cs', q1, by rw [T.size h6 q1]; exact h7, fun j u hj hu => ?_⟩⟩
    rcases q2 j u hu with q3 | ⟨q3, _⟩ | ⟨_, q3⟩ | ⟨_, q3⟩
    · exact (h8 j u hj q3).turn T
    · exact absurd q3 (by decide)
    · subst q3
      exact ⟨none, 0, 0, rfl, Nat.le_refl _, by omega, .inl rfl⟩
    · exact absurd rfl q3
theorem GoodM.kept {w w' : World} {B M : Nat} {v : Value} {F : Nat → Prop} (h : GoodM w B M v) (K : Kept F w w') (hF : ∀ k, B ≤ k → k < M → ¬ F k) : GoodM w' B M v := by
  obtain ⟨a, n, c, rfl, h1, h2, h3 | ⟨g, rfl, h4, h5, cs, h6, h7, h8⟩⟩ := h
  · exact ⟨a, n, c, rfl, h1, h2, .inl h3⟩
  · exact ⟨_, n, c, rfl, h1, h2, .inr ⟨g, rfl, h4, h5, cs, K.at' h6 (hF g h4 h5), h7, h8⟩⟩
theorem GoodL.kept {w w' : World} {B M : Nat} {v : Value} {F : Nat → Prop} (h : GoodL w B M v) (K : Kept F w w') (hF : ∀ k, B ≤ k → k < M → ¬ F k) : GoodL w' B M v := by
  obtain ⟨a, n, c, rfl, h1, h2, h3 | ⟨g, rfl, h4, h5, cs, h6, h7, h8⟩⟩ := h
  · exact ⟨a, n, c, rfl, h1, h2, .inl h3⟩
  · exact ⟨_, n, c, rfl, h1, h2, .inr ⟨g, rfl, h4, h5, cs, K.at' h6 (hF g h4 h5), h7, fun j u hj hu => (h8 j u hj hu).kept K hF⟩⟩
theorem GoodM.empty (w : World) (B M : Nat) : GoodM w B M (.slice none 0 0) := ⟨_, 0, 0, rfl, Nat.le_refl _, by omega, .inl rfl⟩
theorem GoodL.empty (w : World) (B M : Nat) : GoodL w B M (.slice none 0 0) := ⟨_, 0, 0, rfl, Nat.le_refl _, by omega, .inl rfl⟩
/-- what spoil keeps: the box, the three lists, and that all lists in the third are such -/
structure Sy (w wr : World) (B M : Nat) (ts te tb : Value) (cs us lvs : List Value) : Prop where
  kept : Kept (fun k => B ≤ k ∧ k < M) w wr
  box : wr.heap[w.heap.size]? = some (.cells #[ts, te, tb] 55)
  sems : Rs wr B M 3 ts cs
  evs : Rs wr B M 4 te us
  bufs : Rs wr B M 40 tb lvs
  good : ∀ (i : Nat) (lv : Value), lvs[i]? = some lv → GoodL wr B M lv
  le : M ≤ w.heap.size
namespace Sy
variable {w wr : World} {B M : Nat} {ts te tb : Value} {cs us lvs : List Value}
/-- a cell of a block of one's own is turned -/
theorem turn (h : Sy w wr B M ts te tb cs us lvs) {g j : Nat} {u : Value} {c0 : Array Value} {t : TypeId} (hg : wr.heap[g]? = some (.cells c0 t (0, 0))) (hB : B ≤ g) (hM : g < M) (ht : t ≠ 55)
    (hu : (t = 2 ∧ ∃ x : Int, u = .int .i64 x) ∨ (t = 31 ∧ u = .slice none 0 0) ∨ (t ≠ 2 ∧ t ≠ 31)) :
    Kept (fun k => B ≤ k ∧ k < M) w (wr.setCell ⟨g, j, none⟩ u) ∧ (wr.setCell ⟨g, j, none⟩ u).heap[w.heap.size]? = some (.cells #[ts, te, tb] 55) ∧ Turn wr (wr.setCell ⟨g, j, none⟩ u) ∧ Kept (fun k => k = g) wr (wr.setCell ⟨g, j, none⟩ u) := by
  have kk : Kept (fun k => k = g) wr (wr.setCell ⟨g, j, none⟩ u) := (Kept.refl (fun k => k = g) wr).setCell (p := ⟨g, j, none⟩) (.inl rfl) u
  exact ⟨h.kept.trans kk (fun k e => .inl (by subst e; exact ⟨hB, hM⟩)), kk.at' h.box (fun e => by subst e; exact ht (two_tags hg h.box)), ⟨g, j, u, c0, t, rfl, hg, hu⟩, kk⟩
theorem ne {t t' : TypeId} {v : Value} {xs : List Value} {g : Nat} {c0 : Array Value} (hr : Rs wr B M t v xs) (hg : wr.heap[g]? = some (.cells c0 t' (0, 0))) (ht : t ≠ t') : ∀ k, v.ownBlock = some k → ¬ k = g := fun k hk e => by
  obtain ⟨_, _, cs', h1⟩ := hr.blk hk
  subst e
  exact ht (two_tags h1 hg)
theorem sem (h : Sy w wr B M ts te tb cs us lvs) {g j : Nat} (hg : ts.ownBlock = some g) (hj : j < cs.length) (u : Value) : Sy w (wr.setCell ⟨g, j, none⟩ u) B M ts te tb (cs.set j u) us lvs := by
  obtain ⟨hB, hM, c0, hb⟩ := h.sems.blk hg
  obtain ⟨a1, a2, a3, a4⟩ := h.turn (j := j) (u := u) hb hB hM (by decide) (.inr (.inr ⟨by decide, by decide⟩))
  exact ⟨a1, a2, h.sems.set hg hj u, h.evs.kept a4 (ne h.evs hb (by decide)), h.bufs.kept a4 (ne h.bufs hb (by decide)), fun i lv hi => (h.good i lv hi).turn a3, h.le⟩
theorem ev (h : Sy w wr B M ts te tb cs us lvs) {g j : Nat} (hg : te.ownBlock = some g) (hj : j < us.length) (u : Value) : Sy w (wr.setCell ⟨g, j, none⟩ u) B M ts te tb cs (us.set j u) lvs := by
  obtain ⟨hB, hM, c0, hb⟩ := h.evs.blk hg
  obtain ⟨a1, a2, a3, a4⟩ := h.turn (j := j) (u := u) hb hB hM (by decide) (.inr (.inr ⟨by decide, by decide⟩))
  exact ⟨a1, a2, h.sems.kept a4 (ne h.sems hb (by decide)), h.evs.set hg hj u, h.bufs.kept a4 (ne h.bufs hb (by decide)), fun i lv hi => (h.good i lv hi).turn a3, h.le⟩
theorem buf (h : Sy w wr B M ts te tb cs us lvs) {g j : Nat} (hg : tb.ownBlock = some g) (hj : j < lvs.length) : Sy w (wr.setCell ⟨g, j, none⟩ (.slice none 0 0)) B M ts te tb cs us (lvs.set j (.slice none 0 0)) := by
  obtain ⟨hB, hM, c0, hb⟩ := h.bufs.blk hg
  obtain ⟨a1, a2, a3, a4⟩ := h.turn (j := j) (u := .slice none 0 0) hb hB hM (by decide) (.inr (.inr ⟨by decide, by decide⟩))
  refine ⟨a1, a2, h.sems.kept a4 (ne h.sems hb (by decide)), h.evs.kept a4 (ne h.evs hb (by decide)), h.bufs.set hg hj _, fun i lv hi => ?_, h.le⟩
  by_cases e : i = j
  · subst e
    rw [List.getElem?_set_self hj] at hi
    injection hi with hi
    subst hi
    exact GoodL.empty _ _ _
  · rw [List.getElem?_set_ne (fun q => e q.symm)] at hi
    exact (h.good i lv hi).turn a3
/-- a word of a message -/
theorem word (h : Sy w wr B M ts te tb cs us lvs) {g j : Nat} {c0 : Array Value} (hb : wr.heap[g]? = some (.cells c0 2 (0, 0))) (hB : B ≤ g) (hM : g < M) (x : Int) : Sy w (wr.setCell ⟨g, j, none⟩ (.int .i64 x)) B M ts te tb cs us lvs := by
  obtain ⟨a1, a2, a3, a4⟩ := h.turn (j := j) (u := .int .i64 x) hb hB hM (by decide) (.inl ⟨rfl, x, rfl⟩)
  exact ⟨a1, a2, h.sems.kept a4 (ne h.sems hb (by decide)), h.evs.kept a4 (ne h.evs hb (by decide)), h.bufs.kept a4 (ne h.bufs hb (by decide)), fun i lv hi => (h.good i lv hi).turn a3, h.le⟩
/-- a place of a list of messages -/
theorem place (h : Sy w wr B M ts te tb cs us lvs) {g j : Nat} {c0 : Array Value} (hb : wr.heap[g]? = some (.cells c0 31 (0, 0))) (hB : B ≤ g) (hM : g < M) : Sy w (wr.setCell ⟨g, j, none⟩ (.slice none 0 0)) B M ts te tb cs us lvs := by
  obtain ⟨a1, a2, a3, a4⟩ := h.turn (j := j) (u := .slice none 0 0) hb hB hM (by decide) (.inr (.inl ⟨rfl, rfl⟩))
  exact ⟨a1, a2, h.sems.kept a4 (ne h.sems hb (by decide)), h.evs.kept a4 (ne h.evs hb (by decide)), h.bufs.kept a4 (ne h.bufs hb (by decide)), fun i lv hi => (h.good i lv hi).turn a3, h.le⟩
end Sy
end Go.Proofs.Ytggkajopfbokjaa
