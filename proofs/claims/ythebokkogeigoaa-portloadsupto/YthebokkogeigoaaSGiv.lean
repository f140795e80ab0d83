/-
  given: the states in new memory, a mark behind each list.
-/
import Derived.Test.YthebokkogeigoaaSLodd
namespace Go.Proofs.Ythebokkogeigoaa
open Go.RowKit
set_option linter.unusedVariables false
set_option linter.unusedSimpArgs false
set_option maxRecDepth 100000

def msv (ms : Nat → Nat × Nat) (xs : List (List Int)) (k : Nat) : Value := .slice (some ⟨(ms k).1, 0, none⟩) (xs.getD k []).length (ms k).2
/-- messages, a mark behind each, their blocks apart -/
structure Mq (w : World) (B : Nat) (v : Value) (k : Nat) (ms : Nat → Nat × Nat) (xs : List (List Int)) : Prop where
  own : w.ownsRow B 22 1 v k (cat (fun i => [msv ms xs i]) k)
  mks : ∀ i, i < k → Mks w B (ms i).1 (xs.getD i []).length (ms i).2 (xs.getD i [])
  ord : ∀ i j, i < j → j < k → (ms i).1 < (ms j).1
theorem Mks.kept {w w' : World} {B g n cap : Nat} {xs : List Int} {G : Nat → Prop} (h : Mks w B g n cap xs) (K : Kept G w w') (hG : ¬ G g) : Mks w' B g n cap xs :=
  K.owns h (fun x hx => by injection hx with hx; rw [← hx]; exact hG)
theorem Mks.blk {w : World} {B g n cap : Nat} {xs : List Int} (h : Mks w B g n cap xs) : B ≤ g ∧ g < w.heap.size ∧ ∃ cs, w.heap[g]? = some (.cells cs 2 (0, 0)) := by
  obtain ⟨h1, h2⟩ := owns_at h (k := g) rfl
  exact ⟨h1, h2, (owns_blk h (g := g) rfl).2⟩
theorem Mq.nil (w : World) (B : Nat) (ms : Nat → Nat × Nat) (xs : List (List Int)) : Mq w B (.slice none 0 0) 0 ms xs :=
  ⟨World.ownsRow_nil _ _ _ _, fun i hi => by omega, fun i j h1 h2 => by omega⟩
theorem Mq.kept {w w' : World} {B : Nat} {v : Value} {k : Nat} {ms : Nat → Nat × Nat} {xs : List (List Int)} {G : Nat → Prop} (h : Mq w B v k ms xs) (K : Kept G w w') (h1 : ∀ g, v.ownBlock = some g → ¬ G g) (h2 : ∀ i, i < k → ¬ G (ms i).1) : Mq w' B v k ms xs :=
  ⟨K.owns h.own h1, fun i hi => (h.mks i hi).kept K (h2 i hi), h.ord⟩
theorem Mq.keep {w w' : World} {B : Nat} {v : Value} {k : Nat} {ms : Nat → Nat × Nat} {xs : List (List Int)} (h : Mq w B v k ms xs) (K : Kept No w w') : Mq w' B v k ms xs := h.kept K (fun _ _ e => e) (fun _ _ e => e)
theorem Mq.base {w : World} {B B' : Nat} {v : Value} {k : Nat} {ms : Nat → Nat × Nat} {xs : List (List Int)} (h : Mq w B v k ms xs) (hB : B' ≤ B) : Mq w B' v k ms xs :=
  ⟨owns_base h.own hB, fun i hi => owns_base (h.mks i hi) hB, h.ord⟩
theorem Mq.more {w W w' : World} {B : Nat} {v v' : Value} {k g cap : Nat} {ms : Nat → Nat × Nat} {xs : List (List Int)} (h : Mq w B v k ms xs) (K : Kept No w W) (m : Mks W w.heap.size g (xs.getD k []).length cap (xs.getD k [])) (hB : B ≤ w.heap.size)
    (K' : Kept (fun x => v.ownBlock = some x) W w') (own : w'.ownsRow B 22 1 v' (k + 1) (cat (fun i => [msv ms xs i]) k ++ [.slice (some ⟨g, 0, none⟩) (xs.getD k []).length cap])) : Mq w' B v' (k + 1) (upd ms k (g, cap)) xs := by
  have hW := h.keep K
  have nb : ∀ {B0 g0 n0 c0 : Nat} {y : List Int}, Mks W B0 g0 n0 c0 y → ¬ v.ownBlock = some g0 := fun hm e => by
    obtain ⟨_, _, cs, h2⟩ := hm.blk
    obtain ⟨_, cs', h3⟩ := owns_blk hW.own e
    exact absurd (two_tags h2 h3) (by decide)
  refine ⟨?_, fun i hi => ?_, fun i j hij hj => ?_⟩
  · rw [cat, cat_congr (g := fun i => [msv ms xs i]) k (fun i hi => by unfold msv; rw [upd_oth _ _ (by omega)])]
    unfold msv
    rw [upd_same]
    exact own
  · by_cases e : i = k
    · subst e; rw [upd_same]
      exact owns_base (m.kept K' (nb m)) hB
    · rw [upd_oth _ _ e]
      exact (hW.mks i (by omega)).kept K' (nb (hW.mks i (by omega)))
  · by_cases e : j = k
    · subst e
      rw [upd_same, upd_oth _ _ (by omega)]
      exact Nat.lt_of_lt_of_le (h.mks i hij).blk.2.1 m.blk.1
    · rw [upd_oth _ _ e, upd_oth _ _ (by omega)]
      exact h.ord i j hij (by omega)
/-- where a state lies -/
structure Gd where
  dg : Nat
  dc : Nat
  qa : Option Addr
  qc : Nat
  ms : Nat → Nat × Nat
  lo : Nat
  hi : Nat
def gval (s : Ps) (d : Gd) : Array Value := s.val (.slice d.qa s.q.length d.qc) (.slice (some ⟨d.dg, 0, none⟩) s.d.length d.dc)
/-- one state, its marks standing -/
structure G1 (w : World) (s : Ps) (d : Gd) : Prop where
  dm : Mks w d.lo d.dg s.d.length d.dc s.d
  q : Mq w (d.dg + 1) (.slice d.qa s.q.length d.qc) s.q.length d.ms s.q
  hd : d.dg < d.hi
  hq : ∀ i, i < s.q.length → (d.ms i).1 < d.hi
  hw : d.hi ≤ w.heap.size
theorem G1.kept {w w' : World} {s : Ps} {d : Gd} {G : Nat → Prop} (h : G1 w s d) (K : Kept G w w') (hG : ∀ x cs t, G x → w.heap[x]? = some (.cells cs t (0, 0)) → t ≠ 2 ∧ t ≠ 22) : G1 w' s d := by
  have nb : ∀ {B0 g0 n0 c0 : Nat} {y : List Int}, Mks w B0 g0 n0 c0 y → ¬ G g0 := fun hm e => by
    obtain ⟨_, _, cs, h2⟩ := hm.blk
    exact (hG _ _ _ e h2).1 rfl
  refine ⟨h.dm.kept K (nb h.dm), h.q.kept K (fun g hg e => ?_) (fun i hi => nb (h.q.mks i hi)), h.hd, h.hq, Nat.le_trans h.hw K.size⟩
  obtain ⟨_, cs, h2⟩ := owns_blk h.q.own hg
  exact (hG _ _ _ e h2).2 rfl
/-- the states: of those from j on the marks stand -/
structure Gv (w : World) (B : Nat) (v : Value) (k e j : Nat) (tail : List Value) (ss : Nat → Ps) (gd : Nat → Gd) : Prop where
  own : w.ownsRow B 61 5 v (k + e) (cat (fun i => (gval (ss i) (gd i)).toList) k ++ tail)
  one : ∀ i, j ≤ i → i < k → G1 w (ss i) (gd i)
  lo : ∀ i, i < k → B ≤ (gd i).lo
  ord : ∀ i l, i < l → l < k → (gd i).hi ≤ (gd l).lo
theorem Gv.nil (w : World) (B : Nat) (ss : Nat → Ps) (gd : Nat → Gd) : Gv w B (.slice none 0 0) 0 0 0 [] ss gd :=
  ⟨World.ownsRow_nil _ _ _ _, fun i _ hi => by omega, fun i hi => by omega, fun i l h1 h2 => by omega⟩
theorem Gv.keep {w w' : World} {B : Nat} {v : Value} {k e j : Nat} {tail : List Value} {ss : Nat → Ps} {gd : Nat → Gd} (h : Gv w B v k e j tail ss gd) (K : Kept No w w') : Gv w' B v k e j tail ss gd :=
  ⟨K.owns h.own (fun _ _ e => e), fun i h1 h2 => (h.one i h1 h2).kept K (fun _ _ _ e => e.elim), h.lo, h.ord⟩
theorem Gv.more {w W w' : World} {B : Nat} {v v' : Value} {k : Nat} {ss : Nat → Ps} {gd : Nat → Gd} {d : Gd} (h : Gv w B v k 0 0 [] ss gd) (K : Kept No w W) (hd : G1 W (ss k) d) (hlo : d.lo = w.heap.size) (hB : B ≤ w.heap.size)
    (K' : Kept (fun x => v.ownBlock = some x) W w') (own : w'.ownsRow B 61 5 v' (k + 1) (cat (fun i => (gval (ss i) (gd i)).toList) k ++ (gval (ss k) d).toList)) : Gv w' B v' (k + 1) 0 0 [] ss (upd gd k d) := by
  have hW := h.keep K
  have ty : ∀ x cs t, v.ownBlock = some x → W.heap[x]? = some (.cells cs t (0, 0)) → t ≠ 2 ∧ t ≠ 22 := fun x cs t e h2 => by
    obtain ⟨_, cs', h3⟩ := owns_blk hW.own e
    have := two_tags h2 h3
    subst this
    exact ⟨by decide, by decide⟩
  refine ⟨?_, fun i _ hi => ?_, fun i hi => ?_, fun i l h1 h2 => ?_⟩
  · rw [cat, List.append_nil, upd_same, cat_congr (g := fun i => (gval (ss i) (gd i)).toList) k (fun i hi => by rw [upd_oth _ _ (by omega)])]
    exact own
  · by_cases e : i = k
    · subst e; rw [upd_same]; exact hd.kept K' ty
    · rw [upd_oth _ _ e]; exact (hW.one i (Nat.zero_le _) (by omega)).kept K' ty
  · by_cases e : i = k
    · subst e; rw [upd_same, hlo]; exact hB
    · rw [upd_oth _ _ e]; exact h.lo i (by omega)
  · by_cases e : l = k
    · subst e; rw [upd_same, upd_oth _ _ (by omega), hlo]; exact (h.one i (Nat.zero_le _) (by omega)).hw
    · rw [upd_oth _ _ e, upd_oth _ _ (by omega)]; exact h.ord i l h1 (by omega)
/-- the mark behind them -/
theorem Gv.mark {w w' : World} {B : Nat} {v v' : Value} {k : Nat} {tail : List Value} {ss : Nat → Ps} {gd : Nat → Gd} (h : Gv w B v k 0 0 [] ss gd) (K' : Kept (fun x => v.ownBlock = some x) w w') (own : w'.ownsRow B 61 5 v' (k + 1) ((cat (fun i => (gval (ss i) (gd i)).toList) k ++ []) ++ tail)) : Gv w' B v' k 1 0 tail ss gd := by
  have ty : ∀ x cs t, v.ownBlock = some x → w.heap[x]? = some (.cells cs t (0, 0)) → t ≠ 2 ∧ t ≠ 22 := fun x cs t e h2 => by
    obtain ⟨_, cs', h3⟩ := owns_blk h.own e
    have := two_tags h2 h3
    subst this
    exact ⟨by decide, by decide⟩
  exact ⟨by rw [List.append_nil] at own; exact own, fun i h1 h2 => (h.one i h1 h2).kept K' ty, h.lo, h.ord⟩
theorem own_some {w : World} {B t z m c : Nat} {a : Option Addr} {L : List Value} (h : w.ownsRow B t z (.slice a m c) m L) : (a = none → c = 0) ∧ (0 < m → ∃ g, a = some ⟨g, 0, none⟩ ∧ B ≤ g ∧ g < w.heap.size) := by
  rcases h.2 with ⟨h2, h3⟩ | ⟨g, cap, cur, h2, h3, h4, _⟩
  · injection h2 with h4 h5 h6
    exact ⟨fun _ => h6, fun hm => by omega⟩
  · injection h2 with h5 _ _
    refine ⟨fun e => ?_, fun _ => ⟨g, h5, h3, heap_lt h4⟩⟩
    rw [e] at h5
    cases h5
def Fg (B : Nat) (w : World) (x : Nat) : Prop := B ≤ x ∧ x < w.heap.size
theorem Mks.zf {w : World} {B B0 g n cap : Nat} {xs : List Int} (h : Mks w B g n cap xs) (hx : xs.length = n) (hB : B0 ≤ B) : Zs w (Fg B0 w) (some ⟨g, 0, none⟩) n cap xs :=
  (h.zs hx).mono (fun k e => by have := h.blk; subst e; exact ⟨by omega, this.2.1⟩)
theorem Mq.mr {w : World} {B B0 : Nat} {a : Option Addr} {c : Nat} {ms : Nat → Nat × Nat} {xs : List (List Int)} (h : Mq w B (.slice a xs.length c) xs.length ms xs) (hB : B0 ≤ B) (hn : xs.length ≤ 1048576) (hx : ∀ x ∈ xs, x.length ≤ 1048576) : Mr w (Fg B0 w) a xs.length c xs := by
  have hc := own_cap h.own
  have ho := own_some h.own
  refine ⟨rfl, hc.1, hc.2, ho.1, hn, fun i hi => ?_⟩
  obtain ⟨g, rfl, h1, h2⟩ := ho.2 (by omega)
  refine ⟨g, 0, some ⟨(ms i).1, 0, none⟩, (xs.getD i []).length, (ms i).2, rfl, ⟨by omega, h2⟩, ?_, (h.mks i hi).zf rfl hB, ?_⟩
  · rw [Nat.zero_add]
    refine own_cell h.own ?_
    have := cat_at (f := fun i => [msv ms xs i]) (s := 1) (fun _ => rfl) xs.length i 0 hi (by omega)
    rw [Nat.mul_one, Nat.add_zero] at this
    rw [this]; rfl
  · refine hx _ ?_
    rw [List.getD_eq_getElem?_getD, List.getElem?_eq_getElem hi]
    exact List.getElem_mem _
def Sml (k : Nat) (ss : Nat → Ps) : Prop := ∀ i, i < k → (ss i).q.length ≤ 1048576 ∧ (ss i).d.length ≤ 1048576 ∧ ∀ x ∈ (ss i).q, x.length ≤ 1048576
theorem gval_len (s : Ps) (d : Gd) : (gval s d).toList.length = 5 := rfl
theorem Gv.cell {w : World} {B gv cv k e j : Nat} {tail : List Value} {ss : Nat → Ps} {gd : Nat → Gd} (h : Gv w B (.slice (some ⟨gv, 0, none⟩) (k + e) cv) k e j tail ss gd) {i : Nat} (hi : i < k) {l : Nat} (hl : l < 5) : w.cell? ⟨gv, i * 5 + l, none⟩ = (gval (ss i) (gd i))[l]? := by
  have h1 : (gval (ss i) (gd i)).toList[l]? = some ((gval (ss i) (gd i)).toList[l]'hl) := List.getElem?_eq_getElem _
  have h2 : (cat (fun i => (gval (ss i) (gd i)).toList) k ++ tail)[i * 5 + l]? = some ((gval (ss i) (gd i)).toList[l]'hl) := by
    have : i * 5 + l < k * 5 := by omega
    rw [List.getElem?_append_left (by rw [cat_len (s := 5) (fun _ => rfl)]; omega), cat_at (s := 5) (fun _ => rfl) k i l hi hl]
    exact h1
  rw [own_cell h.own h2, ← h1, Array.getElem?_toList]
theorem Gv.sr {w : World} {B gv cv k e : Nat} {tail : List Value} {ss : Nat → Ps} {gd : Nat → Gd} (h : Gv w B (.slice (some ⟨gv, 0, none⟩) (k + e) cv) k e 0 tail ss gd) (hs : Sml k ss) (hk : k ≤ 1048576) : Sr w (Fg B w) (some ⟨gv, 0, none⟩) k cv ss := by
  have hc := own_cap h.own
  have hb := owns_at h.own (k := gv) rfl
  refine ⟨by omega, hc.2, hk, fun i hi => ⟨gv, 0, gval (ss i) (gd i), rfl, hb, fun l hl => ?_, ?_⟩⟩
  · rw [Nat.zero_add]; exact h.cell hi hl
  · have h1 := h.one i (Nat.zero_le _) hi
    have h2 := h.lo i hi
    have h3 := h1.dm.blk.1
    obtain ⟨s1, s2, s3⟩ := hs i hi
    exact ⟨_, _, _, _, _, _, rfl, h1.q.mr (by omega) s1 s3, h1.dm.zf rfl h2, s2⟩
end Go.Proofs.Ythebokkogeigoaa
