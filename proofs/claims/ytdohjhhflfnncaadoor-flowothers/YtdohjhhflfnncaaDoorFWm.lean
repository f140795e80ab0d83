/-
  Lists of lists while they are made.
-/
import Derived.Test.YtdohjhhflfnncaaDoorFRow
import Derived.Test.YtdohjhhflfnncaaDoorCRange
namespace Go.Proofs.YtdohjhhflfnncaaDoor
open Go.RowKit
set_option linter.unusedVariables false
set_option maxRecDepth 100000

theorem owns_base {w : World} {B B' : Nat} {e : TypeId} {size : Nat} {v : Value} {n : Nat} {xs : List Value} (h : w.ownsRow B e size v n xs) (hB : B' ≤ B) : w.ownsRow B' e size v n xs := by
  obtain ⟨hl, h1 | ⟨g, cap, cur, hv, hb, hr⟩⟩ := h
  · exact ⟨hl, .inl h1⟩
  · exact ⟨hl, .inr ⟨g, cap, cur, hv, by omega, hr⟩⟩
theorem owns_same {W W' : World} {B : Nat} {e : TypeId} {v : Value} {n : Nat} {us : List Value} (h : W.ownsRow B e 1 v n us) (hs : ∀ k, v.ownBlock = some k → W'.heap[k]? = W.heap[k]?) : W'.ownsRow B e 1 v n us := by
  obtain ⟨hl, h1 | ⟨g, cap, cur, hv, hb, hg, hr⟩⟩ := h
  · exact ⟨hl, .inl h1⟩
  · subst hv
    exact ⟨hl, .inr ⟨g, cap, cur, rfl, hb, (hs g rfl).trans hg, hr⟩⟩

/-- the lists that a block's cells hold, each in memory of its own; the block itself in a box -/
structure Wm (w : World) (B bx g n : Nat) (V : Nat → Value) (U : Nat → List Nat) : Prop where
  box : w.heap[bx]? = some (.cells #[.slice (some ⟨g, 0, none⟩) n n] 56)
  hd : w.heap[g]? = some (.cells ((List.range n).map V).toArray 40)
  own : ∀ i, i < n → w.ownsRow B 3 1 (V i) (U i).length ((U i).map nv)
  far : ∀ i j, i < n → j < n → i ≠ j → Far (V i) (V j)
  bl : bx < B
  gl : g < B
  ne : bx ≠ g
/-- its blocks -/
def Fw (bx g n : Nat) (V : Nat → Value) : Nat → Prop := fun k => k = bx ∨ k = g ∨ ∃ i, i < n ∧ (V i).ownBlock = some k
theorem Wm.lt {w : World} {B bx g n : Nat} {V : Nat → Value} {U : Nat → List Nat} (h : Wm w B bx g n V U) : ∀ k, Fw bx g n V k → k < w.heap.size := by
  rintro k (rfl | rfl | ⟨i, hi, hk⟩)
  · exact heap_lt h.box
  · exact heap_lt h.hd
  · exact (owns_at (h.own i hi) hk).2
theorem Wm.same {w w' : World} {B bx g n : Nat} {V : Nat → Value} {U : Nat → List Nat} (h : Wm w B bx g n V U) (hs : ∀ k, Fw bx g n V k → w'.heap[k]? = w.heap[k]?) : Wm w' B bx g n V U :=
  ⟨(hs _ (.inl rfl)).trans h.box, (hs _ (.inr (.inl rfl))).trans h.hd, fun i hi => owns_same (h.own i hi) (fun k hk => hs k (.inr (.inr ⟨i, hi, hk⟩))), h.far, h.bl, h.gl, h.ne⟩
theorem Wm.cell {w : World} {B bx g n : Nat} {V : Nat → Value} {U : Nat → List Nat} (h : Wm w B bx g n V U) {i : Nat} (hi : i < n) : w.cell? ⟨g, i, none⟩ = some (V i) := by
  rw [cell_blk h.hd]; simp [hi]
theorem Wm.new {w : World} {bx g n : Nat} (hb : w.heap[bx]? = some (.cells #[.slice (some ⟨g, 0, none⟩) n n] 56)) (hg : w.heap[g]? = some (.cells (List.replicate n (.slice none 0 0)).toArray 40)) (hne : bx ≠ g) : Wm w w.heap.size bx g n (fun _ => .slice none 0 0) (fun _ => []) :=
  ⟨hb, (by rw [hg, show (List.range n).map (fun _ => Value.slice none 0 0) = List.replicate n (.slice none 0 0) from by rw [List.map_const']; simp]), (fun i hi => World.ownsRow_nil _ _ _ _), (fun i j _ _ _ k hk => (by cases hk)), heap_lt hb, heap_lt hg, hne⟩

def updV (V : Nat → Value) (x : Nat) (v : Value) : Nat → Value := fun i => if i = x then v else V i
def updU (U : Nat → List Nat) (x y : Nat) : Nat → List Nat := fun i => if i = x then U x ++ [y] else U i
/-- one more in the list of place x -/
theorem Wm.step {W w1 w2 : World} {B bx g n : Nat} {V : Nat → Value} {U : Nat → List Nat} (h : Wm W B bx g n V U) {x y : Nat} (hx : x < n) (k1 : Kept No W w1) {v : Value}
    (ho : w2.ownsRow B 3 1 v ((U x).length + 1) ((U x).map nv ++ [nv y])) (hg : w1.grownBy w2 (V x).ownBlock) (hl : v.ownBlock = (V x).ownBlock ∨ v.ownBlock = some w1.heap.size) :
    Wm (w2.setCell ⟨g, x, none⟩ v) B bx g n (updV V x v) (updU U x y) ∧ Kept (Fw bx g n V) W (w2.setCell ⟨g, x, none⟩ v) ∧ More (Fw bx g n V) W (Fw bx g n (updV V x v)) := by
  have k2 : Kept (fun k => (V x).ownBlock = some k) W w2 := (k1.mono (fun _ e => e.elim)).grown hg (fun k e => .inl e)
  have k3 : Kept (fun k => k = g) w2 (w2.setCell ⟨g, x, none⟩ v) := (Kept.refl (fun k => k = g) w2).setCell (p := ⟨g, x, none⟩) (.inl rfl) _
  have rowge : ∀ i, i < n → ∀ k, (V i).ownBlock = some k → B ≤ k := fun i hi k e => (owns_at (h.own i hi) e).1
  have hgl := h.gl
  have hbl := h.bl
  have hsz := k1.size
  refine ⟨⟨?_, ?_, ?_, ?_, h.bl, h.gl, h.ne⟩, ?_, ?_⟩
  · exact k3.at' (k2.at' h.box (fun e => by have := rowge x hx bx e; omega)) h.ne
  · rw [set_blk (k2.at' h.hd (fun e => by have := rowge x hx g e; omega))]
    congr 2
    apply Array.ext_getElem?
    intro i
    by_cases e : i = x
    · subst e
      simp [updV, hx]
    · have e2 : ¬ x = i := fun h => e h.symm
      simp only [List.setIfInBounds_toArray, List.getElem?_toArray, List.getElem?_set, e2, if_false, List.getElem?_map]
      by_cases hi : i < n
      · simp [hi, updV, e]
      · simp [show n ≤ i by omega]
  · intro i hi
    by_cases e : i = x
    · subst e
      simp only [updV, updU, if_pos]
      have : ((U i ++ [y]).map nv) = (U i).map nv ++ [nv y] := by simp
      rw [this, List.length_append]
      exact k3.owns ho (fun k e => by have := (owns_at ho e).1; omega)
    · simp only [updV, updU, if_neg e]
      exact k3.owns (k2.owns (h.own i hi) (fun k e1 e2 => h.far i x hi hx e k e1 e2)) (fun k e => by have := rowge i hi k e; omega)
  · have key : ∀ i, i < n → i ≠ x → Far (V i) v := fun i hi hne k e1 e2 => by
      rcases hl with hl | hl
      · rw [hl] at e2; exact h.far i x hi hx hne k e1 e2
      · rw [hl] at e2; injection e2 with e2; have := (owns_at (h.own i hi) e1).2; omega
    intro i j hi hj hij
    by_cases e1 : i = x
    · by_cases e2 : j = x
      · exact absurd (e1.trans e2.symm) hij
      · simp only [updV, if_pos e1, if_neg e2]; exact (key j hj e2).symm
    · by_cases e2 : j = x
      · simp only [updV, if_neg e1, if_pos e2]; exact key i hi e1
      · simp only [updV, if_neg e1, if_neg e2]; exact h.far i j hi hj hij
  · exact (k2.mono (G := Fw bx g n V) (fun k e => .inr (.inr ⟨x, hx, e⟩))).trans k3 (fun k e => .inl (.inr (.inl e)))
  · rintro k (rfl | rfl | ⟨i, hi, hk⟩)
    · exact .inl (.inl rfl)
    · exact .inl (.inr (.inl rfl))
    · by_cases e : i = x
      · simp only [updV, if_pos e] at hk
        rcases hl with hl | hl
        · rw [hl] at hk; exact .inl (.inr (.inr ⟨x, hx, hk⟩))
        · rw [hl] at hk; injection hk with hk; exact .inr (by omega)
      · simp only [updV, if_neg e] at hk
        exact .inl (.inr (.inr ⟨i, hi, hk⟩))

/-- the lists as they are read -/
theorem Wm.ls {w : World} {B bx g n : Nat} {V : Nat → Value} {U : Nat → List Nat} (h : Wm w B bx g n V U) (hn : n ≤ 1000000) : Ls 1 elW w (Fw bx g n V) (some ⟨g, 0, none⟩) n n ((List.range n).map U) := by
  refine ⟨by simp, Nat.le_refl _, by omega, (fun e => (by cases e)), fun i xs hi => ?_⟩
  have hin : i < n := by have := (List.getElem?_eq_some_iff.1 hi).1; simpa using this
  have hxs : xs = U i := by simp [hin] at hi; exact hi.symm
  subst hxs
  refine ⟨g, 0, [V i], rfl, .inr (.inl rfl), rfl, ?_, ?_⟩
  · intro j v hv
    have hj : j = 0 := by have := (List.getElem?_eq_some_iff.1 hv).1; simp at this; exact this
    subst hj
    simp at hv
    subst hv
    rw [Nat.zero_add, Nat.mul_one, Nat.add_zero]
    exact h.cell hin
  · have ho := h.own i hin
    rcases owns_cells ho with ⟨h1, h0⟩ | ⟨g', cap, h1, hb, hg, hn, hm, hc, hf⟩
    · have hU : U i = [] := List.eq_nil_of_length_eq_zero h0
      rw [h1, hU]
      exact ⟨none, 0, 0, rfl, ⟨rfl, Nat.le_refl _, by omega, fun _ => rfl, fun j x hx => by simp at hx⟩⟩
    · rw [h1]
      refine ⟨_, _, cap, rfl, ⟨rfl, hn, hm, fun e => (by cases e), fun j x hx => ?_⟩⟩
      refine ⟨g', 0, [nv x], rfl, .inr (.inr ⟨i, hin, by rw [h1]; rfl⟩), rfl, ?_, rfl⟩
      intro k v hv
      have hk : k = 0 := by have := (List.getElem?_eq_some_iff.1 hv).1; simp at this; exact this
      subst hk
      simp at hv
      subst hv
      rw [Nat.zero_add, Nat.mul_one, Nat.add_zero]
      exact hc j _ (by simp [hx])

/-! ### plain: ways behind so many roads -/
def wy (E : List (Nat × Nat)) (i : Nat) : List Nat := (E.filter (fun p => p.1 == i)).map (·.2)
theorem onw_wy (E : List (Nat × Nat)) (n : Nat) : onw E n = (List.range n).map (wy E) := rfl
theorem bkw_wy (E : List (Nat × Nat)) (n : Nat) : bkw E n = (List.range n).map (wy (E.map Prod.swap)) := by
  unfold bkw wy
  apply List.map_congr_left
  intro i _
  simp [List.filter_map, Function.comp_def]
theorem wy_app (E : List (Nat × Nat)) (p : Nat × Nat) : wy (E ++ [p]) = updU (wy E) p.1 p.2 := by
  funext i
  unfold wy updU
  rw [List.filter_append, List.map_append]
  by_cases e : i = p.1
  · subst e; simp
  · have e2 : ¬ p.1 = i := fun h => e h.symm
    simp [e, e2]
end Go.Proofs.YtdohjhhflfnncaaDoor
