/-
  Squares of truths: rows that are made one after the other.
-/
import Derived.Test.YtfhodojbbeniaaaDoorFRow
namespace Go.Proofs.YtfhodojbbeniaaaDoor
open Go.RowKit
set_option linter.unusedVariables false
set_option maxRecDepth 100000

/-- block g holds n rows; those below j are made, row i in block V i -/
structure Sqm (w : World) (B g n j : Nat) (V : Nat → Nat) (M : Nat → List Bool) : Prop where
  hd : w.heap[g]? = some (.cells ((List.range n).map (fun i => if i < j then .slice (some ⟨V i, 0, none⟩) n n else .slice none 0 0)).toArray 30)
  row : ∀ i, i < j → Br w (V i) (M i) ∧ (M i).length = n
  new : ∀ i, i < j → B ≤ V i
  inj : ∀ i k, i < j → k < j → V i = V k → i = k
  lo : g < B
/-- its blocks -/
def Fs (g j : Nat) (V : Nat → Nat) : Nat → Prop := fun k => k = g ∨ ∃ i, i < j ∧ k = V i
theorem Sqm.lt {w : World} {B g n j : Nat} {V : Nat → Nat} {M : Nat → List Bool} (h : Sqm w B g n j V M) : ∀ k, Fs g j V k → k < w.heap.size := by
  rintro k (rfl | ⟨i, hi, rfl⟩)
  · exact heap_lt h.hd
  · exact (h.row i hi).1.lt
theorem Sqm.same {w w' : World} {B g n j : Nat} {V : Nat → Nat} {M : Nat → List Bool} (h : Sqm w B g n j V M) (hs : ∀ k, Fs g j V k → w'.heap[k]? = w.heap[k]?) : Sqm w' B g n j V M :=
  ⟨(hs _ (.inl rfl)).trans h.hd, fun i hi => ⟨(hs _ (.inr ⟨i, hi, rfl⟩)).trans (h.row i hi).1, (h.row i hi).2⟩, h.new, h.inj, h.lo⟩
theorem Sqm.kept {w w' : World} {F : Nat → Prop} {B g n j : Nat} {V : Nat → Nat} {M : Nat → List Bool} (h : Sqm w B g n j V M) (k : Kept F w w') (hF : ∀ q, Fs g j V q → ¬ F q) : Sqm w' B g n j V M :=
  h.same (fun q hq => k.block q (h.lt q hq) (hF q hq))
theorem Sqm.new0 {w : World} {g n : Nat} (hg : w.heap[g]? = some (.cells (List.replicate n (.slice none 0 0)).toArray 30)) (V : Nat → Nat) (M : Nat → List Bool) : Sqm w w.heap.size g n 0 V M :=
  ⟨by rw [hg, show (List.range n).map (fun i => if i < 0 then Value.slice (some ⟨V i, 0, none⟩) n n else .slice none 0 0) = List.replicate n (.slice none 0 0) from by simp [List.map_const']], fun i hi => by omega, fun i hi => by omega, fun i k hi => by omega, heap_lt hg⟩
theorem Sqm.cell {w : World} {B g n j : Nat} {V : Nat → Nat} {M : Nat → List Bool} (h : Sqm w B g n j V M) {i : Nat} (hi : i < n) : w.cell? ⟨g, i, none⟩ = some (if i < j then .slice (some ⟨V i, 0, none⟩) n n else .slice none 0 0) := by
  rw [cell_blk h.hd]; simp [hi]
/-- the next row -/
theorem Sqm.step {w w1 : World} {B g n j : Nat} {V : Nat → Nat} {M : Nat → List Bool} (h : Sqm w B g n j V M) (hj : j < n) (k1 : Kept No w w1) {q : Nat} (hq : w.heap.size ≤ q) (hB : B ≤ w.heap.size) (hb : Br w1 q (M j)) (hl : (M j).length = n) :
    Sqm (w1.setCell ⟨g, j, none⟩ (.slice (some ⟨q, 0, none⟩) n n)) B g n (j + 1) (fun i => if i = j then q else V i) M := by
  have h1 := h.kept k1 (fun _ _ h => h)
  have k3 : Kept (fun k => k = g) w1 (w1.setCell ⟨g, j, none⟩ (.slice (some ⟨q, 0, none⟩) n n)) := (Kept.refl (fun k => k = g) w1).setCell (p := ⟨g, j, none⟩) (.inl rfl) _
  have hlo := h.lo
  refine ⟨?_, ?_, ?_, ?_, h.lo⟩
  · rw [set_blk h1.hd]
    congr 2
    apply Array.ext_getElem?
    intro i
    by_cases e : i = j
    · subst e
      simp [hj]
    · have e2 : ¬ j = i := fun h => e h.symm
      simp only [List.setIfInBounds_toArray, List.getElem?_toArray, List.getElem?_set, e2, if_false, List.getElem?_map]
      by_cases hi : i < n
      · by_cases hij : i < j
        · simp [hi, e, hij, show i < j + 1 by omega]
        · simp [hi, hij, show ¬ i < j + 1 by omega]
      · simp [show n ≤ i by omega]
  · intro i hi
    by_cases e : i = j
    · subst e
      simp only [if_pos]
      exact ⟨hb.kept k3 (fun e => by omega), hl⟩
    · simp only [if_neg e]
      have := h1.row i (by omega)
      exact ⟨this.1.kept k3 (fun e2 => by have := h.new i (by omega); omega), this.2⟩
  · intro i hi
    by_cases e : i = j
    · simp only [if_pos e]; omega
    · simp only [if_neg e]; exact h.new i (by omega)
  · intro i k hi hk
    by_cases e : i = j
    · by_cases e2 : k = j
      · intro _; omega
      · simp only [if_pos e, if_neg e2]
        intro e3
        have := (h.row k (by omega)).1.lt
        omega
    · by_cases e2 : k = j
      · simp only [if_neg e, if_pos e2]
        intro e3
        have := (h.row i (by omega)).1.lt
        omega
      · simp only [if_neg e, if_neg e2]
        intro e3
        exact h.inj i k (by omega) (by omega) e3
/-- a truth is turned -/
theorem Sqm.put {w : World} {B g n : Nat} {V : Nat → Nat} {M : Nat → List Bool} (h : Sqm w B g n n V M) {x y : Nat} (hx : x < n) (b : Bool) : Sqm (w.setCell ⟨V x, y, none⟩ (.bool b)) B g n n V (fun i => if i = x then (M x).set y b else M i) := by
  have k3 : Kept (fun k => k = V x) w (w.setCell ⟨V x, y, none⟩ (.bool b)) := (Kept.refl (fun k => k = V x) w).setCell (p := ⟨V x, y, none⟩) (.inl rfl) _
  have hlo := h.lo
  refine ⟨k3.at' h.hd (fun e => by have := h.new x hx; omega), ?_, h.new, h.inj, h.lo⟩
  intro i hi
  by_cases e : i = x
  · subst e
    simp only [if_pos]
    exact ⟨(h.row i hi).1.set y b, by rw [List.length_set]; exact (h.row i hi).2⟩
  · simp only [if_neg e]
    exact ⟨(h.row i hi).1.kept k3 (fun e2 => e (h.inj i x hi hx e2)), (h.row i hi).2⟩
/-- as it is read -/
theorem Sqm.ls {w : World} {B g n : Nat} {V : Nat → Nat} {M : Nat → List Bool} (h : Sqm w B g n n V M) (hn : n ≤ 1000000) : Ls 1 elR w (Fs g n V) (some ⟨g, 0, none⟩) n n ((List.range n).map M) := by
  refine ⟨by simp, Nat.le_refl _, by omega, (fun e => (by cases e)), fun i xs hi => ?_⟩
  have hin : i < n := by have := (List.getElem?_eq_some_iff.1 hi).1; simpa using this
  have hxs : xs = M i := by simp [hin] at hi; exact hi.symm
  subst hxs
  refine ⟨g, 0, [.slice (some ⟨V i, 0, none⟩) n n], rfl, .inl rfl, rfl, ?_, _, _, _, rfl, (h.row i hin).2, Nat.le_refl _, by omega, (fun e => (by cases e)), fun j b hb => ?_⟩
  · intro j v hv
    have hj : j = 0 := by have := (List.getElem?_eq_some_iff.1 hv).1; simp at this; exact this
    subst hj
    simp at hv
    subst hv
    rw [Nat.zero_add, Nat.mul_one, Nat.add_zero]
    have := h.cell hin
    rw [if_pos hin] at this
    exact this
  · refine ⟨V i, 0, [.bool b], rfl, .inr ⟨i, hin, rfl⟩, rfl, ?_, rfl⟩
    intro k v hv
    have hk : k = 0 := by have := (List.getElem?_eq_some_iff.1 hv).1; simp at this; exact this
    subst hk
    simp at hv
    subst hv
    rw [Nat.zero_add, Nat.mul_one, Nat.add_zero]
    have hjl := (List.getElem?_eq_some_iff.1 hb).1
    rw [(h.row i hin).1.cell hjl]
    rw [isT_get hjl] at hb
    injection hb with hb
    rw [hb]
end Go.Proofs.YtfhodojbbeniaaaDoor
