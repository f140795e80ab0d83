/-
  The Shelf: lists handed out, and what each should hold (its lists of ints nil).
-/
import Derived.Test.YtakdfpenpodplaaMarks2
namespace Go.Proofs.Ytakdfpenpodplaa
open Go.RowKit
set_option linter.unusedVariables false

theorem Try.info22 : (Try.prog.info? 22).map (fun i => (i.zero, i.size, i.bytes)) = some (some (.slice none 0 0), 1, 24) := by kernel_rfl

/-- one thing on the shelf: the list, its copy, the bytes of both -/
structure En where
  l : Value
  h : Value
  xs : List Nat
/-- no block of one is a block of the other -/
def Far (u v : Value) : Prop := ∀ k, u.ownBlock = some k → v.ownBlock ≠ some k
theorem Far.symm {u v : Value} (h : Far u v) : Far v u := fun k h1 h2 => h k h2 h1
def enVals (es : List En) : List Value := es.flatMap (fun e => [e.l, e.h])

structure Sh (w : World) (F : Nat → Prop) (s : Nat) (bvv hvv : Value) (es : List En) : Prop where
  obj : w.heap[s]? = some (.cells #[bvv, hvv, .slice none 0 0, .slice none 0 0] 78 (0, 0))
  bown : w.ownsRow 0 22 1 bvv es.length (es.map (·.l))
  hown : w.ownsRow 0 22 1 hvv es.length (es.map (·.h))
  far : Far bvv hvv
  ent : ∀ e ∈ es, w.ownsRow 0 5 1 e.l e.xs.length (e.xs.map bv) ∧ w.ownsRow 0 5 1 e.h e.xs.length (e.xs.map bv) ∧ ∀ x ∈ e.xs, x < 256
  apart : (enVals es).Pairwise Far
  fs : F s
  fr : ∀ k, bvv.ownBlock = some k ∨ hvv.ownBlock = some k → F k
  fe : ∀ v ∈ enVals es, ∀ k, v.ownBlock = some k → F k
  flt : ∀ k, F k → k < w.heap.size

theorem Sh.kept {w w' : World} {F G : Nat → Prop} {s : Nat} {bvv hvv : Value} {es : List En} (h : Sh w F s bvv hvv es) (k : Kept G w w') (hd : ∀ b, F b → ¬ G b) : Sh w' F s bvv hvv es := by
  have hv : ∀ e ∈ es, e.l ∈ enVals es ∧ e.h ∈ enVals es := fun e he => ⟨List.mem_flatMap.2 ⟨e, he, by simp⟩, List.mem_flatMap.2 ⟨e, he, by simp⟩⟩
  exact ⟨k.at' h.obj (hd s h.fs), k.owns h.bown (fun g hg => hd g (h.fr g (.inl hg))), k.owns h.hown (fun g hg => hd g (h.fr g (.inr hg))), h.far,
    fun e he => ⟨k.owns (h.ent e he).1 (fun g hg => hd g (h.fe _ (hv e he).1 g hg)), k.owns (h.ent e he).2.1 (fun g hg => hd g (h.fe _ (hv e he).2 g hg)), (h.ent e he).2.2⟩,
    h.apart, h.fs, h.fr, h.fe, fun j hj => Nat.lt_of_lt_of_le (h.flt j hj) k.size⟩

theorem sh_new (w : World) : Sh (w.alloc (.cells #[.slice none 0 0, .slice none 0 0, .slice none 0 0, .slice none 0 0] 78)) (fun k => k = w.heap.size) w.heap.size (.slice none 0 0) (.slice none 0 0) [] :=
  ⟨heap_alloc_new _ _, World.ownsRow_nil _ _ _ _, World.ownsRow_nil _ _ _ _, (fun k h => by simp [Value.ownBlock] at h), (fun e he => by cases he), List.Pairwise.nil, rfl, (fun k h => by simp [Value.ownBlock] at h), (fun v hv => by cases hv), fun k hk => by rw [hk]; simp⟩

namespace Sh
variable {w w' : World} {F : Nat → Prop} {s : Nat} {bvv hvv : Value} {es : List En}
theorem c0 (h : Sh w F s bvv hvv es) : w.cell? ⟨s, 0, none⟩ = some bvv := by simp [World.cell?, h.obj]
theorem c1 (h : Sh w F s bvv hvv es) : w.cell? ⟨s, 1, none⟩ = some hvv := by simp [World.cell?, h.obj]
theorem c2 (h : Sh w F s bvv hvv es) : w.cell? ⟨s, 2, none⟩ = some (.slice none 0 0) := by simp [World.cell?, h.obj]
theorem fz (h : Sh w F s bvv hvv es) (i : Nat) : w.frozen? ⟨s, i, none⟩ = false := by simp [World.frozen?, h.obj]
theorem lt (h : Sh w F s bvv hvv es) : s < w.heap.size := heap_lt h.obj
end Sh

/-- a row of one type lies in no block of another -/
theorem owns_tag {w : World} {B t n : Nat} {v : Value} {ys : List Value} (h : w.ownsRow B t 1 v n ys) {g : Nat} (hg : v.ownBlock = some g) {cs : Array Value} {t' : TypeId} {fr : Nat × Nat} (hb : w.heap[g]? = some (.cells cs t' fr)) : t' = t := by
  obtain ⟨_, ⟨rfl, _⟩ | ⟨g', cap, cur, rfl, _, hgg, _⟩⟩ := h
  · simp [Value.ownBlock] at hg
  · simp [Value.ownBlock] at hg
    subst hg
    rw [hgg] at hb
    simp at hb
    exact hb.2.1.symm
theorem owns_blk {w : World} {B t n : Nat} {v : Value} {ys : List Value} (h : w.ownsRow B t 1 v n ys) {g : Nat} (hg : v.ownBlock = some g) : ∃ cs, w.heap[g]? = some (.cells cs t (0, 0)) := by
  obtain ⟨_, ⟨rfl, _⟩ | ⟨g', cap, cur, rfl, _, hgg, _⟩⟩ := h
  · simp [Value.ownBlock] at hg
  · simp [Value.ownBlock] at hg
    subst hg
    exact ⟨cur, hgg⟩
theorem owns_far {w : World} {B B' t t' n n' : Nat} {u v : Value} {ys ys' : List Value} (h : w.ownsRow B t 1 u n ys) (h' : w.ownsRow B' t' 1 v n' ys') (ht : t ≠ t') : Far u v := by
  intro k hk e
  obtain ⟨cs, hb⟩ := owns_blk h hk
  exact ht (owns_tag h' e hb)

end Go.Proofs.Ytakdfpenpodplaa
