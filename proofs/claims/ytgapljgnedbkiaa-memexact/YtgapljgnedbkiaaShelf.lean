/-
  The Shelf: lists handed out, and what each should hold.
-/
import Derived.Test.YtgapljgnedbkiaaWorks
namespace Go.Proofs.Ytgapljgnedbkiaa
open Go.RowKit
set_option linter.unusedVariables false

theorem owns_base {w : World} {b b' : Nat} {e : TypeId} {size : Nat} {v : Value} {n : Nat} {xs : List Value} (h : w.ownsRow b e size v n xs) (hb : b' ≤ b) : w.ownsRow b' e size v n xs := by
  refine ⟨h.1, ?_⟩
  rcases h.2 with h1 | ⟨g, cap, cur, hv, hg, r⟩
  · exact .inl h1
  · exact .inr ⟨g, cap, cur, hv, by omega, r⟩

theorem Try.info22 : (Try.prog.info? 22).map (fun i => (i.zero, i.size, i.bytes)) = some (some (.slice none 0 0), 1, 24) := by kernel_rfl

/-- one thing on the shelf: the list, its copy, the bytes of both -/
structure En where
  l : Value
  h : Value
  xs : List Int
/-- no block of one is a block of the other -/
def Far (u v : Value) : Prop := ∀ k, u.ownBlock = some k → v.ownBlock ≠ some k
theorem Far.symm {u v : Value} (h : Far u v) : Far v u := fun k h1 h2 => h k h2 h1
def enVals (es : List En) : List Value := es.flatMap (fun e => [e.l, e.h])

structure Sh (w : World) (F : Nat → Prop) (s : Nat) (bvv hvv : Value) (es : List En) : Prop where
  obj : w.heap[s]? = some (.cells #[bvv, hvv] 48 (0, 0))
  bown : w.ownsRow 0 22 1 bvv es.length (es.map (·.l))
  hown : w.ownsRow 0 22 1 hvv es.length (es.map (·.h))
  far : Far bvv hvv
  ent : ∀ e ∈ es, w.ownsRow 0 2 1 e.l e.xs.length (e.xs.map iv) ∧ w.ownsRow 0 2 1 e.h e.xs.length (e.xs.map iv) ∧ ∀ x ∈ e.xs, x = x
  apart : (enVals es).Pairwise Far
  fs : F s
  fr : ∀ k, bvv.ownBlock = some k ∨ hvv.ownBlock = some k → F k
  fe : ∀ v ∈ enVals es, ∀ k, v.ownBlock = some k → F k
  flt : ∀ k, F k → k < w.heap.size

theorem Sh.kept {w w' : World} {F G : Nat → Prop} {s : Nat} {bvv hvv : Value} {es : List En} (h : Sh w F s bvv hvv es) (k : Kept G w w') (hd : ∀ b, F b → ¬ G b) : Sh w' F s bvv hvv es := by
  have hv : ∀ e ∈ es, e.l ∈ enVals es ∧ e.h ∈ enVals es := fun e he => ⟨List.mem_flatMap.2 ⟨e, he, by simp⟩, List.mem_flatMap.2 ⟨e, he, by simp⟩⟩
  exact ⟨k.at' h.obj (hd s h.fs), k.owns h.bown (fun g hg => hd g (h.fr g (.inl hg))), k.owns h.hown (fun g hg => hd g (h.fr g (.inr hg))), h.far,
    fun e he => ⟨k.owns (h.ent e he).1 (fun g hg => hd g (h.fe _ (hv e he).1 g hg)), k.owns (h.ent e he).2.1 (fun g hg => hd g (h.fe _ (hv e he).2 g hg)), (h.ent e he).2.2⟩,
    h.apart, h.fs, h.fr, h.fe, fun j hj => Nat.lt_of_lt_of_le (h.flt j hj) k.size⟩

theorem sh_new (w : World) : Sh (w.alloc (.cells #[.slice none 0 0, .slice none 0 0] 48)) (fun k => k = w.heap.size) w.heap.size (.slice none 0 0) (.slice none 0 0) [] :=
  ⟨heap_alloc_new _ _, World.ownsRow_nil _ _ _ _, World.ownsRow_nil _ _ _ _, (fun k h => by simp [Value.ownBlock] at h), (fun e he => by cases he), List.Pairwise.nil, rfl, (fun k h => by simp [Value.ownBlock] at h), (fun v hv => by cases hv), fun k hk => by rw [hk]; simp⟩

namespace Sh
variable {w w' : World} {F : Nat → Prop} {s : Nat} {bvv hvv : Value} {es : List En}
theorem c0 (h : Sh w F s bvv hvv es) : w.cell? ⟨s, 0, none⟩ = some bvv := by simp [World.cell?, h.obj]
theorem c1 (h : Sh w F s bvv hvv es) : w.cell? ⟨s, 1, none⟩ = some hvv := by simp [World.cell?, h.obj]
theorem fz (h : Sh w F s bvv hvv es) (i : Nat) : w.frozen? ⟨s, i, none⟩ = false := by simp [World.frozen?, h.obj]
theorem lt (h : Sh w F s bvv hvv es) : s < w.heap.size := heap_lt h.obj
end Sh

/-- a row of one type lies in no block of another -/
theorem owns_tag {w : World} {B t n : Nat} {v : Value} {ys : List Value} (h : w.ownsRow B t 1 v n ys) {g : Nat} (hg : v.ownBlock = some g) {cs : Array Value} {t' : TypeId} {fr : Nat × Nat} (hb : w.heap[g]? = some (.cells cs t' fr)) : t' = t := by
  obtain ⟨_, ⟨rfl, _⟩ | ⟨g', cap, cur, rfl, _, hgg, _⟩⟩ := h
  · simp [Value.ownBlock] at hg
  · simp [Value.ownBlock] at hg
    subst hg
    rw [hgg] at hb
    simp at hb
    exact hb.2.1.symm
theorem owns_blk {w : World} {B t n : Nat} {v : Value} {ys : List Value} (h : w.ownsRow B t 1 v n ys) {g : Nat} (hg : v.ownBlock = some g) : ∃ cs, w.heap[g]? = some (.cells cs t (0, 0)) := by
  obtain ⟨_, ⟨rfl, _⟩ | ⟨g', cap, cur, rfl, _, hgg, _⟩⟩ := h
  · simp [Value.ownBlock] at hg
  · simp [Value.ownBlock] at hg
    subst hg
    exact ⟨cur, hgg⟩
theorem owns_far {w : World} {B B' t t' n n' : Nat} {u v : Value} {ys ys' : List Value} (h : w.ownsRow B t 1 u n ys) (h' : w.ownsRow B' t' 1 v n' ys') (ht : t ≠ t') : Far u v := by
  intro k hk e
  obtain ⟨cs, hb⟩ := owns_blk h hk
  exact ht (owns_tag h' e hb)


theorem enVals_more (es : List En) (l h : Value) (xs : List Int) : enVals (es ++ [⟨l, h, xs⟩]) = enVals es ++ [l, h] := by simp [enVals]
theorem mem_enVals {es : List En} {e : En} (he : e ∈ es) : e.l ∈ enVals es ∧ e.h ∈ enVals es := ⟨List.mem_flatMap.2 ⟨e, he, by simp⟩, List.mem_flatMap.2 ⟨e, he, by simp⟩⟩

theorem Sh.bne {w : World} {F : Nat → Prop} {s : Nat} {bvv hvv : Value} {es : List En} (h : Sh w F s bvv hvv es) : bvv.ownBlock ≠ some s ∧ hvv.ownBlock ≠ some s :=
  ⟨(fun e => by exact absurd (owns_tag h.bown e h.obj) (by decide)), (fun e => by exact absurd (owns_tag h.hown e h.obj) (by decide))⟩

theorem Sh.more {wc w1 w3 : World} {F : Nat → Prop} {s : Nat} {bvv hvv v1 v2 l g : Value} {es : List En} {oA oB : Obj} {xs : List Int} (h : Sh wc F s bvv hvv es)
    (own1 : w1.ownsRow 0 22 1 v1 (es.length + 1) (es.map (·.l) ++ [l])) (grow1 : (wc.alloc oA).grownBy w1 bvv.ownBlock) (at1 : v1.ownBlock = bvv.ownBlock ∨ v1.ownBlock = some (wc.alloc oA).heap.size)
    (own2 : w3.ownsRow 0 22 1 v2 (es.length + 1) (es.map (·.h) ++ [g])) (grow2 : ((w1.setCell ⟨s, 0, none⟩ v1).alloc oB).grownBy w3 hvv.ownBlock) (at2 : v2.ownBlock = hvv.ownBlock ∨ v2.ownBlock = some ((w1.setCell ⟨s, 0, none⟩ v1).alloc oB).heap.size)
    (ol : wc.ownsRow 0 2 1 l xs.length (xs.map iv)) (og : wc.ownsRow 0 2 1 g xs.length (xs.map iv)) (hx : ∀ x ∈ xs, x = x)
    (hlF : ∀ k, l.ownBlock = some k → ¬ F k) (hgF : ∀ k, g.ownBlock = some k → ¬ F k) (hlg : Far l g) :
    Sh (w3.setCell ⟨s, 1, none⟩ v2) (fun k => F k ∨ l.ownBlock = some k ∨ g.ownBlock = some k ∨ (wc.heap.size ≤ k ∧ k < w3.heap.size)) s v1 v2 (es ++ [⟨l, g, xs⟩]) ∧ Kept F wc (w3.setCell ⟨s, 1, none⟩ v2) := by
  have hb := h.bne
  have hlt := h.lt
  have hbl : ∀ k, bvv.ownBlock = some k → k < wc.heap.size := fun k e => h.flt k (h.fr k (.inl e))
  have hhl : ∀ k, hvv.ownBlock = some k → k < wc.heap.size := fun k e => h.flt k (h.fr k (.inr e))
  have k1 : Kept (fun k => bvv.ownBlock = some k) wc w1 := ((Kept.refl _ _).alloc oA).grown grow1 (fun k e => .inl e)
  have k2 : Kept (fun k => k = s ∨ hvv.ownBlock = some k) w1 w3 := (((Kept.refl _ _).setCell (p := ⟨s, 0, none⟩) (.inl (.inl rfl)) v1).alloc oB).grown grow2 (fun k e => .inl (.inr e))
  have k3 : Kept (fun k => k = s ∨ hvv.ownBlock = some k) w1 (w3.setCell ⟨s, 1, none⟩ v2) := k2.setCell (p := ⟨s, 1, none⟩) (.inl (.inl rfl)) v2
  have hs1 : wc.heap.size + 1 ≤ w1.heap.size := by have := grow1.size; simpa using this
  have hs3 : w1.heap.size + 1 ≤ w3.heap.size := by have := grow2.size; simpa using this
  have kA : Kept (fun k => k = s ∨ bvv.ownBlock = some k ∨ hvv.ownBlock = some k) wc (w3.setCell ⟨s, 1, none⟩ v2) :=
    (k1.mono (fun k e => .inr (.inl e))).trans k3 (fun k e => .inl (e.elim .inl (fun e => .inr (.inr e))))
  have v1ne : ∀ k, v1.ownBlock = some k → k ≠ s ∧ hvv.ownBlock ≠ some k ∧ k < w1.heap.size ∧ (F k ∨ wc.heap.size ≤ k) := by
    intro k e
    have hl := (own1.lt k e).2
    rcases at1 with e1 | e1
    · rw [e1] at e
      exact ⟨fun e2 => hb.1 (by rw [e, e2]), fun e2 => h.far k e e2, hl, .inl (h.fr k (.inl e))⟩
    · rw [e1] at e; injection e with e; simp at e
      exact ⟨by omega, (fun e2 => by have := hhl k e2; omega), hl, .inr (by omega)⟩
  have v2ne : ∀ k, v2.ownBlock = some k → k ≠ s ∧ v1.ownBlock ≠ some k ∧ k < w3.heap.size ∧ (F k ∨ wc.heap.size ≤ k) := by
    intro k e
    have hl := (own2.lt k e).2
    rcases at2 with e1 | e1
    · rw [e1] at e
      exact ⟨fun e2 => hb.2 (by rw [e, e2]), (fun e2 => (v1ne k e2).2.1 e), hl, .inl (h.fr k (.inr e))⟩
    · rw [e1] at e; injection e with e; simp at e
      exact ⟨by omega, (fun e2 => by have := (v1ne k e2).2.2.1; omega), hl, .inr (by omega)⟩
  have hob1 : w1.heap[s]? = some (.cells #[bvv, hvv] 48 (0, 0)) := k1.at' h.obj (fun e => hb.1 e)
  have hob2 : ((w1.setCell ⟨s, 0, none⟩ v1).alloc oB).heap[s]? = some (.cells #[v1, hvv] 48 (0, 0)) := by
    refine (heap_alloc_old _ _ (by simp [World.setCell]; omega)).trans ?_
    simp [World.setCell, Array.getElem?_modify, hob1]
  have hob3 : w3.heap[s]? = some (.cells #[v1, hvv] 48 (0, 0)) :=
    (((Kept.refl (fun k => hvv.ownBlock = some k) _).grown grow2 (fun k e => .inl e)).at' hob2 (fun e => hb.2 e))
  have ne5 : ∀ {v : Value} {n : Nat} {ys : List Value}, wc.ownsRow 0 2 1 v n ys → ∀ k, v.ownBlock = some k → ¬ (k = s ∨ bvv.ownBlock = some k ∨ hvv.ownBlock = some k) := by
    intro v n ys ho k e hk
    rcases hk with rfl | hk | hk
    · exact absurd (owns_tag ho e h.obj) (by decide)
    · exact owns_far ho h.bown (by decide) k e hk
    · exact owns_far ho h.hown (by decide) k e hk
  refine ⟨⟨?_, ?_, ?_, ?_, ?_, ?_, .inl h.fs, ?_, ?_, ?_⟩, kA.mono (fun k e => e.elim (fun e => e ▸ h.fs) (h.fr k))⟩
  · simp [World.setCell, Array.getElem?_modify, hob3]
  · rw [List.length_append, List.map_append]
    exact k3.owns own1 (fun k e hk => hk.elim (v1ne k e).1 (v1ne k e).2.1)
  · rw [List.length_append, List.map_append]
    exact ((Kept.refl (fun k => k = s) w3).setCell (p := ⟨s, 1, none⟩) (.inl rfl) v2).owns own2 (fun k e => (v2ne k e).1)
  · exact fun k e1 e2 => (v2ne k e2).2.1 e1
  · intro e he
    rcases List.mem_append.1 he with he | he
    · exact ⟨kA.owns (h.ent e he).1 (ne5 (h.ent e he).1), kA.owns (h.ent e he).2.1 (ne5 (h.ent e he).2.1), (h.ent e he).2.2⟩
    · rw [List.mem_singleton] at he; subst he
      exact ⟨kA.owns ol (ne5 ol), kA.owns og (ne5 og), hx⟩
  · rw [enVals_more, List.pairwise_append]
    refine ⟨h.apart, by simpa using hlg, ?_⟩
    intro u hu v hv
    rcases List.mem_cons.1 hv with rfl | hv
    · exact fun k e1 e2 => hlF k e2 (h.fe u hu k e1)
    · rw [List.mem_singleton] at hv; subst hv
      exact fun k e1 e2 => hgF k e2 (h.fe u hu k e1)
  · intro k e
    rcases e with e | e
    · have := v1ne k e; rcases this.2.2.2 with h1 | h1
      · exact .inl h1
      · exact .inr (.inr (.inr ⟨h1, by omega⟩))
    · have := v2ne k e; rcases this.2.2.2 with h1 | h1
      · exact .inl h1
      · exact .inr (.inr (.inr ⟨h1, by omega⟩))
  · intro v hv k e
    rw [enVals_more] at hv
    rcases List.mem_append.1 hv with hv | hv
    · exact .inl (h.fe v hv k e)
    · rcases List.mem_cons.1 hv with rfl | hv
      · exact .inr (.inl e)
      · rw [List.mem_singleton] at hv; subst hv
        exact .inr (.inr (.inl e))
  · intro k e
    have hsz : (w3.setCell ⟨s, 1, none⟩ v2).heap.size = w3.heap.size := by simp [World.setCell]
    rw [hsz]
    rcases e with e | e | e | e
    · have := h.flt k e; omega
    · have := (ol.lt k e).2; omega
    · have := (og.lt k e).2; omega
    · exact e.2

end Go.Proofs.Ytgapljgnedbkiaa
