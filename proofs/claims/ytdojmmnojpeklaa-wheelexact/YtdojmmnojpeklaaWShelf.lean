/-
  Lists of lists: what was told.
-/
import Derived.Test.YtdojmmnojpeklaaWPlay0
namespace Go.Proofs.Ytdojmmnojpeklaa
open Go.RowKit
set_option linter.unusedVariables false

/-- no block of one is a block of the other -/
def Far (u v : Value) : Prop := ∀ k, u.ownBlock = some k → v.ownBlock ≠ some k
theorem Far.symm {u v : Value} (h : Far u v) : Far v u := fun k h1 h2 => h k h2 h1
theorem owns_tag {w : World} {B t sz n : Nat} {v : Value} {ys : List Value} (h : w.ownsRow B t sz v n ys) {g : Nat} (hg : v.ownBlock = some g) {cs : Array Value} {t' : TypeId} {fr : Nat × Nat} (hb : w.heap[g]? = some (.cells cs t' fr)) : t' = t := by
  obtain ⟨_, ⟨rfl, _⟩ | ⟨g', cap, cur, rfl, _, hgg, _⟩⟩ := h
  · simp [Value.ownBlock] at hg
  · simp [Value.ownBlock] at hg
    subst hg
    rw [hgg] at hb
    simp at hb
    exact hb.2.1.symm
theorem owns_blk {w : World} {B t sz n : Nat} {v : Value} {ys : List Value} (h : w.ownsRow B t sz v n ys) {g : Nat} (hg : v.ownBlock = some g) : ∃ cs, w.heap[g]? = some (.cells cs t (0, 0)) := by
  obtain ⟨_, ⟨rfl, _⟩ | ⟨g', cap, cur, rfl, _, hgg, _⟩⟩ := h
  · simp [Value.ownBlock] at hg
  · simp [Value.ownBlock] at hg
    subst hg
    exact ⟨cur, hgg⟩
/-- a row of one type lies in no block of another -/
theorem owns_far {w : World} {B B' t t' sz sz' n n' : Nat} {u v : Value} {ys ys' : List Value} (h : w.ownsRow B t sz u n ys) (h' : w.ownsRow B' t' sz' v n' ys') (ht : t ≠ t') : Far u v := by
  intro k hk e
  obtain ⟨cs, hb⟩ := owns_blk h hk
  exact ht (owns_tag h' e hb)
/-- lists in a list: each its own -/
structure Hs (w : World) (av : Value) (ls : List Value) (xss : List (List Fi)) : Prop where
  own : w.ownsRow 0 22 1 av ls.length ls
  len : xss.length = ls.length
  ent : ∀ (i : Nat) l xs, ls[i]? = some l → xss[i]? = some xs → w.ownsRow 0 32 2 l xs.length (fcL xs)
  apart : ∀ (i j : Nat) l m, ls[i]? = some l → ls[j]? = some m → i ≠ j → Far l m
/-- its blocks -/
def Fh (av : Value) (ls : List Value) (k : Nat) : Prop := av.ownBlock = some k ∨ ∃ l, l ∈ ls ∧ l.ownBlock = some k
theorem hs_nil (w : World) : Hs w (.slice none 0 0) [] [] := ⟨World.ownsRow_nil _ _ _ _, rfl, (fun i l xs h => by simp at h), (fun i j l m h => by simp at h)⟩
namespace Hs
variable {w w' : World} {av : Value} {ls : List Value} {xss : List (List Fi)}
theorem kept {G : Nat → Prop} (h : Hs w av ls xss) (k : Kept G w w') (hG : ∀ j, Fh av ls j → ¬ G j) : Hs w' av ls xss :=
  ⟨k.owns h.own (fun g hg => hG g (.inl hg)), h.len, fun i l xs h1 h2 => k.owns (h.ent i l xs h1 h2) (fun g hg => hG g (.inr ⟨l, List.mem_of_getElem? h1, hg⟩)), h.apart⟩
theorem below (h : Hs w av ls xss) (k : Below w.heap.size w w') : Hs w' av ls xss := h.kept (Kept.of_below (F := No) k) (fun _ _ h => h)
theorem at' (h : Hs w av ls xss) {j : Nat} {l : Value} (hl : ls[j]? = some l) : ∃ xs, xss[j]? = some xs ∧ w.ownsRow 0 32 2 l xs.length (fcL xs) := by
  have hj : j < ls.length := (List.getElem?_eq_some_iff.1 hl).1
  have hx : xss[j]? = some (xss[j]'(by rw [h.len]; exact hj)) := List.getElem?_eq_getElem _
  exact ⟨_, hx, h.ent j l _ hl hx⟩
theorem lt (h : Hs w av ls xss) : ∀ j, Fh av ls j → j < w.heap.size := by
  rintro j (e | ⟨l, hm, e⟩)
  · exact (h.own.lt j e).2
  · obtain ⟨i, hi, hil⟩ := List.mem_iff_getElem.1 hm
    obtain ⟨xs, _, ho⟩ := h.at' (j := i) (l := l) (by rw [List.getElem?_eq_getElem hi, hil])
    exact (ho.lt j e).2
/-- one list, read -/
theorem look (h : Hs w av ls xss) {j : Nat} (hj : j < ls.length) : ∃ g cap l xs, av = .slice (some ⟨g, 0, none⟩) ls.length cap ∧ ls.length ≤ cap ∧ cap ≤ 9223372036854775807 ∧ ls[j]? = some l ∧ xss[j]? = some xs ∧ w.cell? ⟨g, j, none⟩ = some l ∧ w.ownsRow 0 32 2 l xs.length (fcL xs) := by
  have hl : ls[j]? = some (ls[j]) := List.getElem?_eq_getElem hj
  obtain ⟨xs, hx, ho⟩ := h.at' hl
  have hc := h.own
  obtain ⟨_, ⟨_, h0⟩ | ⟨g, cap, cur, hv, _, _, hn, hm, _, _⟩⟩ := h.own
  · omega
  · have c0 := hc.cells (g := g) (by rw [hv]; rfl) j _ hl
    rw [add_none, Nat.zero_add] at c0
    exact ⟨g, cap, _, xs, hv, hn, by unfold maxLen at hm; omega, hl, hx, c0, ho⟩
/-- one list was written -/
theorem write (h : Hs w av ls xss) {j : Nat} {l : Value} {xs' : List Fi} (hl : ls[j]? = some l) (k : Kept (fun b => l.ownBlock = some b) w w') (hr : w'.ownsRow 0 32 2 l xs'.length (fcL xs')) : Hs w' av ls (xss.set j xs') := by
  obtain ⟨xs, hx, ho⟩ := h.at' hl
  refine ⟨k.owns h.own (fun g hg e => owns_far h.own ho (by decide) g hg e), by rw [List.length_set]; exact h.len, fun i m ys h1 h2 => ?_, h.apart⟩
  by_cases e : i = j
  · subst e
    rw [hl] at h1
    injection h1 with h1
    subst h1
    have hi : i < xss.length := (List.getElem?_eq_some_iff.1 hx).1
    rw [List.getElem?_set_self hi] at h2
    injection h2 with h2
    subst h2
    exact hr
  · rw [List.getElem?_set_ne (fun q => e q.symm)] at h2
    exact k.owns (h.ent i m ys h1 h2) (fun g hg e2 => h.apart i j m l h1 hl e g hg e2)
/-- one list more -/
theorem more {v1 l : Value} {xs : List Fi} {oA : Obj} (h : Hs w av ls xss) (own1 : w'.ownsRow 0 22 1 v1 (ls.length + 1) (ls ++ [l])) (gr : (w.alloc oA).grownBy w' av.ownBlock) (ol : w.ownsRow 0 32 2 l xs.length (fcL xs)) (hl : ∀ k, l.ownBlock = some k → ¬ Fh av ls k) : Hs w' v1 (ls ++ [l]) (xss ++ [xs]) ∧ Kept (fun k => av.ownBlock = some k) w w' := by
  have k1 : Kept (fun k => av.ownBlock = some k) w w' := ((Kept.refl _ _).alloc oA).grown gr (fun k e => .inl e)
  have ne : ∀ {v : Value} {n : Nat} {ys : List Value}, w.ownsRow 0 32 2 v n ys → ∀ k, v.ownBlock = some k → ¬ av.ownBlock = some k := fun ho k e hk => owns_far ho h.own (by decide) k e hk
  refine ⟨⟨by rw [List.length_append]; exact own1, by rw [List.length_append, List.length_append, h.len]; rfl, fun i m ys h1 h2 => ?_, fun i j m m' h1 h2 hij => ?_⟩, k1⟩
  · by_cases e : i < ls.length
    · rw [List.getElem?_append_left e] at h1
      rw [List.getElem?_append_left (by rw [h.len]; exact e)] at h2
      have ho := h.ent i m ys h1 h2
      exact k1.owns ho (ne ho)
    · rw [List.getElem?_append_right (by omega)] at h1
      rw [List.getElem?_append_right (by rw [h.len]; omega), h.len] at h2
      obtain ⟨_, e1⟩ := List.getElem?_eq_some_iff.1 h1
      obtain ⟨_, e2⟩ := List.getElem?_eq_some_iff.1 h2
      simp at e1 e2
      subst e1 e2
      exact k1.owns ol (ne ol)
  · have side : ∀ (a b : Nat) u, a < ls.length → ¬ b < ls.length → (ls ++ [l])[a]? = some u → ∀ u', (ls ++ [l])[b]? = some u' → Far u u' := by
      intro a b u ha hb h3 u' h4
      rw [List.getElem?_append_left ha] at h3
      rw [List.getElem?_append_right (by omega)] at h4
      obtain ⟨_, e1⟩ := List.getElem?_eq_some_iff.1 h4
      simp at e1
      subst e1
      exact fun k e1 e2 => hl k e2 (.inr ⟨u, List.mem_of_getElem? h3, e1⟩)
    by_cases e : i < ls.length
    · by_cases e' : j < ls.length
      · rw [List.getElem?_append_left e] at h1
        rw [List.getElem?_append_left e'] at h2
        exact h.apart i j m m' h1 h2 hij
      · exact side i j m e e' h1 m' h2
    · by_cases e' : j < ls.length
      · exact (side j i m' e' e h2 m h1).symm
      · have a1 := (List.getElem?_eq_some_iff.1 h1).1
        have a2 := (List.getElem?_eq_some_iff.1 h2).1
        simp at a1 a2
        omega
end Hs
end Go.Proofs.Ytdojmmnojpeklaa
