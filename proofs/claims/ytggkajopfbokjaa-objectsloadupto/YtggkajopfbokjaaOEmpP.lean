/-
  A row of one's own, one cell turned: no walk.
-/
import Derived.Test.YtggkajopfbokjaaOIntact
namespace Go.Proofs.Ytggkajopfbokjaa
open Go.RowKit
set_option linter.unusedVariables false
set_option maxRecDepth 100000

theorem owns_set {w : World} {B t k g m c : Nat} {L : List Value} (h : w.ownsRow B t k (.slice (some ⟨g, 0, none⟩) m c) m L) (j : Nat) (u : Value) : (w.setCell ⟨g, j, none⟩ u).ownsRow B t k (.slice (some ⟨g, 0, none⟩) m c) m (L.set j u) := by
  obtain ⟨h1, ⟨h2, _⟩ | ⟨g', cap, cur, h2, h3, h4, h5, h6, h7, h8⟩⟩ := h
  · cases h2
  · injection h2 with h2 _ h9
    injection h2 with h2
    injection h2 with h2 _ _
    subst h2 h9
    refine ⟨by rw [List.length_set]; exact h1, .inr ⟨g, c, _, rfl, h3, set_blk h4 _ _, h5, h6, by rw [Array.size_setIfInBounds]; exact h7, ?_⟩⟩
    rw [Array.toList_setIfInBounds, ← h8, List.take_set]
theorem Rw.set {w : World} {B t k g n c : Nat} {xs mk : List Value} (h : Rw w B t k (.slice (some ⟨g, 0, none⟩) n c) n xs mk) {j : Nat} (hj : j < xs.length) (u : Value) : Rw (w.setCell ⟨g, j, none⟩ u) B t k (.slice (some ⟨g, 0, none⟩) n c) n (xs.set j u) mk := by
  obtain ⟨g', c', e, h1, h2, h3⟩ := h
  injection e with e _ e2
  injection e with e
  injection e with e _ _
  subst e e2
  refine ⟨g, c, rfl, h1, h2, ?_⟩
  have := owns_set h3 j u
  rwa [List.set_append_left _ _ hj] at this
theorem Rw.fz {w : World} {B t k g n c : Nat} {xs mk : List Value} (h : Rw w B t k (.slice (some ⟨g, 0, none⟩) n c) n xs mk) (j : Nat) : w.frozen? ⟨g, j, none⟩ = false := by
  obtain ⟨_, cs, hb⟩ := h.blk (g := g) rfl
  exact fz_blk hb j
/-- the first k pairs turned -/
def sK (p q : Nat → Int) (x : Int) (k : Nat) : Nat → Int := fun i => if i < k then x else p i
theorem cat_congr {f f' : Nat → List Value} : ∀ n, (∀ i, i < n → f i = f' i) → cat f n = cat f' n
  | 0, _ => rfl
  | n + 1, h => by
    show cat f n ++ f n = cat f' n ++ f' n
    rw [cat_congr n (fun i hi => h i (by omega)), h n (by omega)]
theorem cat_set2 (p q : Nat → Int) (x y : Int) (n k : Nat) (hk : k < n) : ((cat (sF p q) n).set (k * 2) (.int .i64 x)).set (k * 2 + 1) (.int .i64 y) = cat (sF (upd p k x) (upd q k y)) n := by
  apply List.ext_getElem?
  intro j
  have hl := cat_len (f := sF p q) (s := 2) (fun _ => rfl) n
  have hl' := cat_len (f := sF (upd p k x) (upd q k y)) (s := 2) (fun _ => rfl) n
  by_cases hj : j < n * 2
  · have h1 := cat_at (f := sF p q) (s := 2) (fun _ => rfl) n (j / 2) (j % 2) (by omega) (by omega)
    have h2 := cat_at (f := sF (upd p k x) (upd q k y)) (s := 2) (fun _ => rfl) n (j / 2) (j % 2) (by omega) (by omega)
    rw [show j / 2 * 2 + j % 2 = j by omega] at h1 h2
    rw [h2]
    by_cases e : j / 2 = k
    · have hm : j % 2 = 0 ∨ j % 2 = 1 := by omega
      rcases hm with hm | hm
      · have : j = k * 2 := by omega
        rw [e, hm, this, List.getElem?_set_ne (by omega), List.getElem?_set_self (by omega)]
        simp [sF, upd]
      · have : j = k * 2 + 1 := by omega
        rw [e, hm, this, List.getElem?_set_self (by rw [List.length_set]; omega)]
        simp [sF, upd]
    · rw [List.getElem?_set_ne (by omega), List.getElem?_set_ne (by omega), h1]
      simp [sF, upd, e]
  · rw [List.getElem?_eq_none (by rw [List.length_set, List.length_set]; omega), List.getElem?_eq_none (by omega)]
theorem upd_sK (p : Nat → Int) (x : Int) (k : Nat) : upd (sK p p x k) k x = sK p p x (k + 1) := by
  funext i
  unfold upd sK
  by_cases h : i = k
  · subst h; rw [if_pos rfl, if_pos (by omega)]
  · rw [if_neg h]
    by_cases h2 : i < k
    · rw [if_pos h2, if_pos (by omega)]
    · rw [if_neg h2, if_neg (by omega)]
end Go.Proofs.Ytggkajopfbokjaa
