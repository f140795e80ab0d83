/-
  Lists that grow, element by element, each with lists of its own.
-/
import Derived.Test.YtolmhoenjcinjaaGreatICopy0
import Derived.Test.YtolmhoenjcinjaaGreatIOpenIm
namespace Go.Proofs.YtolmhoenjcinjaaGreat
open Go.RowKit
set_option linter.unusedVariables false
set_option maxRecDepth 100000

/-- between two places -/
def In (lo hi : Nat) (g : Nat) : Prop := lo < g ∧ g < hi
/-- a row that holds the first k of a list; F: where its elements' own lists lie -/
structure Gr {α : Type} (t : TypeId) (sz : Nat) (El : World → (Nat → Prop) → List Value → α → Prop) (B : Nat) (F : Nat → Prop) (v : Value) (l : List α) (k : Nat) (w : World) : Prop where
  row : ∃ css : List (List Value), w.ownsRow B t sz v k css.flatten ∧ css.length = k ∧ (∀ cs ∈ css, cs.length = sz) ∧ ∀ (i : Nat) cs x, css[i]? = some cs → l[i]? = some x → El w F cs x
  out : ∀ g, F g → v.ownBlock ≠ some g
  lt : ∀ g, F g → B ≤ g ∧ g < w.heap.size
theorem Gr.new {α : Type} (t : TypeId) (sz : Nat) (El : World → (Nat → Prop) → List Value → α → Prop) (B : Nat) (l : List α) (w : World) : Gr t sz El B No (.slice none 0 0) l 0 w :=
  ⟨⟨[], World.ownsRow_nil _ _ _ _, rfl, (fun cs h => by cases h), fun i cs x h => by simp at h⟩, fun g h => h.elim, fun g h => h.elim⟩
theorem Gr.kept {α : Type} {t : TypeId} {sz : Nat} {El : World → (Nat → Prop) → List Value → α → Prop} {B : Nat} {F G : Nat → Prop} {v : Value} {l : List α} {k : Nat} {w w' : World} (h : Gr t sz El B F v l k w) (kk : Kept G w w') (hF : ∀ g, F g → ¬ G g) (hv : ∀ g, v.ownBlock = some g → ¬ G g) (hE : ∀ cs x, El w F cs x → El w' F cs x) : Gr t sz El B F v l k w' := by
  obtain ⟨⟨css, h1, h2, h3, h4⟩, ho, hl⟩ := h
  exact ⟨⟨css, kk.owns h1 hv, h2, h3, fun i cs x hc hx => hE cs x (h4 i cs x hc hx)⟩, ho, fun g hg => ⟨(hl g hg).1, Nat.lt_of_lt_of_le (hl g hg).2 kk.size⟩⟩
/-- one more; its lists lie in F1 -/
theorem Gr.snoc {α : Type} {t : TypeId} {sz : Nat} {El : World → (Nat → Prop) → List Value → α → Prop} {B : Nat} {F F1 : Nat → Prop} {v v4 : Value} {l : List α} {k : Nat} {w w4 : World} {cs : List Value} {x : α} (hm : ∀ (w : World) (F G : Nat → Prop), (∀ k, F k → G k) → ∀ cs x, El w F cs x → El w G cs x) (hke : ∀ (G : Nat → Prop) (w w' : World) (F : Nat → Prop), Kept G w w' → (∀ b, F b → ¬ G b) → ∀ cs x, El w F cs x → El w' F cs x)
    {css : List (List Value)} (h1 : w.ownsRow B t sz v k css.flatten) (h2 : css.length = k) (h3 : ∀ cs ∈ css, cs.length = sz) (h4 : ∀ (i : Nat) cs x, css[i]? = some cs → l[i]? = some x → El w F cs x) (ho : ∀ g, F g → v.ownBlock ≠ some g) (hl : ∀ g, F g → B ≤ g ∧ g < w.heap.size)
    (hx : l[k]? = some x) (hc : cs.length = sz) (hE : El w F1 cs x) (ho1 : ∀ g, F1 g → v.ownBlock ≠ some g) (hl1 : ∀ g, F1 g → B ≤ g ∧ g < w.heap.size)
    (own4 : w4.ownsRow B t sz v4 (k + 1) (css.flatten ++ cs)) (k4 : Kept (fun k => v.ownBlock = some k) w w4) (hat : v4.ownBlock = v.ownBlock ∨ ∃ g, v4.ownBlock = some g ∧ w.heap.size ≤ g) : Gr t sz El B (fun g => F g ∨ F1 g) v4 l (k + 1) w4 := by
  have hout : ∀ g, (F g ∨ F1 g) → v4.ownBlock ≠ some g := by
    intro g hg e
    have hlt : g < w.heap.size := by rcases hg with h | h; exact (hl g h).2; exact (hl1 g h).2
    rcases hat with h | ⟨q, h, hq⟩
    · rw [h] at e
      rcases hg with h' | h'
      · exact ho g h' e
      · exact ho1 g h' e
    · rw [h] at e; injection e with e; omega
  refine ⟨⟨css ++ [cs], by simpa using own4, by simp [h2], fun c hm' => ?_, fun i c y hc' hy => ?_⟩, hout, fun g hg => ?_⟩
  · rcases List.mem_append.1 hm' with h | h
    · exact h3 c h
    · simp at h; subst h; exact hc
  · by_cases q : i < k
    · rw [List.getElem?_append_left (by omega)] at hc'
      exact hm _ _ _ (fun _ h => .inl h) _ _ (hke _ _ _ _ k4 (fun b hb e => ho b hb e) _ _ (h4 i c y hc' hy))
    · rw [List.getElem?_append_right (by omega), h2] at hc'
      have hi : i = k := by
        by_cases q2 : i = k
        · exact q2
        · rw [show i - k = (i - k - 1) + 1 by omega] at hc'; simp at hc'
      subst hi
      rw [Nat.sub_self] at hc'
      simp at hc'
      subst hc'
      rw [hx] at hy
      injection hy with hy
      subst hy
      exact hm _ _ _ (fun _ h => .inr h) _ _ (hke _ _ _ _ k4 (fun b hb e => ho1 b hb e) _ _ hE)
  · have := k4.size
    rcases hg with h | h
    · exact ⟨(hl g h).1, Nat.lt_of_lt_of_le (hl g h).2 this⟩
    · exact ⟨(hl1 g h).1, Nat.lt_of_lt_of_le (hl1 g h).2 this⟩
theorem Gr.ls {α : Type} {t : TypeId} {sz : Nat} {El : World → (Nat → Prop) → List Value → α → Prop} {B : Nat} {F : Nat → Prop} {a : Option Addr} {n c : Nat} {l : List α} {w : World} (hz : 0 < sz) (hm : ∀ (w : World) (F G : Nat → Prop), (∀ k, F k → G k) → ∀ cs x, El w F cs x → El w G cs x) (h : Gr t sz El B F (.slice a n c) l l.length w) : Ls sz El w (fun g => B ≤ g ∧ g < w.heap.size) a n c l := by
  obtain ⟨⟨css, h1, h2, h3, h4⟩, ho, hl⟩ := h
  exact Ls.of_rows hz h1 h2 h3 (fun g hg hlt => ⟨hg, hlt⟩) (fun i cs x hc hx => hm _ _ _ hl _ _ (h4 i cs x hc hx))
theorem elI_mono (w : World) (F G : Nat → Prop) (h : ∀ k, F k → G k) : ∀ cs x, elI w F cs x → elI w G cs x := fun _ _ h => h
theorem Ls.inn {α : Type} {sz : Nat} {El : World → (Nat → Prop) → List Value → α → Prop} {w : World} {b lo hi : Nat} {ya : Option Addr} {n yc : Nat} {l : List α} (h : Ls sz El w (fun g => b ≤ g ∧ (Value.slice ya n yc).ownBlock = some g) ya n yc l) (hlt : ∀ g, (Value.slice ya n yc).ownBlock = some g → g < hi) (hb : lo < b) (he : ∀ cs x, El w (fun g => b ≤ g ∧ (Value.slice ya n yc).ownBlock = some g) cs x → El w (In lo hi) cs x) : Ls sz El w (In lo hi) ya n yc l :=
  h.mono (fun g hg => ⟨Nat.lt_of_lt_of_le hb hg.1, hlt g hg.2⟩) he
theorem madeK (w : World) (t : TypeId) (sz : Nat) : (w.alloc (.cells #[] t)).ownsRow w.heap.size t sz (.slice (some ⟨w.heap.size, 0, none⟩) 0 0) 0 [] := by
  refine ⟨by simp, .inr ⟨w.heap.size, 0, #[], rfl, Nat.le_refl _, heap_alloc_new w _, Nat.le_refl _, by unfold maxLen; omega, by simp, by simp⟩⟩

end Go.Proofs.YtolmhoenjcinjaaGreat
