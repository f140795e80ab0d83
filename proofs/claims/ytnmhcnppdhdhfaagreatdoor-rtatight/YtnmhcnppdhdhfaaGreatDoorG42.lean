/-
  One text: YCp1, YAp.
-/
import Derived.Test.YtnmhcnppdhdhfaaGreatDoorHYCp0
namespace Go.Proofs.YtnmhcnppdhdhfaaGreatDoor
open Go.RowKit
set_option linter.unusedVariables false
set_option maxRecDepth 100000

/-- between two places -/
def In (lo hi : Nat) (g : Nat) : Prop := lo < g ∧ g < hi
/-- a row that holds the first k of a list; F: where its elements' own lists lie -/
structure Gr {α : Type} (t : TypeId) (sz : Nat) (El : World → (Nat → Prop) → List Value → α → Prop) (B : Nat) (F : Nat → Prop) (v : Value) (l : List α) (k : Nat) (w : World) : Prop where
  row : ∃ css : List (List Value), w.ownsRow B t sz v k css.flatten ∧ css.length = k ∧ (∀ cs ∈ css, cs.length = sz) ∧ ∀ (i : Nat) cs x, css[i]? = some cs → l[i]? = some x → El w F cs x
  out : ∀ g, F g → v.ownBlock ≠ some g
  lt : ∀ g, F g → B ≤ g ∧ g < w.heap.size
theorem Gr.new {α : Type} (t : TypeId) (sz : Nat) (El : World → (Nat → Prop) → List Value → α → Prop) (B : Nat) (l : List α) (w : World) : Gr t sz El B No (.slice none 0 0) l 0 w :=
  ⟨⟨[], World.ownsRow_nil _ _ _ _, rfl, (fun cs h => by cases h), fun i cs x h => by simp at h⟩, fun g h => h.elim, fun g h => h.elim⟩
theorem Gr.kept {α : Type} {t : TypeId} {sz : Nat} {El : World → (Nat → Prop) → List Value → α → Prop} {B : Nat} {F G : Nat → Prop} {v : Value} {l : List α} {k : Nat} {w w' : World} (h : Gr t sz El B F v l k w) (kk : Kept G w w') (hF : ∀ g, F g → ¬ G g) (hv : ∀ g, v.ownBlock = some g → ¬ G g) (hE : ∀ cs x, El w F cs x → El w' F cs x) : Gr t sz El B F v l k w' := by
  obtain ⟨⟨css, h1, h2, h3, h4⟩, ho, hl⟩ := h
  exact ⟨⟨css, kk.owns h1 hv, h2, h3, fun i cs x hc hx => hE cs x (h4 i cs x hc hx)⟩, ho, fun g hg => ⟨(hl g hg).1, Nat.lt_of_lt_of_le (hl g hg).2 kk.size⟩⟩
/-- one more; its lists lie in F1 -/
theorem Gr.snoc {α : Type} {t : TypeId} {sz : Nat} {El : World → (Nat → Prop) → List Value → α → Prop} {B : Nat} {F F1 : Nat → Prop} {v v4 : Value} {l : List α} {k : Nat} {w w4 : World} {cs : List Value} {x : α} (hm : ∀ (w : World) (F G : Nat → Prop), (∀ k, F k → G k) → ∀ cs x, El w F cs x → El w G cs x) (hke : ∀ (G : Nat → Prop) (w w' : World) (F : Nat → Prop), Kept G w w' → (∀ b, F b → ¬ G b) → ∀ cs x, El w F cs x → El w' F cs x)
    {css : List (List Value)} (h1 : w.ownsRow B t sz v k css.flatten) (h2 : css.length = k) (h3 : ∀ cs ∈ css, cs.length = sz) (h4 : ∀ (i : Nat) cs x, css[i]? = some cs → l[i]? = some x → El w F cs x) (ho : ∀ g, F g → v.ownBlock ≠ some g) (hl : ∀ g, F g → B ≤ g ∧ g < w.heap.size)
    (hx : l[k]? = some x) (hc : cs.length = sz) (hE : El w F1 cs x) (ho1 : ∀ g, F1 g → v.ownBlock ≠ some g) (hl1 : ∀ g, F1 g → B ≤ g ∧ g < w.heap.size)
    (own4 : w4.ownsRow B t sz v4 (k + 1) (css.flatten ++ cs)) (k4 : Kept (fun k => v.ownBlock = some k) w w4) (hat : v4.ownBlock = v.ownBlock ∨ ∃ g, v4.ownBlock = some g ∧ w.heap.size ≤ g) : Gr t sz El B (fun g => F g ∨ F1 g) v4 l (k + 1) w4 := by
  have hout : ∀ g, (F g ∨ F1 g) → v4.ownBlock ≠ some g := by
    intro g hg e
    have hlt : g < w.heap.size := by rcases hg with h | h; exact (hl g h).2; exact (hl1 g h).2
    rcases hat with h | ⟨q, h, hq⟩
    · rw [h] at e
      rcases hg with h' | h'
      · exact ho g h' e
      · exact ho1 g h' e
    · rw [h] at e; injection e with e; omega
  refine ⟨⟨css ++ [cs], by simpa using own4, by simp [h2], fun c hm' => ?_, fun i c y hc' hy => ?_⟩, hout, fun g hg => ?_⟩
  · rcases List.mem_append.1 hm' with h | h
    · exact h3 c h
    · simp at h; subst h; exact hc
  · by_cases q : i < k
    · rw [List.getElem?_append_left (by omega)] at hc'
      exact hm _ _ _ (fun _ h => .inl h) _ _ (hke _ _ _ _ k4 (fun b hb e => ho b hb e) _ _ (h4 i c y hc' hy))
    · rw [List.getElem?_append_right (by omega), h2] at hc'
      have hi : i = k := by
        by_cases q2 : i = k
        · exact q2
        · rw [show i - k = (i - k - 1) + 1 by omega] at hc'; simp at hc'
      subst hi
      rw [Nat.sub_self] at hc'
      simp at hc'
      subst hc'
      rw [hx] at hy
      injection hy with hy
      subst hy
      exact hm _ _ _ (fun _ h => .inr h) _ _ (hke _ _ _ _ k4 (fun b hb e => ho1 b hb e) _ _ hE)
  · have := k4.size
    rcases hg with h | h
    · exact ⟨(hl g h).1, Nat.lt_of_lt_of_le (hl g h).2 this⟩
    · exact ⟨(hl1 g h).1, Nat.lt_of_lt_of_le (hl1 g h).2 this⟩
theorem Gr.ls {α : Type} {t : TypeId} {sz : Nat} {El : World → (Nat → Prop) → List Value → α → Prop} {B : Nat} {F : Nat → Prop} {a : Option Addr} {n c : Nat} {l : List α} {w : World} (hz : 0 < sz) (hm : ∀ (w : World) (F G : Nat → Prop), (∀ k, F k → G k) → ∀ cs x, El w F cs x → El w G cs x) (h : Gr t sz El B F (.slice a n c) l l.length w) : Ls sz El w (fun g => B ≤ g ∧ g < w.heap.size) a n c l := by
  obtain ⟨⟨css, h1, h2, h3, h4⟩, ho, hl⟩ := h
  exact Ls.of_rows hz h1 h2 h3 (fun g hg hlt => ⟨hg, hlt⟩) (fun i cs x hc hx => hm _ _ _ hl _ _ (h4 i cs x hc hx))
theorem elI_mono (w : World) (F G : Nat → Prop) (h : ∀ k, F k → G k) : ∀ cs x, elI w F cs x → elI w G cs x := fun _ _ h => h
theorem Ls.inn {α : Type} {sz : Nat} {El : World → (Nat → Prop) → List Value → α → Prop} {w : World} {b lo hi : Nat} {ya : Option Addr} {n yc : Nat} {l : List α} (h : Ls sz El w (fun g => b ≤ g ∧ (Value.slice ya n yc).ownBlock = some g) ya n yc l) (hlt : ∀ g, (Value.slice ya n yc).ownBlock = some g → g < hi) (hb : lo < b) (he : ∀ cs x, El w (fun g => b ≤ g ∧ (Value.slice ya n yc).ownBlock = some g) cs x → El w (In lo hi) cs x) : Ls sz El w (In lo hi) ya n yc l :=
  h.mono (fun g hg => ⟨Nat.lt_of_lt_of_le hb hg.1, hlt g hg.2⟩) he
theorem madeK (w : World) (t : TypeId) (sz : Nat) : (w.alloc (.cells #[] t)).ownsRow w.heap.size t sz (.slice (some ⟨w.heap.size, 0, none⟩) 0 0) 0 [] := by
  refine ⟨by simp, .inr ⟨w.heap.size, 0, #[], rfl, Nat.le_refl _, heap_alloc_new w _, Nat.le_refl _, by unfold maxLen; omega, by simp, by simp⟩⟩

end Go.Proofs.YtnmhcnppdhdhfaaGreatDoor

namespace Go.Proofs.YtnmhcnppdhdhfaaGreatDoor
open Go.RowKit
set_option linter.unusedVariables false
set_option linter.unusedSimpArgs false
set_option maxRecDepth 100000

/-- a partition; its processes lie in P, its other lists in F -/
structure elPq (w : World) (F P : Nat → Prop) (cs : List Value) (x : Pn) : Prop where
  sl : ∃ a0 n0 c0 a1 n1 c1 a2 n2 c2 a3 n3 c3 a4 n4 c4 a5 n5 c5, cs = [.int .i64 x.pe, .int .i64 x.bu, .int .i64 x.off, .int .i64 x.pr, .int .i64 x.wo, .int .i64 x.fi, .slice a0 n0 c0, .slice a1 n1 c1, .slice a2 n2 c2, .int .i64 x.ha, .int .i64 x.h0, .int .i64 x.h1, .int .i64 x.h2, .int .i64 x.h3, .int .i64 x.h4, .int .i64 x.h5, .int .i64 x.h6, .int .i64 x.h7, .slice a3 n3 c3, .slice a4 n4 c4, .slice a5 n5 c5] ∧
    Ls 1 elI w F a0 n0 c0 x.init ∧ Ls 5 elIns w F a1 n1 c1 x.code ∧ Ls 6 elPrc w P a2 n2 c2 x.procs ∧ Ls 2 elSm w F a3 n3 c3 x.sems ∧ Ls 1 elB w F a4 n4 c4 x.evs ∧ Ls 2 elBf w F a5 n5 c5 x.bufs
  ok : okPn x
theorem elPq.pn {w : World} {F P G : Nat → Prop} {cs : List Value} {x : Pn} (h : elPq w F P cs x) (hF : ∀ g, F g → G g) (hP : ∀ g, P g → G g) : elPn w G cs x := by
  obtain ⟨⟨a0, n0, c0, a1, n1, c1, a2, n2, c2, a3, n3, c3, a4, n4, c4, a5, n5, c5, e, h0, h1, h2, h3, h4, h5⟩, ok⟩ := h
  exact ⟨⟨a0, n0, c0, a1, n1, c1, a2, n2, c2, a3, n3, c3, a4, n4, c4, a5, n5, c5, e, h0.mono hF (fun _ _ h => h), h1.mono hF (fun _ _ h => h), h2.mono hP (fun _ _ h => h), h3.mono hF (fun _ _ h => h), h4.mono hF (fun _ _ h => h), h5.mono hF (fun _ _ h => h)⟩, ok⟩
theorem elPq.kept {G : Nat → Prop} {w w' : World} {F P : Nat → Prop} {cs : List Value} {x : Pn} (h : elPq w F P cs x) (k : Kept G w w') (hF : ∀ g, F g → ¬ G g) (hP : ∀ g, P g → ¬ G g) : elPq w' F P cs x := by
  obtain ⟨⟨a0, n0, c0, a1, n1, c1, a2, n2, c2, a3, n3, c3, a4, n4, c4, a5, n5, c5, e, h0, h1, h2, h3, h4, h5⟩, ok⟩ := h
  exact ⟨⟨a0, n0, c0, a1, n1, c1, a2, n2, c2, a3, n3, c3, a4, n4, c4, a5, n5, c5, e, h0.kept k hF (elI_kept k hF), h1.kept k hF (elIns_kept k hF), h2.kept k hP (elPrc_kept k hP), h3.kept k hF (elSm_kept k hF), h4.kept k hF (elB_kept k hF), h5.kept k hF (elBf_kept k hF)⟩, ok⟩
/-- the lists of a row's partitions: which lie where, and that they lie apart -/
structure Apt (w : World) (lo hi : Nat) (Fs Ps : Nat → Nat → Prop) (k : Nat) : Prop where
  lt : ∀ i g, i < k → (Fs i g ∨ Ps i g) → lo ≤ g ∧ g < hi
  ap : ∀ i j g, i < k → j < k → Ps i g → ¬ Fs j g ∧ (Ps j g → i = j)
  fz : ∀ i g, i < k → Ps i g → ∀ j, w.frozen? ⟨g, j, none⟩ = false
theorem fz_kept {G : Nat → Prop} {w w' : World} {g : Nat} (k : Kept G w w') (hg : ¬ G g) (hlt : g < w.heap.size) (h : ∀ j, w.frozen? ⟨g, j, none⟩ = false) : ∀ j, w'.frozen? ⟨g, j, none⟩ = false := fun j => by
  have h1 := h j
  obtain ⟨o, ho⟩ : ∃ o, w.heap[g]? = some o := ⟨_, Array.getElem?_eq_getElem hlt⟩
  have h2 := k.at' ho hg
  simp only [World.frozen?] at h1 ⊢
  rw [ho] at h1
  rw [h2]
  exact h1
theorem Apt.kept {G : Nat → Prop} {w w' : World} {lo hi : Nat} {Fs Ps : Nat → Nat → Prop} {k : Nat} (h : Apt w lo hi Fs Ps k) (kk : Kept G w w') (hs : hi ≤ w.heap.size) (hG : ∀ i g, i < k → Ps i g → ¬ G g) : Apt w' lo hi Fs Ps k :=
  ⟨h.lt, h.ap, fun i g hi hg => fz_kept kk (hG i g hi hg) (Nat.lt_of_lt_of_le (h.lt i g hi (.inr hg)).2 hs) (h.fz i g hi hg)⟩
theorem Apt.snoc {w : World} {lo hi hi' b : Nat} {Fs Ps : Nat → Nat → Prop} {k : Nat} {F1 P1 : Nat → Prop} (h : Apt w lo hi Fs Ps k) (hb : hi ≤ b) (hlb : lo ≤ b) (hh : hi ≤ hi') (h1 : ∀ g, F1 g ∨ P1 g → b ≤ g ∧ g < hi') (h2 : ∀ g, P1 g → ¬ F1 g) (h3 : ∀ g, P1 g → ∀ j, w.frozen? ⟨g, j, none⟩ = false) : Apt w lo hi' (fun i => if i = k then F1 else Fs i) (fun i => if i = k then P1 else Ps i) (k + 1) := by
  refine ⟨fun i g hi hg => ?_, fun i j g hi hj hp => ?_, fun i g hi hp => ?_⟩
  · by_cases e : i = k
    · simp only [e, if_true] at hg; have := h1 g hg; omega
    · simp only [e, if_false] at hg; have := h.lt i g (by omega) hg; omega
  · by_cases e : i = k <;> by_cases e2 : j = k
    · have hp' : P1 g := by simpa [e] using hp
      exact ⟨by simpa [e2] using h2 g hp', fun _ => e.trans e2.symm⟩
    · simp only [e, e2, if_true, if_false] at hp ⊢
      have q := h1 g (.inr hp)
      exact ⟨fun hf => by have := h.lt j g (by omega) (.inl hf); omega, fun hf => by have := h.lt j g (by omega) (.inr hf); omega⟩
    · simp only [e, e2, if_true, if_false] at hp ⊢
      have q := h.lt i g (by omega) (.inr hp)
      exact ⟨fun hf => by have := h1 g (.inl hf); omega, fun hf => by have := h1 g (.inr hf); omega⟩
    · simp only [e, e2, if_false] at hp ⊢; exact h.ap i j g (by omega) (by omega) hp
  · by_cases e : i = k
    · simp only [e, if_true] at hp; exact h3 g hp
    · simp only [e, if_false] at hp; exact h.fz i g (by omega) hp
/-- a row that holds the first k of a list of partitions -/
structure GrP (B hi : Nat) (Fs Ps : Nat → Nat → Prop) (v : Value) (l : List Pn) (k : Nat) (w : World) : Prop where
  row : ∃ css : List (List Value), w.ownsRow B 48 21 v k css.flatten ∧ css.length = k ∧ (∀ cs ∈ css, cs.length = 21) ∧ ∀ (i : Nat) cs x, i < k → css[i]? = some cs → l[i]? = some x → elPq w (Fs i) (Ps i) cs x
  out : ∀ i g, i < k → (Fs i g ∨ Ps i g) → v.ownBlock ≠ some g
  ap : Apt w B hi Fs Ps k
  hi : hi ≤ w.heap.size
theorem GrP.new (B : Nat) (l : List Pn) (w : World) (hB : B ≤ w.heap.size) : GrP B B (fun _ => No) (fun _ => No) (.slice none 0 0) l 0 w :=
  ⟨⟨[], World.ownsRow_nil _ _ _ _, rfl, (fun cs h => by cases h), fun i cs x h => by omega⟩, fun i g h => by omega, ⟨fun i g h => by omega, fun i j g h => by omega, fun i g h => by omega⟩, hB⟩
theorem GrP.kept {B hi : Nat} {Fs Ps : Nat → Nat → Prop} {G : Nat → Prop} {v : Value} {l : List Pn} {k : Nat} {w w' : World} (h : GrP B hi Fs Ps v l k w) (kk : Kept G w w') (hG : ∀ g, B ≤ g → g < hi → ¬ (v.ownBlock = some g) → ¬ G g) (hv : ∀ g, v.ownBlock = some g → ¬ G g) : GrP B hi Fs Ps v l k w' := by
  have hg : ∀ i g, i < k → (Fs i g ∨ Ps i g) → ¬ G g := fun i g hi hg => by
    have := h.ap.lt i g hi hg
    exact hG g this.1 this.2 (h.out i g hi hg)
  obtain ⟨⟨css, h1, h2, h3, h4⟩, ho, ha, hh⟩ := h
  exact ⟨⟨css, kk.owns h1 hv, h2, h3, fun i cs x hi hc hx => (h4 i cs x hi hc hx).kept kk (fun g q => hg i g hi (.inl q)) (fun g q => hg i g hi (.inr q))⟩, ho, ha.kept kk hh (fun i g hi q => hg i g hi (.inr q)), Nat.le_trans hh kk.size⟩
theorem GrP.snoc {B hi hi' b : Nat} {Fs Ps : Nat → Nat → Prop} {F1 P1 : Nat → Prop} {v v4 : Value} {l : List Pn} {k : Nat} {w w4 : World} {cs : List Value} {x : Pn}
    {css : List (List Value)} (h1 : w.ownsRow B 48 21 v k css.flatten) (h2 : css.length = k) (h3 : ∀ cs ∈ css, cs.length = 21) (h4 : ∀ (i : Nat) cs x, i < k → css[i]? = some cs → l[i]? = some x → elPq w (Fs i) (Ps i) cs x) (ho : ∀ i g, i < k → (Fs i g ∨ Ps i g) → v.ownBlock ≠ some g) (ha : Apt w B hi Fs Ps k) (hh : hi ≤ w.heap.size)
    (hx : l[k]? = some x) (hc : cs.length = 21) (hE : elPq w F1 P1 cs x) (ho1 : ∀ g, F1 g ∨ P1 g → v.ownBlock ≠ some g) (hb : hi ≤ b) (hlb : B ≤ b) (hh1 : hi ≤ hi') (hl1 : ∀ g, F1 g ∨ P1 g → b ≤ g ∧ g < hi') (hs1 : hi' ≤ w.heap.size) (hd1 : ∀ g, P1 g → ¬ F1 g) (hf1 : ∀ g, P1 g → ∀ j, w.frozen? ⟨g, j, none⟩ = false)
    (own4 : w4.ownsRow B 48 21 v4 (k + 1) (css.flatten ++ cs)) (k4 : Kept (fun k => v.ownBlock = some k) w w4) (hat : v4.ownBlock = v.ownBlock ∨ ∃ g, v4.ownBlock = some g ∧ w.heap.size ≤ g) : GrP B hi' (fun i => if i = k then F1 else Fs i) (fun i => if i = k then P1 else Ps i) v4 l (k + 1) w4 := by
  have hA := ha.snoc (F1 := F1) (P1 := P1) hb hlb hh1 hl1 hd1 hf1
  have ho2 : ∀ i g, i < k + 1 → ((if i = k then F1 else Fs i) g ∨ (if i = k then P1 else Ps i) g) → v.ownBlock ≠ some g := fun i g hi hg => by
    by_cases e : i = k
    · simp only [e, if_true] at hg; exact ho1 g hg
    · simp only [e, if_false] at hg; exact ho i g (by omega) hg
  have hlt : ∀ i g, i < k + 1 → ((if i = k then F1 else Fs i) g ∨ (if i = k then P1 else Ps i) g) → g < w.heap.size := fun i g hi hg => by
    have := (hA.lt i g hi hg).2; omega
  refine ⟨⟨css ++ [cs], by simpa using own4, by simp [h2], fun c hm' => ?_, fun i c y hi hc' hy => ?_⟩, fun i g hi hg e => ?_, hA.kept k4 hs1 (fun i g hi hp => ho2 i g hi (.inr hp)), Nat.le_trans hs1 k4.size⟩
  · rcases List.mem_append.1 hm' with h | h
    · exact h3 c h
    · simp at h; subst h; exact hc
  · by_cases q : i < k
    · rw [List.getElem?_append_left (by omega)] at hc'
      have e : i ≠ k := by omega
      simp only [e, if_false]
      exact (h4 i c y q hc' hy).kept k4 (fun g hg => ho i g q (.inl hg)) (fun g hg => ho i g q (.inr hg))
    · have hi : i = k := by omega
      subst hi
      rw [List.getElem?_append_right (by omega), h2, Nat.sub_self] at hc'
      simp at hc'
      subst hc'
      rw [hx] at hy
      injection hy with hy
      subst hy
      simp only [if_true]
      exact hE.kept k4 (fun g hg => ho1 g (.inl hg)) (fun g hg => ho1 g (.inr hg))
  · rcases hat with h | ⟨q, h, hq⟩
    · rw [h] at e; exact ho2 i g hi hg e
    · rw [h] at e; injection e with e
      have := hlt i g hi hg; omega
/-- a list of partitions, with all its lists between lo and hi, the processes' apart -/
structure LsP (w : World) (lo hi : Nat) (a : Option Addr) (n c : Nat) (l : List Pn) : Prop where
  len : l.length = n
  cap : n ≤ c
  max : c ≤ 9223372036854775807
  nil : a = none → c = 0
  at' : ∃ (R : Nat → Prop) (Fs Ps : Nat → Nat → Prop), Apt w lo hi Fs Ps n ∧ (∀ g, R g → lo ≤ g ∧ g < hi) ∧ (∀ i g, i < n → (Fs i g ∨ Ps i g) → ¬ R g) ∧ ∀ i x, l[i]? = some x → ∃ b o cs, a = some ⟨b, o, none⟩ ∧ R b ∧ cs.length = 21 ∧ w.rangeAt b (o + i * 21) cs ∧ elPq w (Fs i) (Ps i) cs x
theorem LsP.ls {w : World} {lo hi : Nat} {a : Option Addr} {n c : Nat} {l : List Pn} (h : LsP w lo hi a n c l) : Ls 21 elPn w (fun g => lo ≤ g ∧ g < hi) a n c l := by
  obtain ⟨h1, h2, h3, h4, R, Fs, Ps, ha, hR, hd, h5⟩ := h
  refine ⟨h1, h2, h3, h4, fun i x hx => ?_⟩
  obtain ⟨b, o, cs, e, hb, hl, hr, hE⟩ := h5 i x hx
  have hi : i < n := by rw [← h1]; exact (List.getElem?_eq_some_iff.1 hx).1
  exact ⟨b, o, cs, e, hR b hb, hl, hr, hE.pn (fun g q => ha.lt i g hi (.inl q)) (fun g q => ha.lt i g hi (.inr q))⟩
theorem LsP.kept {G : Nat → Prop} {w w' : World} {lo hi : Nat} {a : Option Addr} {n c : Nat} {l : List Pn} (h : LsP w lo hi a n c l) (k : Kept G w w') (hs : hi ≤ w.heap.size) (hG : ∀ g, lo ≤ g → g < hi → ¬ G g) : LsP w' lo hi a n c l := by
  obtain ⟨h1, h2, h3, h4, R, Fs, Ps, ha, hR, hd, h5⟩ := h
  refine ⟨h1, h2, h3, h4, R, Fs, Ps, ha.kept k hs (fun i g hi hp => ?_), hR, hd, fun i x hx => ?_⟩
  · have := ha.lt i g hi (.inr hp); exact hG g this.1 this.2
  · obtain ⟨b, o, cs, e, hb, hl, hr, hE⟩ := h5 i x hx
    have hi : i < n := by rw [← h1]; exact (List.getElem?_eq_some_iff.1 hx).1
    exact ⟨b, o, cs, e, hb, hl, rangeAt_kept hr k (hG b (hR b hb).1 (hR b hb).2), hE.kept k (fun g q => by have := ha.lt i g hi (.inl q); exact hG g this.1 this.2) (fun g q => by have := ha.lt i g hi (.inr q); exact hG g this.1 this.2)⟩
theorem GrP.ls {B hi : Nat} {Fs Ps : Nat → Nat → Prop} {a : Option Addr} {n c : Nat} {l : List Pn} {w : World} (h : GrP B hi Fs Ps (.slice a n c) l n w) (hl : l.length = n) : LsP w B w.heap.size a n c l := by
  obtain ⟨⟨css, h1, h2, h3, h4⟩, ho, ha, hh⟩ := h
  have hlt := h1.lt
  have hcells := h1
  have hA : Apt w B w.heap.size Fs Ps n := ⟨fun i g q hg => by have := ha.lt i g q hg; omega, ha.ap, ha.fz⟩
  obtain ⟨_, ⟨e1, e2⟩ | ⟨g, cap, cur, e1, hb, hg, hn, hm, _, _⟩⟩ := h1
  · injection e1 with e1 e3 e4
    subst e1 e3 e4
    refine ⟨hl, Nat.le_refl _, by omega, fun _ => rfl, No, Fs, Ps, hA, fun g h => h.elim, fun i g q _ h => h.elim, fun i x hx => ?_⟩
    have : l = [] := List.eq_nil_of_length_eq_zero hl
    subst this
    simp at hx
  · injection e1 with e1 e3 e4
    subst e1 e4
    have hq := hlt g rfl
    refine ⟨hl, hn, hm, fun h => (by cases h), fun q => q = g, Fs, Ps, hA, fun q e => by subst e; exact ⟨hq.1, hq.2⟩, fun i q hi hh e => by subst e; exact ho i q hi hh rfl, fun i x hx => ?_⟩
    have hil : i < n := by rw [← hl]; exact (List.getElem?_eq_some_iff.1 hx).1
    obtain ⟨cs, hcs⟩ : ∃ cs, css[i]? = some cs := ⟨_, List.getElem?_eq_getElem (by rw [h2]; exact hil)⟩
    have hcl := h3 cs (List.mem_of_getElem? hcs)
    refine ⟨g, 0, cs, rfl, rfl, hcl, ?_, h4 i cs x hil hcs hx⟩
    intro j u hj
    have hjl : j < 21 := by rw [← hcl]; exact (List.getElem?_eq_some_iff.1 hj).1
    have e := flat_get 21 css h3 i j cs hcs hjl
    have := hcells.cells (g := g) rfl (i * 21 + j) u (by rw [e]; exact hj)
    rw [add_none, Nat.zero_add] at this
    rw [Nat.zero_add]
    exact this
end Go.Proofs.YtnmhcnppdhdhfaaGreatDoor
