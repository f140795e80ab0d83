/-
  What is the caller's own is read.
-/
import Derived.Test.YtolmhoenjcinjaaGreatIDecode
import Derived.Test.YtolmhoenjcinjaaGreatIEnc
namespace Go.Proofs.YtolmhoenjcinjaaGreat
open Go.RowKit
set_option linter.unusedVariables false
set_option maxRecDepth 100000

theorem Ls.of_rows {α : Type} {sz : Nat} {El : World → (Nat → Prop) → List Value → α → Prop} {w : World} {F : Nat → Prop} {B : Nat} {t : TypeId} {a : Option Addr} {n c : Nat} {l : List α} {css : List (List Value)} (hz : 0 < sz)
    (h : w.ownsRow B t sz (.slice a n c) l.length css.flatten) (hc : css.length = l.length) (hl : ∀ cs ∈ css, cs.length = sz) (hF : ∀ g, B ≤ g → g < w.heap.size → F g) (hE : ∀ (i : Nat) cs x, css[i]? = some cs → l[i]? = some x → El w F cs x) : Ls sz El w F a n c l := by
  have hlt := h.lt
  have hcells := h
  obtain ⟨_, ⟨h1, h2⟩ | ⟨g, cap, cur, h1, hb, hg, hn, hm, _, _⟩⟩ := h
  · injection h1 with e1 e2 e3
    subst e1 e2 e3
    refine ⟨h2, Nat.le_refl _, by omega, fun _ => rfl, fun i x hx => ?_⟩
    have : l = [] := List.eq_nil_of_length_eq_zero h2
    subst this
    simp at hx
  · injection h1 with e1 e2 e3
    subst e1 e2 e3
    refine ⟨rfl, hn, hm, fun h => (by cases h), fun i x hx => ?_⟩
    obtain ⟨cs, hcs⟩ : ∃ cs, css[i]? = some cs := ⟨_, List.getElem?_eq_getElem (by rw [hc]; exact (List.getElem?_eq_some_iff.1 hx).1)⟩
    have hcl := hl cs (List.mem_of_getElem? hcs)
    have hq := hlt g rfl
    refine ⟨g, 0, cs, rfl, hF g hq.1 hq.2, hcl, ?_, hE i cs x hcs hx⟩
    intro j u hj
    have hjl : j < sz := by rw [← hcl]; exact (List.getElem?_eq_some_iff.1 hj).1
    have e := flat_get sz css hl i j cs hcs hjl
    have := hcells.cells (g := g) rfl (i * sz + j) u (by rw [e]; exact hj)
    rw [add_none, Nat.zero_add] at this
    rw [Nat.zero_add]
    exact this
theorem flat_ls {α : Type} {sz : Nat} {cl : α → List Value} {El : World → (Nat → Prop) → List Value → α → Prop} {ok : α → Prop} {w : World} {F : Nat → Prop} {B : Nat} {t : TypeId} {a : Option Addr} {n c : Nat} {l : List α} (hz : 0 < sz)
    (h : w.ownsRow B t sz (.slice a n c) l.length ((l.map cl).flatten)) (hcl : ∀ x, (cl x).length = sz) (ho : okL ok l) (hF : ∀ g, B ≤ g → g < w.heap.size → F g) (hE : ∀ x, ok x → El w F (cl x) x) : Ls sz El w F a n c l := by
  refine Ls.of_rows (css := l.map cl) hz h (by simp) (fun cs hm => ?_) hF (fun i cs x hc hx => ?_)
  · rw [List.mem_map] at hm
    obtain ⟨x, _, rfl⟩ := hm
    exact hcl x
  · rw [List.getElem?_map, hx] at hc
    simp at hc
    subst hc
    exact hE x (ho x (List.mem_of_getElem? hx))
theorem OwI.ls {w : World} {F : Nat → Prop} {B : Nat} {a : Option Addr} {n c : Nat} {l : List Int} (h : OwI w B (.slice a n c) l) (hF : ∀ g, B ≤ g → g < w.heap.size → F g) : Ls 1 elI w F a n c l := flat_ls (by decide) h.1 (fun _ => rfl) h.2.1 hF (fun x hx => ⟨rfl, hx⟩)
theorem OwB.ls {w : World} {F : Nat → Prop} {B : Nat} {a : Option Addr} {n c : Nat} {l : List Bool} (h : OwB w B (.slice a n c) l) (hF : ∀ g, B ≤ g → g < w.heap.size → F g) : Ls 1 elB w F a n c l := flat_ls (by decide) h.1 (fun _ => rfl) h.2.1 hF (fun x hx => rfl)
theorem OwIns.ls {w : World} {F : Nat → Prop} {B : Nat} {a : Option Addr} {n c : Nat} {l : List Ins} (h : OwIns w B (.slice a n c) l) (hF : ∀ g, B ≤ g → g < w.heap.size → F g) : Ls 5 elIns w F a n c l := flat_ls (by decide) h.1 (fun _ => rfl) h.2.1 hF (fun x hx => ⟨rfl, hx⟩)
theorem OwPrc.ls {w : World} {F : Nat → Prop} {B : Nat} {a : Option Addr} {n c : Nat} {l : List Prc} (h : OwPrc w B (.slice a n c) l) (hF : ∀ g, B ≤ g → g < w.heap.size → F g) : Ls 6 elPrc w F a n c l := flat_ls (by decide) h.1 (fun _ => rfl) h.2.1 hF (fun x hx => ⟨rfl, hx⟩)
theorem OwSm.ls {w : World} {F : Nat → Prop} {B : Nat} {a : Option Addr} {n c : Nat} {l : List Sm} (h : OwSm w B (.slice a n c) l) (hF : ∀ g, B ≤ g → g < w.heap.size → F g) : Ls 2 elSm w F a n c l := flat_ls (by decide) h.1 (fun _ => rfl) h.2.1 hF (fun x hx => ⟨rfl, hx⟩)
theorem OwBf.ls {w : World} {F : Nat → Prop} {B : Nat} {a : Option Addr} {n c : Nat} {l : List Bf} (h : OwBf w B (.slice a n c) l) (hF : ∀ g, B ≤ g → g < w.heap.size → F g) : Ls 2 elBf w F a n c l := flat_ls (by decide) h.1 (fun _ => rfl) h.2.1 hF (fun x hx => ⟨rfl, hx⟩)
theorem OwPo.ls {w : World} {F : Nat → Prop} {B : Nat} {a : Option Addr} {n c : Nat} {l : List Po} (h : OwPo w B (.slice a n c) l) (hF : ∀ g, B ≤ g → g < w.heap.size → F g) : Ls 6 elPo w F a n c l := flat_ls (by decide) h.1 (fun _ => rfl) h.2.1 hF (fun x hx => ⟨rfl, hx⟩)
theorem ChO.el {w : World} {F : Nat → Prop} {B : Nat} {cs : List Value} {x : Ch} (h : ChO w B cs x) (hF : ∀ g, B ≤ g → g < w.heap.size → F g) : elCh w F cs x := by
  obtain ⟨⟨a, n, c, rfl, h1⟩, ho⟩ := h
  refine ⟨⟨a, n, c, rfl, ?_⟩, ho⟩
  have h2 := h1
  rw [← clI_flat] at h2
  exact flat_ls (by decide) h2 (fun _ => rfl) ho.2.2.1 hF (fun x hx => ⟨rfl, hx⟩)
theorem PnO.el {w : World} {F : Nat → Prop} {B : Nat} {cs : List Value} {x : Pn} (h : PnO w B cs x) (hF : ∀ g, B ≤ g → g < w.heap.size → F g) : elPn w F cs x := by
  obtain ⟨⟨a0, n0, c0, a1, n1, c1, a2, n2, c2, a3, n3, c3, a4, n4, c4, a5, n5, c5, rfl, h0, h1, h2, h3, h4, h5⟩, ho⟩ := h
  exact ⟨⟨a0, n0, c0, a1, n1, c1, a2, n2, c2, a3, n3, c3, a4, n4, c4, a5, n5, c5, rfl, h0.ls hF, h1.ls hF, h2.ls hF, h3.ls hF, h4.ls hF, h5.ls hF⟩, ho⟩
theorem OwPn.ls {w : World} {F : Nat → Prop} {B : Nat} {a : Option Addr} {n c : Nat} {l : List Pn} (h : OwPn w B (.slice a n c) l) (hF : ∀ g, B ≤ g → g < w.heap.size → F g) : Ls 21 elPn w F a n c l := by
  obtain ⟨⟨css, lo, h1, h2, h3, h4, h5, h6⟩, hf⟩ := h
  refine Ls.of_rows (by decide) h1 h2 (fun cs hm => ?_) hF (fun i cs x hc hx => ?_)
  · obtain ⟨i, hi⟩ := List.getElem?_of_mem hm
    obtain ⟨x, hx⟩ : ∃ x, l[i]? = some x := ⟨_, List.getElem?_eq_getElem (by rw [← h2]; exact (List.getElem?_eq_some_iff.1 hi).1)⟩
    exact (h6 i cs x hi hx).1.len
  · exact (h6 i cs x hc hx).1.el (fun g hg hl => hF g (Nat.le_trans (Nat.le_trans h3 (mono_le h4 (Nat.zero_le i))) hg) hl)
theorem OwCh.ls {w : World} {F : Nat → Prop} {B : Nat} {a : Option Addr} {n c : Nat} {l : List Ch} (h : OwCh w B (.slice a n c) l) (hF : ∀ g, B ≤ g → g < w.heap.size → F g) : Ls 5 elCh w F a n c l := by
  obtain ⟨⟨css, lo, h1, h2, h3, h4, h5, h6⟩, hf⟩ := h
  refine Ls.of_rows (by decide) h1 h2 (fun cs hm => ?_) hF (fun i cs x hc hx => ?_)
  · obtain ⟨i, hi⟩ := List.getElem?_of_mem hm
    obtain ⟨x, hx⟩ : ∃ x, l[i]? = some x := ⟨_, List.getElem?_eq_getElem (by rw [← h2]; exact (List.getElem?_eq_some_iff.1 hi).1)⟩
    exact (h6 i cs x hi hx).1.len
  · exact (h6 i cs x hc hx).1.el (fun g hg hl => hF g (Nat.le_trans (Nat.le_trans h3 (mono_le h4 (Nat.zero_le i))) hg) hl)
/-- an image that was read is one that is told -/
theorem img_of {w : World} {B : Nat} {a0 : Option Addr} {n0 c0 : Nat} {a1 : Option Addr} {n1 c1 : Nat} {a2 : Option Addr} {n2 c2 : Nat} {x : Im} (h0 : OwPn w B (.slice a0 n0 c0) x.parts) (h1 : OwPo w B (.slice a1 n1 c1) x.ports) (h2 : OwCh w B (.slice a2 n2 c2) x.chans) : Img w (fun g => B ≤ g ∧ g < w.heap.size) a0 n0 c0 a1 n1 c1 a2 n2 c2 x :=
  ⟨h0.ls (fun g hg hl => ⟨hg, hl⟩), h1.ls (fun g hg hl => ⟨hg, hl⟩), h2.ls (fun g hg hl => ⟨hg, hl⟩)⟩

theorem sealed_at {k : Nat} {xs : List Nat} {i : Nat} (hi : i < xs.length) : (sealed k xs)[8 + i]? = xs[i]? := by
  rw [sealed_cons, List.getElem?_append_right (by rw [head8]; omega), head8, show 8 + i - 8 = i by omega, List.getElem?_append_left hi]
theorem sealed_head (k : Nat) (xs : List Nat) : (sealed k xs).take 8 = [66, 75, k, 1] ++ be xs.length 4 := by
  rw [sealed_cons, List.take_append_of_le_length (by rw [head8]; omega)]
  rw [List.take_of_length_le (by rw [head8]; omega)]

end Go.Proofs.YtolmhoenjcinjaaGreat
