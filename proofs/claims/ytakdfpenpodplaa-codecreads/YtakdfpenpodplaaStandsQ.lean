/-
  What the walk of 'stands' carries, with both halves of the shelf.
-/
import Derived.Test.YtakdfpenpodplaaHoldsP
namespace Go.Proofs.Ytakdfpenpodplaa
open Go.RowKit
set_option linter.unusedVariables false

structure Sd2 (w0 : World) (F : Nat → Prop) (s m m2 : Nat) (A B C D : Value) (es : List En) (is : List Ei) (w : World) : Prop where
  len : es.length = m
  len2 : is.length = m2
  g : Sg C D w F s A B es
  j : Sj A B w F s C D is
  fit : ∀ e ∈ es, e.xs.length ≤ 140737488351232
  fit2 : ∀ e ∈ is, e.xs.length ≤ 10000000000
  kept : Kept F w0 w

section
variable {w0 w w' : World} {F : Nat → Prop} {s m m2 : Nat} {A B C D : Value} {es : List En} {is : List Ei}

theorem Sd2.drewN (h : Sd2 w0 F s m m2 A B C D es is w) (n : Nat) : Sd2 w0 F s m m2 A B C D es is (w.drewN n) :=
  ⟨h.len, h.len2, h.g.drewN n, h.j.drewN n, h.fit, h.fit2, h.kept.drewN n⟩

theorem Sd2.mark (h : Sd2 w0 F s m m2 A B C D es is w) {j : Nat} {la ha : Option Addr} {lc hc n : Nat} {ys : List Nat} (hi : es[j]? = some ⟨.slice la n lc, .slice ha n hc, ys⟩) (hyl : ys.length = n) {q : Nat} (hq : q < n) {x : Nat} (hx : x < 256) :
    ∃ lb hb, la = some ⟨lb, 0, none⟩ ∧ ha = some ⟨hb, 0, none⟩ ∧ ∃ y z : Nat, w.cell? ⟨lb, q, none⟩ = some (.int .u8 (y : Nat)) ∧ w.frozen? ⟨lb, q, none⟩ = false ∧ (w.setCell ⟨lb, q, none⟩ (.int .u8 (x : Nat))).cell? ⟨hb, q, none⟩ = some (.int .u8 (z : Nat)) ∧ (w.setCell ⟨lb, q, none⟩ (.int .u8 (x : Nat))).frozen? ⟨hb, q, none⟩ = false ∧
      (w.setCell ⟨lb, q, none⟩ (.int .u8 (x : Nat))).cell? ⟨s, 1, none⟩ = some B ∧ (∀ k i v, B.ownBlock = some k → w.cell? ⟨k, i, none⟩ = some v → (w.setCell ⟨lb, q, none⟩ (.int .u8 (x : Nat))).cell? ⟨k, i, none⟩ = some v) ∧
      ∃ es', Sd2 w0 F s m m2 A B C D es' is ((w.setCell ⟨lb, q, none⟩ (.int .u8 (x : Nat))).setCell ⟨hb, q, none⟩ (.int .u8 (x : Nat))) ∧ ∃ zs : List Nat, zs.length = n ∧ es'[j]? = some ⟨.slice la n lc, .slice ha n hc, zs⟩ := by
  have hmem := List.mem_of_getElem? hi
  obtain ⟨o1, o2, o3⟩ := h.g.ent _ hmem
  have hfit := h.fit _ hmem
  simp only at o1 o2 o3 hfit
  rw [hyl] at o1 o2
  obtain ⟨lb, rfl⟩ : ∃ lb, la = some ⟨lb, 0, none⟩ := by
    rcases owns_cells o1 with ⟨_, h0⟩ | ⟨b, cap, hv, _⟩
    · omega
    · injection hv with h1 _ _; exact ⟨b, h1⟩
  obtain ⟨hb, rfl⟩ : ∃ hb, ha = some ⟨hb, 0, none⟩ := by
    rcases owns_cells o2 with ⟨_, h0⟩ | ⟨b, cap, hv, _⟩
    · omega
    · injection hv with h1 _ _; exact ⟨b, h1⟩
  obtain ⟨y, z, d1, f1, d2, f2, d3, d4, hsh, hF1, hF2⟩ := h.g.mark hi (lb := lb) (lc := lc) (hb := hb) (hc := hc) (n := n) rfl rfl hyl hq (x := x) hx
  have kk : Kept (fun k => k = lb ∨ k = hb) w ((w.setCell ⟨lb, q, none⟩ (.int .u8 (x : Nat))).setCell ⟨hb, q, none⟩ (.int .u8 (x : Nat))) := ((Kept.refl _ w).setCell (p := ⟨lb, q, none⟩) (.inl (.inl rfl)) _).setCell (p := ⟨hb, q, none⟩) (.inl (.inr rfl)) _
  have ho : Only w 5 (fun k => k = lb ∨ k = hb) := by
    intro b hb' cs t fr hc
    rcases hb' with rfl | rfl
    · exact owns_tag o1 rfl hc
    · exact owns_tag o2 rfl hc
  refine ⟨lb, hb, rfl, rfl, y, z, d1, f1, d2, f2, d3, d4, _, ⟨by rw [List.length_set]; exact h.len, h.len2, hsh, h.j.keptT kk ho, ?_, h.fit2, (h.kept.setCell (p := ⟨lb, q, none⟩) (.inl hF1) _).setCell (p := ⟨hb, q, none⟩) (.inl hF2) _⟩, ys.set q x, by rw [List.length_set]; exact hyl, ?_⟩
  · intro f hf
    rcases List.mem_or_eq_of_mem_set hf with h1 | h1
    · exact h.fit f h1
    · rw [h1]; simp only [List.length_set]; exact hfit
  · rw [List.getElem?_set, if_pos rfl, if_pos (List.getElem?_eq_some_iff.1 hi).1]

theorem Sd2.marki (h : Sd2 w0 F s m m2 A B C D es is w) {j : Nat} {la ha : Option Addr} {lc hc n : Nat} {ys : List Int} (hi : is[j]? = some ⟨.slice la n lc, .slice ha n hc, ys⟩) (hyl : ys.length = n) {q : Nat} (hq : q < n) {x : Int} :
    ∃ lb hb, la = some ⟨lb, 0, none⟩ ∧ ha = some ⟨hb, 0, none⟩ ∧ ∃ y z : Int, w.cell? ⟨lb, q, none⟩ = some (.int .i64 y) ∧ w.frozen? ⟨lb, q, none⟩ = false ∧ (w.setCell ⟨lb, q, none⟩ (.int .i64 x)).cell? ⟨hb, q, none⟩ = some (.int .i64 z) ∧ (w.setCell ⟨lb, q, none⟩ (.int .i64 x)).frozen? ⟨hb, q, none⟩ = false ∧
      (w.setCell ⟨lb, q, none⟩ (.int .i64 x)).cell? ⟨s, 3, none⟩ = some D ∧ (∀ k i v, D.ownBlock = some k → w.cell? ⟨k, i, none⟩ = some v → (w.setCell ⟨lb, q, none⟩ (.int .i64 x)).cell? ⟨k, i, none⟩ = some v) ∧
      ∃ is', Sd2 w0 F s m m2 A B C D es is' ((w.setCell ⟨lb, q, none⟩ (.int .i64 x)).setCell ⟨hb, q, none⟩ (.int .i64 x)) ∧ ∃ zs : List Int, zs.length = n ∧ is'[j]? = some ⟨.slice la n lc, .slice ha n hc, zs⟩ := by
  have hmem := List.mem_of_getElem? hi
  obtain ⟨o1, o2, o3⟩ := h.j.ent _ hmem
  have hfit := h.fit2 _ hmem
  simp only at o1 o2 hfit
  rw [hyl] at o1 o2
  obtain ⟨lb, rfl⟩ : ∃ lb, la = some ⟨lb, 0, none⟩ := by
    rcases owns_cells o1 with ⟨_, h0⟩ | ⟨b, cap, hv, _⟩
    · omega
    · injection hv with h1 _ _; exact ⟨b, h1⟩
  obtain ⟨hb, rfl⟩ : ∃ hb, ha = some ⟨hb, 0, none⟩ := by
    rcases owns_cells o2 with ⟨_, h0⟩ | ⟨b, cap, hv, _⟩
    · omega
    · injection hv with h1 _ _; exact ⟨b, h1⟩
  obtain ⟨y, z, d1, f1, d2, f2, d3, d4, hsh, hF1, hF2⟩ := h.j.mark hi (lb := lb) (lc := lc) (hb := hb) (hc := hc) (n := n) rfl rfl hyl hq (x := x) rfl
  have kk : Kept (fun k => k = lb ∨ k = hb) w ((w.setCell ⟨lb, q, none⟩ (.int .i64 x)).setCell ⟨hb, q, none⟩ (.int .i64 x)) := ((Kept.refl _ w).setCell (p := ⟨lb, q, none⟩) (.inl (.inl rfl)) _).setCell (p := ⟨hb, q, none⟩) (.inl (.inr rfl)) _
  have ho : Only w 3 (fun k => k = lb ∨ k = hb) := by
    intro b hb' cs t fr hc
    rcases hb' with rfl | rfl
    · exact owns_tag o1 rfl hc
    · exact owns_tag o2 rfl hc
  refine ⟨lb, hb, rfl, rfl, y, z, d1, f1, d2, f2, d3, d4, _, ⟨h.len, by rw [List.length_set]; exact h.len2, h.g.keptT kk ho, hsh, h.fit, ?_, (h.kept.setCell (p := ⟨lb, q, none⟩) (.inl hF1) _).setCell (p := ⟨hb, q, none⟩) (.inl hF2) _⟩, ys.set q x, by rw [List.length_set]; exact hyl, ?_⟩
  · intro f hf
    rcases List.mem_or_eq_of_mem_set hf with h1 | h1
    · exact h.fit2 f h1
    · rw [h1]; simp only [List.length_set]; exact hfit
  · rw [List.getElem?_set, if_pos rfl, if_pos (List.getElem?_eq_some_iff.1 hi).1]

theorem Sd2.grew (h : Sd2 w0 F s m m2 A B C D es is w) {i : Nat} {e : En} (hi : es[i]? = some e) {l v' : Value} {q n : Nat} {zs : List Value} {u : Value} {o : Obj} (hn : n = e.xs.length)
    (hlong : Long w0.heap.size F e l q) (hown : w.ownsRow 0 5 1 l (n + q) (e.xs.map bv ++ zs)) (own : w'.ownsRow 0 5 1 v' (n + q + 1) ((e.xs.map bv ++ zs) ++ [u]))
    (two : (∃ g cap, l = .slice (some ⟨g, 0, none⟩) (n + q) cap ∧ v' = .slice (some ⟨g, 0, none⟩) (n + q + 1) cap ∧ (w.alloc o).grownBy w' (some g)) ∨ (v'.ownBlock = some (w.alloc o).heap.size ∧ (w.alloc o).grownBy w' none)) :
    Sd2 w0 F s m m2 A B C D es is w' ∧ Long w0.heap.size F e v' (q + 1) ∧ ∃ zs, w'.ownsRow 0 5 1 v' (n + (q + 1)) (e.xs.map bv ++ zs) := by
  subst hn
  have hg := h.g.grew hi h.kept hlong own two
  exact ⟨⟨h.len, h.len2, hg.1, h.j.keptT (two_kept two) (Only.row hown), h.fit, h.fit2, hg.2.2.1⟩, hg.2.1, _, hg.2.2.2⟩

theorem Sd2.grewi (h : Sd2 w0 F s m m2 A B C D es is w) {i : Nat} {e : Ei} (hi : is[i]? = some e) {l v' : Value} {q n : Nat} {zs : List Value} {u : Value} {o : Obj} (hn : n = e.xs.length)
    (hlong : Longi w0.heap.size F e l q) (hown : w.ownsRow 0 3 1 l (n + q) (e.xs.map iv ++ zs)) (own : w'.ownsRow 0 3 1 v' (n + q + 1) ((e.xs.map iv ++ zs) ++ [u]))
    (two : (∃ g cap, l = .slice (some ⟨g, 0, none⟩) (n + q) cap ∧ v' = .slice (some ⟨g, 0, none⟩) (n + q + 1) cap ∧ (w.alloc o).grownBy w' (some g)) ∨ (v'.ownBlock = some (w.alloc o).heap.size ∧ (w.alloc o).grownBy w' none)) :
    Sd2 w0 F s m m2 A B C D es is w' ∧ Longi w0.heap.size F e v' (q + 1) ∧ ∃ zs, w'.ownsRow 0 3 1 v' (n + (q + 1)) (e.xs.map iv ++ zs) := by
  subst hn
  have hg := h.j.grew hi h.kept hlong own two
  exact ⟨⟨h.len, h.len2, h.g.keptT (two_kept two) (Only.row hown), hg.1, h.fit, h.fit2, hg.2.2.1⟩, hg.2.1, _, hg.2.2.2⟩
end

end Go.Proofs.Ytakdfpenpodplaa
