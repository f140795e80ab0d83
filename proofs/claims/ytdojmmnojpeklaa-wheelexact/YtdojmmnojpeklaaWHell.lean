/-
  'held': what its loops keep.
-/
import Derived.Test.YtdojmmnojpeklaaWZero
namespace Go.Proofs.Ytdojmmnojpeklaa
open Go.RowKit
set_option linter.unusedVariables false

def Fl (ls : List Value) (k : Nat) : Prop := ∃ l, l ∈ ls ∧ l.ownBlock = some k
/-- while the lists are written: those before list j are, and of list j the first k -/
structure Hw (w : World) (av : Value) (ls : List Value) (xss : List (List Fi)) (j k : Nat) (wr : World) : Prop where
  kp : Kept (Fl ls) w wr
  hs : ∃ yss, Hs wr av ls yss ∧ ∀ (i : Nat) ys, yss[i]? = some ys → (∃ xs, xss[i]? = some xs ∧ ys.length = xs.length) ∧ ∀ (m : Nat) y, ys[m]? = some y → (i < j ∨ (i = j ∧ m < k)) → y = ⟨-7, i⟩
theorem hw_new {w wr : World} {av : Value} {ls : List Value} {xss : List (List Fi)} (h : Hs w av ls xss) (hb : Below w.heap.size w wr) : Hw w av ls xss 0 0 wr :=
  ⟨Kept.of_below hb, xss, h.below hb, fun i ys hy => ⟨⟨ys, hy, rfl⟩, (fun m y _ hc => by omega)⟩⟩
namespace Hw
variable {w wr w' : World} {av : Value} {ls : List Value} {xss : List (List Fi)} {j k : Nat}
/-- list j as it lies there -/
theorem look (h : Hw w av ls xss j k wr) {i : Nat} (hj : i < ls.length) (hx : ∀ xs, xs ∈ xss → xs.length ≤ 65536) : ∃ g cap l ys, av = .slice (some ⟨g, 0, none⟩) ls.length cap ∧ ls.length ≤ cap ∧ cap ≤ 9223372036854775807 ∧ ls[i]? = some l ∧ wr.cell? ⟨g, i, none⟩ = some l ∧ wr.ownsRow 0 32 2 l ys.length (fcL ys) ∧ (∃ xs, xss[i]? = some xs ∧ ys.length = xs.length) ∧ ys.length ≤ 65536 := by
  obtain ⟨yss, h1, h2⟩ := h.hs
  obtain ⟨g, cap, l, ys, e1, e2, e3, e4, e5, e6, e7⟩ := h1.look hj
  obtain ⟨⟨xs, hx1, hx2⟩, _⟩ := h2 i ys e5
  exact ⟨g, cap, l, ys, e1, e2, e3, e4, e6, e7, ⟨xs, hx1, hx2⟩, by rw [hx2]; exact hx xs (List.mem_of_getElem? hx1)⟩
/-- one timer was written -/
theorem step {g cap n : Nat} {xs : List Fi} (h : Hw w av ls xss j k wr) (hl : ls[j]? = some (.slice (some ⟨g, 0, none⟩) n cap)) (hxs : xss[j]? = some xs) (hk : k < xs.length) : Hw w av ls xss j (k + 1) ((wr.setCell ⟨g, k * 2, none⟩ (.int .i64 (-7))).setCell ⟨g, k * 2 + 1, none⟩ (.int .i64 j)) := by
  obtain ⟨yss, h1, h2⟩ := h.hs
  obtain ⟨ys, hy, ho⟩ := h1.at' hl
  obtain ⟨⟨xs', hx1, hx2⟩, h3⟩ := h2 j ys hy
  rw [hxs] at hx1
  injection hx1 with hx1
  subst hx1
  have hn : ys.length = n := by
    obtain ⟨_, ⟨e, _⟩ | ⟨_, _, _, e, _⟩⟩ := ho
    · cases e
    · injection e with _ e _; exact e.symm
  rw [hn] at ho
  have ho2 := owns_lay2 ho (k := k) (by omega) ⟨-7, j⟩
  have kk : Kept (fun b => (Value.slice (some ⟨g, 0, none⟩) n cap).ownBlock = some b) wr ((wr.setCell ⟨g, k * 2, none⟩ (.int .i64 (-7))).setCell ⟨g, k * 2 + 1, none⟩ (.int .i64 j)) := Kept.setCell (F := fun b => (Value.slice (some ⟨g, 0, none⟩) n cap).ownBlock = some b) (p := ⟨g, k * 2 + 1, none⟩) (Kept.setCell (F := fun b => (Value.slice (some ⟨g, 0, none⟩) n cap).ownBlock = some b) (p := ⟨g, k * 2, none⟩) (Kept.refl _ wr) (.inl rfl) _) (.inl rfl) _
  refine ⟨h.kp.trans kk (fun b hb => .inl ⟨_, List.mem_of_getElem? hl, hb⟩), yss.set j (ys.set k ⟨-7, j⟩), h1.write hl kk (by rw [List.length_set, hn]; exact ho2), fun i zs hz => ?_⟩
  by_cases e : i = j
  · subst e
    rw [List.getElem?_set_self (List.getElem?_eq_some_iff.1 hy).1] at hz
    injection hz with hz
    subst hz
    refine ⟨⟨xs, hxs, by rw [List.length_set]; exact hx2⟩, fun m y hm hc => ?_⟩
    by_cases e2 : m = k
    · subst e2
      rw [List.getElem?_set_self (by omega)] at hm
      injection hm with hm
      exact hm.symm
    · rw [List.getElem?_set_ne (fun q => e2 q.symm)] at hm
      exact h3 m y hm (by omega)
  · rw [List.getElem?_set_ne (fun q => e q.symm)] at hz
    obtain ⟨a1, a2⟩ := h2 i zs hz
    exact ⟨a1, fun m y hm hc => a2 m y hm (by omega)⟩
/-- one list was written -/
theorem next {xs : List Fi} (h : Hw w av ls xss j k wr) (hxs : xss[j]? = some xs) (hk : xs.length ≤ k) : Hw w av ls xss (j + 1) 0 wr := by
  obtain ⟨yss, h1, h2⟩ := h.hs
  refine ⟨h.kp, yss, h1, fun i ys hy => ?_⟩
  obtain ⟨⟨xs', hx1, hx2⟩, h3⟩ := h2 i ys hy
  refine ⟨⟨xs', hx1, hx2⟩, fun m y hm hc => h3 m y hm ?_⟩
  have := (List.getElem?_eq_some_iff.1 hm).1
  by_cases e : i = j
  · subst e
    rw [hxs] at hx1
    injection hx1 with hx1
    subst hx1
    omega
  · omega
end Hw
/-- while the lists are gone on with -/
structure Hl (w : World) (av : Value) (ls : List Value) (yss : List (List Fi)) (B : Nat) (bv : Value) (Ls : List Value) (wr : World) : Prop where
  kp : Kept (Fl ls) w wr
  hs : Hs wr av ls yss
  old : ∀ k, Fh av ls k → k < B
  siz : B ≤ wr.heap.size ∧ w.heap.size ≤ B
  own : wr.ownsRow B 22 1 bv Ls.length Ls
  ent : ∀ (i : Nat) m ys, Ls[i]? = some m → yss[i]? = some ys → wr.ownsRow 0 32 2 m (ys.length + 70) (fcL (ys ++ zs70))
  at' : ∀ (i : Nat) m l, Ls[i]? = some m → ls[i]? = some l → ∀ g, m.ownBlock = some g → l.ownBlock = some g ∨ B ≤ g
theorem hl_new {w wr : World} {av : Value} {ls : List Value} {yss : List (List Fi)} (kp : Kept (Fl ls) w wr) (h : Hs wr av ls yss) : Hl w av ls yss wr.heap.size (.slice none 0 0) [] wr :=
  ⟨kp, h, h.lt, ⟨Nat.le_refl _, kp.size⟩, World.ownsRow_nil _ _ _ _, (fun i m ys h => by simp at h), (fun i m l h => by simp at h)⟩
namespace Hl
variable {w wr w1 w2 : World} {av bv v2 m : Value} {ls Ls : List Value} {yss : List (List Fi)} {B : Nat}
theorem below (h : Hl w av ls yss B bv Ls wr) (hlen : Ls.length ≤ ls.length) (k : Below wr.heap.size wr w1) : Hl w av ls yss B bv Ls w1 := by
  have kk := Kept.of_below (F := No) k
  exact ⟨h.kp.trans kk (fun j hj => hj.elim), h.hs.below k, h.old, ⟨Nat.le_trans h.siz.1 k.size, h.siz.2⟩, kk.owns h.own (fun _ _ h => h), fun i m ys h1 h2 => kk.owns (h.ent i m ys h1 h2) (fun _ _ h => h), h.at'⟩
/-- one list more is gone on with -/
theorem more {l : Value} {ys : List Fi} {oA : Obj} (h : Hl w av ls yss B bv Ls wr) (hl : ls[Ls.length]? = some l) (hy : yss[Ls.length]? = some ys)
    (own1 : w1.ownsRow 0 32 2 m (ys.length + 70) (fcL (ys ++ zs70))) (own0 : w1.ownsRow 0 32 2 l ys.length (fcL ys)) (k1 : Kept (fun k => l.ownBlock = some k) wr w1) (at1 : m.ownBlock = l.ownBlock ∨ m.ownBlock = some wr.heap.size)
    (own2 : w2.ownsRow B 22 1 v2 (Ls.length + 1) (Ls ++ [m])) (gr : (w1.alloc oA).grownBy w2 bv.ownBlock) : Hl w av ls yss B v2 (Ls ++ [m]) w2 := by
  have hll : ∀ g, l.ownBlock = some g → g < B := fun g e => h.old g (.inr ⟨l, List.mem_of_getElem? hl, e⟩)
  have hset : yss.set Ls.length ys = yss := by
    refine List.ext_getElem? (fun i => ?_)
    by_cases e : i = Ls.length
    · subst e; rw [List.getElem?_set_self (List.getElem?_eq_some_iff.1 hy).1, hy]
    · rw [List.getElem?_set_ne (fun q => e q.symm)]
  have hs1 := h.hs.write hl k1 own0
  rw [hset] at hs1
  have k2 : Kept (fun k => bv.ownBlock = some k) w1 w2 := ((Kept.refl _ _).alloc oA).grown gr (fun k e => .inl e)
  have hb : ∀ k, bv.ownBlock = some k → B ≤ k := fun k e => (h.own.lt k e).1
  have own1b : wr.ownsRow B 22 1 bv Ls.length Ls := h.own
  have hbv1 : w1.ownsRow B 22 1 bv Ls.length Ls := k1.owns h.own (fun g e1 e2 => by have := hb g e1; have := hll g e2; omega)
  have far : ∀ {u : Value} {n : Nat} {zs : List Value}, w1.ownsRow 0 32 2 u n zs → ∀ g, u.ownBlock = some g → ¬ bv.ownBlock = some g := fun ho g e1 e2 => owns_far ho hbv1 (by decide) g e1 e2
  refine ⟨(h.kp.trans k1 (fun k e => .inl ⟨l, List.mem_of_getElem? hl, e⟩)).trans k2 (fun k e => .inr (by have := hb k e; have := h.siz.2; omega)), hs1.kept k2 (fun k hk e => by have := h.old k hk; have := hb k e; omega), h.old, ⟨Nat.le_trans h.siz.1 (Nat.le_trans k1.size k2.size), h.siz.2⟩, by rw [List.length_append]; exact own2, fun i u zs h1 h2 => ?_, fun i u l' h1 h2 g hg => ?_⟩
  · by_cases e : i < Ls.length
    · rw [List.getElem?_append_left e] at h1
      have ho := h.ent i u zs h1 h2
      have hli : i < ls.length := by have := (List.getElem?_eq_some_iff.1 h2).1; rw [h.hs.len] at this; exact this
      have hl' : ls[i]? = some ls[i] := List.getElem?_eq_getElem hli
      have ho1 : w1.ownsRow 0 32 2 u (zs.length + 70) (fcL (zs ++ zs70)) := k1.owns ho (fun g e1 e2 => by
        rcases h.at' i u _ h1 hl' g e1 with e3 | e3
        · exact h.hs.apart i Ls.length _ l hl' hl (by omega) g e3 e2
        · have := hll g e2; omega)
      exact k2.owns ho1 (far ho1)
    · rw [List.getElem?_append_right (by omega)] at h1
      obtain ⟨e0, e1⟩ := List.getElem?_eq_some_iff.1 h1
      simp at e0 e1
      have ei : i = Ls.length := by omega
      subst e1 ei
      rw [hy] at h2
      injection h2 with h2
      subst h2
      exact k2.owns own1 (far own1)
  · by_cases e : i < Ls.length
    · rw [List.getElem?_append_left e] at h1
      exact h.at' i u l' h1 h2 g hg
    · rw [List.getElem?_append_right (by omega)] at h1
      obtain ⟨e0, e1⟩ := List.getElem?_eq_some_iff.1 h1
      simp at e0 e1
      have ei : i = Ls.length := by omega
      subst e1 ei
      rw [hl] at h2
      injection h2 with h2
      subst h2
      rcases at1 with e2 | e2
      · exact .inl (e2 ▸ hg)
      · rw [e2] at hg; injection hg with hg; exact .inr (by have := h.siz.1; omega)
end Hl
end Go.Proofs.Ytdojmmnojpeklaa
