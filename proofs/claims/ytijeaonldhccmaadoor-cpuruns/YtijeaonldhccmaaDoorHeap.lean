/-
  Blocks that a call may write ('Kept'), objects told by their blocks: no dump.
-/
import Derived.WalkKit
import Derived.WalkSpells
import Derived.WalkLawsBesides
import Derived.Below
import Derived.WalkSmall
import Derived.Maps.AppendAt
import Derived.Laws.AppendOwnNone
import Derived.Deep.Draws
namespace Go.Proofs.YtijeaonldhccmaaDoor
open Go.RowKit
set_option linter.unusedVariables false

/-- a word as a value -/
def iv (x : Int) : Value := .int .i64 x
theorem iv_one (xs : List Int) : ∀ u ∈ xs.map iv, u.oneCell' = true := by
  intro u hu; rw [List.mem_map] at hu; obtain ⟨i, _, rfl⟩ := hu; rfl
theorem one_one (k : IntKind) (x : Int) : ∀ u ∈ [Value.int k x], u.oneCell' = true := by
  intro u hu; simp at hu; subst hu; rfl
theorem iv_get {xs : List Int} {i : Nat} (h : i < xs.length) : (xs.map iv)[i]? = some (iv (xs.getD i 0)) := by
  simp [List.getD, h]

theorem cell_lt {w : World} {a : Addr} {v : Value} (h : w.cell? a = some v) : a.block < w.heap.size := by
  apply Decidable.byContradiction
  intro hn
  have : w.heap[a.block]? = none := by simp; omega
  simp [World.cell?, this] at h
theorem heap_lt {w : World} {b : Nat} {o : Obj} (h : w.heap[b]? = some o) : b < w.heap.size := (Array.getElem?_eq_some_iff.1 h).1
theorem add_none (b o j : Nat) : (Addr.add ⟨b, o, none⟩ j) = ⟨b, o + j, none⟩ := by
  by_cases h : j = 0
  · subst h; simp [Addr.add]
  · simp [Addr.add, h]

/-- What was there and lies outside F is as it was. -/
structure Kept (F : Nat → Prop) (w w' : World) : Prop where
  os : w'.os = w.os
  tape : w'.tape = w.tape
  output : w'.output = w.output
  size : w.heap.size ≤ w'.heap.size
  block : ∀ k, k < w.heap.size → ¬ F k → w'.heap[k]? = w.heap[k]?

/-- F, or new since w -/
def Or' (F : Nat → Prop) (w : World) (k : Nat) : Prop := F k ∨ w.heap.size ≤ k
def No : Nat → Prop := fun _ => False
def Two (F G : Nat → Prop) : Nat → Prop := fun k => F k ∨ G k

namespace Kept
variable {F G : Nat → Prop} {a b c w w' : World}
theorem refl (F : Nat → Prop) (w : World) : Kept F w w := ⟨rfl, rfl, rfl, Nat.le_refl _, fun _ _ _ => rfl⟩
theorem trans (h : Kept F a b) (k : Kept G b c) (hG : ∀ k, G k → F k ∨ a.heap.size ≤ k) : Kept F a c :=
  ⟨k.os.trans h.os, k.tape.trans h.tape, k.output.trans h.output, Nat.le_trans h.size k.size, fun i hi hF =>
    (k.block i (Nat.lt_of_lt_of_le hi h.size) (fun hg => by rcases hG i hg with h1 | h1; exact hF h1; omega)).trans (h.block i hi hF)⟩
theorem mono (h : Kept F a b) (hF : ∀ k, F k → G k) : Kept G a b := ⟨h.os, h.tape, h.output, h.size, fun i hi hG => h.block i hi (fun h => hG (hF i h))⟩
theorem of_below (h : Below w.heap.size w w') : Kept F w w' := ⟨h.os, h.tape, h.output, h.size, fun k hk _ => h.block k hk⟩
theorem of_belowN {B : Nat} (h : Below B w w') (hF : ∀ k, B ≤ k → k < w.heap.size → F k) : Kept F w w' :=
  ⟨h.os, h.tape, h.output, h.size, fun k hk hn => h.block k (Nat.lt_of_not_le fun hB => hn (hF k hB hk))⟩
theorem below (h : Kept F w w') {B : Nat} (hF : ∀ k, F k → B ≤ k) (hB : B ≤ w.heap.size) : Below B w w' :=
  ⟨h.os, h.tape, h.output, h.size, fun k hk => h.block k (by omega) (fun hf => by have := hF k hf; omega)⟩
theorem below0 (h : Kept No w w') : Below w.heap.size w w' := h.below (fun _ h => h.elim) (Nat.le_refl _)
theorem alloc (h : Kept F a w) (o : Obj) : Kept F a (w.alloc o) :=
  ⟨h.os, h.tape, h.output, by have := h.size; simp; omega, fun k hk hF => (Below.heap_alloc _ _ _ (by have := h.size; omega)).trans (h.block k hk hF)⟩
theorem setCell (h : Kept F a w) {p : Addr} (hp : F p.block ∨ a.heap.size ≤ p.block) (u : Value) : Kept F a (w.setCell p u) :=
  ⟨h.os, h.tape, h.output, by have := h.size; simpa [World.setCell] using this, fun k hk hF => (Below.heap_setCell _ _ _ _ (fun e => by subst e; rcases hp with h1 | h1; exact hF h1; omega)).trans (h.block k hk hF)⟩
theorem drewN (h : Kept F a w) (n : Nat) : Kept F a (w.drewN n) := ⟨h.os, h.tape, h.output, h.size, h.block⟩
theorem drew (h : Kept F a w) : Kept F a w.drew := ⟨h.os, h.tape, h.output, h.size, h.block⟩
theorem grown {row : Option Nat} (h : Kept F a w) (hg : w.grownBy w' row) (hr : ∀ k, row = some k → F k ∨ a.heap.size ≤ k) : Kept F a w' :=
  h.trans (G := fun k => row = some k) ⟨hg.os, hg.tape, hg.output, hg.size, fun k hk hn => hg.block k hk (fun e => hn e.symm)⟩ hr
theorem at' (h : Kept F w w') {k : Nat} {o : Obj} (ho : w.heap[k]? = some o) (hF : ¬ F k) : w'.heap[k]? = some o := (h.block k (heap_lt ho) hF).trans ho
theorem cell (h : Kept F w w') {p : Addr} {v : Value} (hv : w.cell? p = some v) (hF : ¬ F p.block) : w'.cell? p = some v :=
  (World.cell?_of_block (h.block _ (cell_lt hv) hF)).trans hv
theorem owns (h : Kept F w w') {base : Nat} {e : TypeId} {size : Nat} {v : Value} {n : Nat} {xs : List Value} (ho : w.ownsRow base e size v n xs) (hF : ∀ g, v.ownBlock = some g → ¬ F g) : w'.ownsRow base e size v n xs := by
  refine ⟨ho.1, ?_⟩
  rcases ho.2 with h1 | ⟨g, cap, cur, hv, hb, hg, r⟩
  · exact .inl h1
  · exact .inr ⟨g, cap, cur, hv, hb, h.at' hg (hF g (by rw [hv]; rfl)), r⟩
end Kept

/-- an owned row, its cells by index -/
theorem owns_cells {w : World} {base : Nat} {e : TypeId} {v : Value} {n : Nat} {xs : List Value} (h : w.ownsRow base e 1 v n xs) :
    (v = .slice none 0 0 ∧ n = 0) ∨ ∃ g cap, v = .slice (some ⟨g, 0, none⟩) n cap ∧ base ≤ g ∧ g < w.heap.size ∧ n ≤ cap ∧ cap ≤ maxLen ∧ (∀ i u, xs[i]? = some u → w.cell? ⟨g, i, none⟩ = some u) ∧ ∀ i, w.frozen? ⟨g, i, none⟩ = false := by
  have hc := h
  obtain ⟨_, h1 | ⟨g, cap, cur, rfl, hb, hg, hn, hm, _, _⟩⟩ := h
  · exact .inl h1
  · refine .inr ⟨g, cap, rfl, hb, ?_, hn, hm, ?_, ?_⟩
    · exact (hc.lt g rfl).2
    · intro i u hu
      have := hc.cells (g := g) rfl i u hu
      rw [add_none, Nat.zero_add] at this
      exact this
    · intro i; simp [World.frozen?, hg]

/-- a slice of ints -/
structure Zs (w : World) (F : Nat → Prop) (a : Option Addr) (n c : Nat) (xs : List Int) : Prop where
  len : xs.length = n
  cap : n ≤ c
  max : c ≤ 9223372036854775807
  nil : a = none → c = 0
  at' : ∀ i, i < n → ∃ b o, a = some ⟨b, o, none⟩ ∧ F b ∧ w.cell? ⟨b, o + i, none⟩ = some (iv (xs.getD i 0))
theorem Zs.kept {w w' : World} {F G : Nat → Prop} {a : Option Addr} {n c : Nat} {xs : List Int} (h : Zs w F a n c xs) (k : Kept G w w') (hd : ∀ b, F b → ¬ G b) : Zs w' F a n c xs :=
  ⟨h.len, h.cap, h.max, h.nil, fun i hi => by obtain ⟨b, o, e, hb, hc⟩ := h.at' i hi; exact ⟨b, o, e, hb, k.cell hc (hd b hb)⟩⟩
theorem Zs.of_owns {w : World} {base : Nat} {e : TypeId} {v : Value} {xs : List Int} (h : w.ownsRow base e 1 v xs.length (xs.map iv)) :
    ∃ a c, v = .slice a xs.length c ∧ Zs w (fun g => v.ownBlock = some g) a xs.length c xs := by
  rcases owns_cells h with ⟨rfl, h0⟩ | ⟨g, cap, rfl, hb, hg, hn, hm, hc, hf⟩
  · refine ⟨none, 0, by rw [h0], ⟨rfl, by omega, by omega, fun _ => rfl, fun i hi => by omega⟩⟩
  · refine ⟨_, cap, rfl, ⟨rfl, hn, hm, fun h => (by cases h), fun i hi => ⟨g, 0, rfl, rfl, ?_⟩⟩⟩
    rw [Nat.zero_add]
    exact hc i _ (iv_get hi)

theorem Zs.news {w : World} {F : Nat → Prop} {n c : Nat} {xs : List Int} {ad : Addr} (h : Zs w F (some ad) n c xs) : ∀ j u, (xs.map iv)[j]? = some u → w.cell? (ad.add j) = some u := by
  intro j u hj
  by_cases hl : j < n
  · rw [iv_get (by rw [h.len]; exact hl)] at hj
    obtain ⟨b, o, e, _, hc⟩ := h.at' j hl
    simp only [Option.some.injEq] at e
    subst e
    rw [add_none, hc]; exact hj
  · have : (xs.map iv)[j]? = none := by simp [h.len]; omega
    rw [this] at hj; cases hj
theorem Zs.drewN {w : World} {F : Nat → Prop} {a : Option Addr} {n c : Nat} {xs : List Int} (h : Zs w F a n c xs) (k : Nat) : Zs (w.drewN k) F a n c xs :=
  h.kept ((Kept.refl No w).drewN k) (fun _ _ h => h)
theorem owns_seti {w : World} {B g i : Nat} {v : Value} {n : Nat} {ys : List Int} (h : w.ownsRow B 2 1 v n (ys.map iv)) (hg : v.ownBlock = some g) (hi : i < ys.length) (x : Int) : (w.setCell ⟨g, i, none⟩ (iv x)).ownsRow B 2 1 v n ((ys.set i x).map iv) := by
  obtain ⟨hl, ⟨rfl, h0⟩ | ⟨g', cap, cur, rfl, hb, hgg, hn, hm, hs, ht⟩⟩ := h
  · simp [Value.ownBlock] at hg
  · simp [Value.ownBlock] at hg
    subst hg
    refine ⟨by simpa using hl, .inr ⟨g', cap, cur.setIfInBounds i (iv x), rfl, hb, ?_, hn, hm, by rw [Array.size_setIfInBounds]; exact hs, ?_⟩⟩
    · simp [World.setCell, Array.getElem?_modify, hgg]
    · rw [Array.toList_setIfInBounds, List.take_set, ht, List.map_set]
theorem owns_ati {w : World} {B g i : Nat} {v : Value} {n : Nat} {ys : List Int} (h : w.ownsRow B 2 1 v n (ys.map iv)) (hg : v.ownBlock = some g) (hi : i < ys.length) : w.cell? ⟨g, i, none⟩ = some (iv (ys.getD i 0)) ∧ w.frozen? ⟨g, i, none⟩ = false := by
  rcases owns_cells h with ⟨rfl, _⟩ | ⟨g', cap, rfl, _, _, _, _, hc, hf⟩
  · simp [Value.ownBlock] at hg
  · simp [Value.ownBlock] at hg
    subst hg
    exact ⟨hc i _ (iv_get hi), hf i⟩

theorem Zs.mono {w : World} {F G : Nat → Prop} {a : Option Addr} {n c : Nat} {xs : List Int} (h : Zs w F a n c xs) (hF : ∀ k, F k → G k) : Zs w G a n c xs :=
  ⟨h.len, h.cap, h.max, h.nil, fun i hi => by obtain ⟨b, o, e, hb, hc⟩ := h.at' i hi; exact ⟨b, o, e, hF b hb, hc⟩⟩

/-- a piece of a slice of words -/
theorem Zs.piece {w : World} {F : Nat → Prop} {a : Option Addr} {n c : Nat} {xs : List Int} (h : Zs w F a n c xs) (d m k : Nat) (hd : d + m ≤ n) (hk : m ≤ k) (hk2 : k ≤ 9223372036854775807) (a' : Option Addr) (ha : 0 < m → a' = a.map (·.add d)) (hn : a' = none → k = 0) : Zs w F a' m k ((xs.drop d).take m) := by
  refine ⟨by simp [h.len]; omega, hk, hk2, hn, fun i hi => ?_⟩
  obtain ⟨b, o, rfl, hb, hc⟩ := h.at' (d + i) (by omega)
  refine ⟨b, o + d, by rw [ha (by omega)]; simp [add_none], hb, ?_⟩
  rw [Nat.add_assoc, hc]
  have := h.len
  simp [List.getD, hi, List.getElem?_drop]

/-- a memory: its words, and what lies in its spare room -/
def Mm (w : World) (B : Nat) (v : Value) (xs ys : List Int) : Prop :=
  (v = .slice none 0 0 ∧ xs = [] ∧ ys = []) ∨ ∃ g cap, v = .slice (some ⟨g, 0, none⟩) xs.length cap ∧ w.ownsRow B 2 1 (.slice (some ⟨g, 0, none⟩) (xs.length + ys.length) cap) (xs.length + ys.length) ((xs ++ ys).map iv)

namespace Mm
variable {w w' : World} {B : Nat} {v : Value} {xs ys : List Int} {G : Nat → Prop}
theorem kept (h : Mm w B v xs ys) (k : Kept G w w') (hd : ∀ g, v.ownBlock = some g → ¬ G g) : Mm w' B v xs ys := by
  rcases h with h | ⟨g, cap, rfl, ho⟩
  · exact .inl h
  · exact .inr ⟨g, cap, rfl, k.owns ho (fun g' hg => hd g' (by simpa [Value.ownBlock] using hg))⟩
theorem of_owns (h : w.ownsRow B 2 1 v xs.length (xs.map iv)) : Mm w B v xs [] := by
  have h0 := h
  obtain ⟨hl, ⟨rfl, h1⟩ | ⟨g, cap, cur, rfl, r⟩⟩ := h
  · exact .inl ⟨rfl, List.eq_nil_of_length_eq_zero h1, rfl⟩
  · exact .inr ⟨g, cap, rfl, by simpa using h0⟩
theorem zs (h : Mm w B v xs ys) : ∃ a c, v = .slice a xs.length c ∧ Zs w (fun k => v.ownBlock = some k) a xs.length c xs := by
  rcases h with ⟨rfl, rfl, rfl⟩ | ⟨g, cap, rfl, ho⟩
  · exact ⟨none, 0, rfl, ⟨rfl, by simp, by omega, fun _ => rfl, fun i hi => by simp at hi⟩⟩
  · refine ⟨some ⟨g, 0, none⟩, cap, rfl, ?_⟩
    rcases owns_cells ho with ⟨h0, _⟩ | ⟨g', cap', hv, _, _, hcap, hmax, hc, _⟩
    · cases h0
    · injection hv with h1 h2 h3
      injection h1 with h1
      injection h1 with h1 _ _
      subst h1 h3
      refine ⟨rfl, by omega, hmax, fun h => (by cases h), fun i hi => ⟨g, 0, rfl, rfl, ?_⟩⟩
      rw [Nat.zero_add]
      refine hc i _ ?_
      rw [List.map_append, List.getElem?_append_left (by rw [List.length_map]; omega), iv_get (by omega)]
theorem owns (h : Mm w B v xs []) : w.ownsRow B 2 1 v xs.length (xs.map iv) := by
  rcases h with ⟨rfl, rfl, _⟩ | ⟨g, cap, rfl, ho⟩
  · exact World.ownsRow_nil _ _ _ _
  · simpa using ho
theorem blk {g : Nat} (h : Mm w B v xs ys) (hg : v.ownBlock = some g) : ∃ cap cur, v = .slice (some ⟨g, 0, none⟩) xs.length cap ∧ w.heap[g]? = some (.cells cur 2 (0, 0)) ∧ B ≤ g ∧ xs.length + ys.length ≤ cap ∧ cap ≤ 9223372036854775807 ∧ cur.size = cap ∧ cur.toList.take (xs.length + ys.length) = (xs ++ ys).map iv := by
  rcases h with ⟨rfl, _⟩ | ⟨g', cap, rfl, ho⟩
  · simp [Value.ownBlock] at hg
  · simp [Value.ownBlock] at hg
    subst hg
    obtain ⟨hl, ⟨h0, _⟩ | ⟨g2, cap2, cur, hv, hb, hgg, hn, hm, hs, ht⟩⟩ := ho
    · cases h0
    · injection hv with h1 h2 h3
      injection h1 with h1
      injection h1 with h1 _ _
      subst h1 h3
      exact ⟨cap, cur, rfl, hgg, hb, hn, hm, by omega, by simpa using ht⟩
theorem mk' {g cap : Nat} {cur : Array Value} (hg : w.heap[g]? = some (.cells cur 2 (0, 0))) (hB : B ≤ g) (hn : xs.length + ys.length ≤ cap) (hm : cap ≤ 9223372036854775807) (hs : cur.size = cap) (ht : cur.toList.take (xs.length + ys.length) = (xs ++ ys).map iv) : Mm w B (.slice (some ⟨g, 0, none⟩) xs.length cap) xs ys :=
  .inr ⟨g, cap, rfl, by simp, .inr ⟨g, cap, cur, rfl, hB, hg, hn, hm, by omega, by simpa using ht⟩⟩
theorem fz {g : Nat} (h : Mm w B v xs ys) (hg : v.ownBlock = some g) (i : Nat) : w.frozen? ⟨g, i, none⟩ = false := by
  obtain ⟨cap, cur, _, hh, _⟩ := h.blk hg
  simp [World.frozen?, hh]
theorem at_ {g : Nat} (h : Mm w B v xs ys) (hg : v.ownBlock = some g) {i : Nat} (hi : i < xs.length) : w.cell? ⟨g, i, none⟩ = some (iv (xs.getD i 0)) := by
  obtain ⟨a, c, hv, hz⟩ := h.zs
  obtain ⟨b, o, ha, hb, hc⟩ := hz.at' i hi
  obtain ⟨cap, cur, hv2, _⟩ := h.blk hg
  rw [hv2] at hv
  injection hv with h1 _ _
  rw [ha] at h1
  injection h1 with h1
  injection h1 with h1 h2 _
  subst h1 h2
  rw [Nat.zero_add] at hc
  exact hc
theorem set_ {g : Nat} (h : Mm w B v xs ys) (hg : v.ownBlock = some g) {i : Nat} (hi : i < xs.length) (x : Int) : Mm (w.setCell ⟨g, i, none⟩ (iv x)) B v (xs.set i x) ys := by
  obtain ⟨cap, cur, rfl, hh, hb, hn, hm, hs, ht⟩ := h.blk hg
  have := mk' (w := w.setCell ⟨g, i, none⟩ (iv x)) (xs := xs.set i x) (ys := ys) (g := g) (cap := cap) (cur := cur.setIfInBounds i (iv x)) (B := B) (by simp [World.setCell, Array.getElem?_modify, hh]) hb (by simpa using hn) hm (by simpa using hs) (by
    rw [Array.toList_setIfInBounds, List.take_set, List.length_set, ht, List.map_append, List.map_append, List.map_set, List.set_append_left _ _ (by simpa using hi)])
  simpa using this
end Mm

end Go.Proofs.YtijeaonldhccmaaDoor
