/-
  A wheel where it lies.
-/
import Derived.Test.YtffgcijicmfmlaaGreatDoorWMap
import Derived.Test.YtffgcijicmfmlaaGreatDoorLev
namespace Go.Proofs.YtffgcijicmfmlaaGreatDoor
open Go.RowKit
set_option linter.unusedVariables false

/-- a timer: its tick, its number -/
structure Fi where
  t : Int
  i : Int
deriving DecidableEq
def Fi.v (x : Fi) : Value := .agg #[.int .i64 x.t, .int .i64 x.i]
def fc (x : Fi) : List Value := [.int .i64 x.t, .int .i64 x.i]
def fcL (xs : List Fi) : List Value := xs.flatMap fc
theorem fcL_cons (x : Fi) (xs : List Fi) : fcL (x :: xs) = fc x ++ fcL xs := rfl
theorem fcL_append (xs ys : List Fi) : fcL (xs ++ ys) = fcL xs ++ fcL ys := List.flatMap_append
theorem fcL_length : ∀ xs : List Fi, (fcL xs).length = xs.length * 2
  | [] => rfl
  | x :: xs => by rw [fcL_cons, List.length_append, fcL_length xs]; show 2 + _ = _; rw [List.length_cons]; omega
theorem fcL_one (xs : List Fi) : ∀ u ∈ fcL xs, u.oneCell' = true := by
  intro u hu
  unfold fcL at hu
  rw [List.mem_flatMap] at hu
  obtain ⟨x, _, hx⟩ := hu
  unfold fc at hx
  simp at hx
  rcases hx with rfl | rfl <;> rfl
theorem fcL_at0 : ∀ (xs : List Fi) (k : Nat) (x : Fi), xs[k]? = some x → (fcL xs)[k * 2]? = some (.int .i64 x.t)
  | [], k, x, h => by simp at h
  | y :: xs, 0, x, h => by simp at h; subst h; rfl
  | y :: xs, k + 1, x, h => by
    rw [fcL_cons, List.getElem?_append_right (by show 2 ≤ _; omega)]
    show (fcL xs)[(k + 1) * 2 - 2]? = _
    rw [show (k + 1) * 2 - 2 = k * 2 by omega]
    exact fcL_at0 xs k x (by simpa using h)
theorem fcL_at1 : ∀ (xs : List Fi) (k : Nat) (x : Fi), xs[k]? = some x → (fcL xs)[k * 2 + 1]? = some (.int .i64 x.i)
  | [], k, x, h => by simp at h
  | y :: xs, 0, x, h => by simp at h; subst h; rfl
  | y :: xs, k + 1, x, h => by
    rw [fcL_cons, List.getElem?_append_right (by show 2 ≤ _; omega)]
    show (fcL xs)[(k + 1) * 2 + 1 - 2]? = _
    rw [show (k + 1) * 2 + 1 - 2 = k * 2 + 1 by omega]
    exact fcL_at1 xs k x (by simpa using h)
theorem fcL_set : ∀ (xs : List Fi) (k : Nat) (x : Fi), k < xs.length → ((fcL xs).set (k * 2) (.int .i64 x.t)).set (k * 2 + 1) (.int .i64 x.i) = fcL (xs.set k x)
  | [], k, x, h => by simp at h
  | y :: xs, 0, x, h => by simp [fcL_cons, fc]
  | y :: xs, k + 1, x, h => by
    have ih := fcL_set xs k x (by simpa using h)
    have e : ∀ t (l : List Value) v, (fc y ++ l).set ((k + 1) * 2 + t) v = fc y ++ l.set (k * 2 + t) v := by
      intro t l v
      rw [List.set_append_right _ _ (by show 2 ≤ _; omega)]
      congr 2
      show (k + 1) * 2 + t - 2 = _
      omega
    have e0 : ∀ (l : List Value) v, (fc y ++ l).set ((k + 1) * 2) v = fc y ++ l.set (k * 2) v := fun l v => e 0 l v
    rw [fcL_cons, e0, e 1, ih, List.set_cons_succ, fcL_cons]

/-- an own row of timers: its cells -/
theorem owns_cells2 {w : World} {base : Nat} {v : Value} {n : Nat} {xs : List Fi} (h : w.ownsRow base 98 2 v n (fcL xs)) :
    (v = .slice none 0 0 ∧ n = 0 ∧ xs = []) ∨ ∃ g cap, v = .slice (some ⟨g, 0, none⟩) n cap ∧ base ≤ g ∧ g < w.heap.size ∧ n ≤ cap ∧ cap ≤ 9223372036854775807 ∧ (∀ k x, xs[k]? = some x → w.cell? ⟨g, k * 2, none⟩ = some (.int .i64 x.t) ∧ w.cell? ⟨g, k * 2 + 1, none⟩ = some (.int .i64 x.i)) ∧ ∀ k, w.frozen? ⟨g, k, none⟩ = false := by
  have hc := h
  obtain ⟨hl, ⟨h1, h2⟩ | ⟨g, cap, cur, rfl, hb, hg, hn, hm, _, _⟩⟩ := h
  · refine .inl ⟨h1, h2, ?_⟩
    subst h2
    rw [fcL_length] at hl
    exact List.eq_nil_of_length_eq_zero (by omega)
  · refine .inr ⟨g, cap, rfl, hb, (hc.lt g rfl).2, hn, hm, ?_, ?_⟩
    · intro k x hk
      have c0 := hc.cells (g := g) rfl _ _ (fcL_at0 xs k x hk)
      have c1 := hc.cells (g := g) rfl _ _ (fcL_at1 xs k x hk)
      rw [add_none, Nat.zero_add] at c0 c1
      exact ⟨c0, c1⟩
    · intro i; simp [World.frozen?, hg]
theorem owns_len2 {w : World} {base : Nat} {v : Value} {n : Nat} {xs : List Fi} (h : w.ownsRow base 98 2 v n (fcL xs)) : xs.length = n := by
  have := h.1
  rw [fcL_length] at this
  omega
theorem heap_setCell_eq {w : World} {g i : Nat} {cur : Array Value} {t : TypeId} {fr : Nat × Nat} (h : w.heap[g]? = some (.cells cur t fr)) (u : Value) : (w.setCell ⟨g, i, none⟩ u).heap[g]? = some (.cells (cur.setIfInBounds i u) t fr) := by
  simp [World.setCell, Array.getElem?_modify, h]
/-- a timer laid into a row -/
theorem owns_lay2 {w : World} {B g n cap k : Nat} {xs : List Fi} (h : w.ownsRow B 98 2 (.slice (some ⟨g, 0, none⟩) n cap) n (fcL xs)) (hk : k < xs.length) (x : Fi) : ((w.setCell ⟨g, k * 2, none⟩ (.int .i64 x.t)).setCell ⟨g, k * 2 + 1, none⟩ (.int .i64 x.i)).ownsRow B 98 2 (.slice (some ⟨g, 0, none⟩) n cap) n (fcL (xs.set k x)) := by
  obtain ⟨hl, ⟨h0, _⟩ | ⟨g', cap', cur, hv, hb, hg, hn, hm, hs, ht⟩⟩ := h
  · cases h0
  · injection hv with h1 h2 h3
    injection h1 with h1
    injection h1 with h1 _ _
    subst h1 h3
    refine ⟨by rw [fcL_length] at hl ⊢; rw [List.length_set]; exact hl, .inr ⟨g, cap, (cur.setIfInBounds (k * 2) (.int .i64 x.t)).setIfInBounds (k * 2 + 1) (.int .i64 x.i), rfl, hb, ?_, hn, hm, by simpa using hs, ?_⟩⟩
    · exact heap_setCell_eq (heap_setCell_eq hg _) _
    · simp only [Array.toList_setIfInBounds, List.take_set, ht]
      exact fcL_set xs k x hk
/-- the row cut to fewer -/
theorem owns_cut {w : World} {B g n cap m : Nat} {xs : List Fi} (h : w.ownsRow B 98 2 (.slice (some ⟨g, 0, none⟩) n cap) n (fcL xs)) (hm : m ≤ n) : w.ownsRow B 98 2 (.slice (some ⟨g, 0, none⟩) m cap) m (fcL (xs.take m)) := by
  have hxl := owns_len2 h
  obtain ⟨hl, ⟨h0, _⟩ | ⟨g', cap', cur, hv, hb, hg, hn, hmx, hs, ht⟩⟩ := h
  · cases h0
  · injection hv with h1 h2 h3
    injection h1 with h1
    injection h1 with h1 _ _
    subst h1 h3
    have e : (fcL xs).take (m * 2) = fcL (xs.take m) := by
      rw [← List.take_append_drop m xs, fcL_append, List.take_append_of_le_length (by rw [fcL_length, List.length_take]; omega), List.take_of_length_le (by rw [fcL_length, List.length_take]; omega)]
      rw [List.take_append_drop]
    refine ⟨by rw [fcL_length, List.length_take]; omega, .inr ⟨g, cap, cur, rfl, hb, hg, by omega, hmx, hs, ?_⟩⟩
    rw [← e, ← ht, List.take_take]
    congr 1
    omega

/-- a wheel: block b, its map mb, where it stands, the map, the slots -/
structure Wl (w : World) (b mb n c : Nat) (M : Int → Option (Int × Int)) (S : Nat → List Fi) (V : Nat → Value) : Prop where
  blk : ∃ cs, w.heap[b]? = some (.cells cs 96)
  now : w.cell? ⟨b, 0, none⟩ = some (.int .i64 n)
  map : w.cell? ⟨b, 1, none⟩ = some (.map (some mb))
  slot : ∀ k, k < 448 → w.cell? ⟨b, 2 + k, none⟩ = some (V k)
  row : ∀ k, k < 448 → w.ownsRow 0 98 2 (V k) (S k).length (fcL (S k))
  tm : Tm w mb M c
  ne : mb ≠ b
  rb : ∀ k, k < 448 → (V k).ownBlock ≠ some b ∧ (V k).ownBlock ≠ some mb
  rr : ∀ k j, k < 448 → j < 448 → k ≠ j → ∀ g, (V k).ownBlock = some g → (V j).ownBlock ≠ some g
/-- its blocks -/
def Fp (b mb : Nat) (V : Nat → Value) (k : Nat) : Prop := k = b ∨ k = mb ∨ ∃ j, j < 448 ∧ (V j).ownBlock = some k
/-- a function turned at one place -/
def updN {α : Type} (f : Nat → α) (k : Nat) (v : α) : Nat → α := fun j => if j = k then v else f j
theorem updN_same {α : Type} (f : Nat → α) (k : Nat) (v : α) : updN f k v k = v := if_pos rfl
theorem updN_ne {α : Type} (f : Nat → α) {k j : Nat} (v : α) (h : j ≠ k) : updN f k v j = f j := if_neg h
namespace Wl
variable {w w' : World} {b mb n c : Nat} {M : Int → Option (Int × Int)} {S : Nat → List Fi} {V : Nat → Value}
theorem lt (h : Wl w b mb n c M S V) : b < w.heap.size := by obtain ⟨cs, hb⟩ := h.blk; exact heap_lt hb
theorem fz (h : Wl w b mb n c M S V) (k : Nat) : w.frozen? ⟨b, k, none⟩ = false := by obtain ⟨cs, hb⟩ := h.blk; simp [World.frozen?, hb]
theorem fp_lt (h : Wl w b mb n c M S V) {k : Nat} (hk : Fp b mb V k) : k < w.heap.size := by
  rcases hk with rfl | rfl | ⟨j, hj, hv⟩
  · exact h.lt
  · exact h.tm.lt
  · exact ((h.row j hj).lt k hv).2
theorem kept {F : Nat → Prop} (h : Wl w b mb n c M S V) (k : Kept F w w') (hF : ∀ j, Fp b mb V j → ¬ F j) : Wl w' b mb n c M S V := by
  have hb : ¬ F b := hF b (.inl rfl)
  obtain ⟨cs, hbk⟩ := h.blk
  exact ⟨⟨cs, k.at' hbk hb⟩, k.cell h.now hb, k.cell h.map hb, fun j hj => k.cell (h.slot j hj) hb, fun j hj => k.owns (h.row j hj) (fun g hg => hF g (.inr (.inr ⟨j, hj, hg⟩))), h.tm.kept k (hF mb (.inr (.inl rfl))), h.ne, h.rb, h.rr⟩
theorem below (h : Wl w b mb n c M S V) (k : Below w.heap.size w w') : Wl w' b mb n c M S V := h.kept (Kept.of_below (F := No) k) (fun _ _ h => h)
/-- the map turned -/
theorem turn (h : Wl w b mb n c M S V) {c' : Nat} {M' : Int → Option (Int × Int)} (k : Kept (fun j => j = mb) w w') (t : Tm w' mb M' c') : Wl w' b mb n c' M' S V := by
  have hb : b ≠ mb := fun e => h.ne e.symm
  obtain ⟨cs, hbk⟩ := h.blk
  exact ⟨⟨cs, k.at' hbk hb⟩, k.cell h.now hb, k.cell h.map hb, fun j hj => k.cell (h.slot j hj) hb, fun j hj => k.owns (h.row j hj) (fun g hg e => (h.rb j hj).2 (e ▸ hg)), t, h.ne, h.rb, h.rr⟩
theorem cell_other (w : World) (b k j : Nat) (u : Value) (h : j ≠ k) : (w.setCell ⟨b, k, none⟩ u).cell? ⟨b, j, none⟩ = w.cell? ⟨b, j, none⟩ := by
  refine World.cell?_setCell_other _ _ _ _ (fun e => ?_)
  injection e with _ e _
  exact h e.symm
/-- a slot holds another row -/
theorem setSlot (h : Wl w b mb n c M S V) {k : Nat} (hk : k < 448) {v : Value} {xs : List Fi} (hv : w.ownsRow 0 98 2 v xs.length (fcL xs)) (hb : v.ownBlock ≠ some b ∧ v.ownBlock ≠ some mb) (hr : ∀ j, j < 448 → j ≠ k → ∀ g, v.ownBlock = some g → (V j).ownBlock ≠ some g) :
    Wl (w.setCell ⟨b, 2 + k, none⟩ v) b mb n c M (updN S k xs) (updN V k v) := by
  have kp : Kept (fun j => j = b) w (w.setCell ⟨b, 2 + k, none⟩ v) := Kept.setCell (F := fun j => j = b) (p := ⟨b, 2 + k, none⟩) (Kept.refl _ w) (.inl rfl) _
  obtain ⟨cs, hbk⟩ := h.blk
  refine ⟨⟨_, heap_setCell_eq hbk v⟩, (cell_other w b (2 + k) 0 v (by omega)).trans h.now, (cell_other w b (2 + k) 1 v (by omega)).trans h.map, fun j hj => ?_, fun j hj => ?_, h.tm.kept kp h.ne, h.ne, fun j hj => ?_, fun i j hi hj hij g => ?_⟩
  · by_cases e : j = k
    · subst e
      rw [updN_same]
      exact World.cell?_setCell_same _ _ _ (h.slot j hj)
    · rw [updN_ne _ _ e]
      exact (cell_other w b (2 + k) (2 + j) v (by omega)).trans (h.slot j hj)
  · by_cases e : j = k
    · subst e
      rw [updN_same, updN_same]
      exact kp.owns hv (fun g hg e => hb.1 (e ▸ hg))
    · rw [updN_ne _ _ e, updN_ne _ _ e]
      exact kp.owns (h.row j hj) (fun g hg e => (h.rb j hj).1 (e ▸ hg))
  · by_cases e : j = k
    · subst e; rw [updN_same]; exact hb
    · rw [updN_ne _ _ e]; exact h.rb j hj
  · by_cases ei : i = k
    · subst ei
      rw [updN_same, updN_ne _ _ (fun e => hij e.symm)]
      exact hr j hj (fun e => hij e.symm) g
    · by_cases ej : j = k
      · subst ej
        rw [updN_same, updN_ne _ _ ei]
        intro h1 h2
        exact hr i hi ei g h2 h1
      · rw [updN_ne _ _ ei, updN_ne _ _ ej]
        exact h.rr i j hi hj hij g
/-- the wheel stands elsewhere -/
theorem setNow (h : Wl w b mb n c M S V) (m : Nat) : Wl (w.setCell ⟨b, 0, none⟩ (.int .i64 m)) b mb m c M S V := by
  have kp : Kept (fun j => j = b) w (w.setCell ⟨b, 0, none⟩ (.int .i64 m)) := Kept.setCell (F := fun j => j = b) (p := ⟨b, 0, none⟩) (Kept.refl _ w) (.inl rfl) _
  obtain ⟨cs, hbk⟩ := h.blk
  exact ⟨⟨_, heap_setCell_eq hbk _⟩, World.cell?_setCell_same _ _ _ h.now, (cell_other w b 0 1 _ (by omega)).trans h.map, fun j hj => (cell_other w b 0 (2 + j) _ (by omega)).trans (h.slot j hj), fun j hj => kp.owns (h.row j hj) (fun g hg e => (h.rb j hj).1 (e ▸ hg)), h.tm.kept kp h.ne, h.ne, h.rb, h.rr⟩
/-- a row of a slot is written -/
theorem setRow (h : Wl w b mb n c M S V) {k g : Nat} (hk : k < 448) (hg : (V k).ownBlock = some g) {xs : List Fi} (kp : Kept (fun j => j = g) w w') (hv : w'.ownsRow 0 98 2 (V k) xs.length (fcL xs)) : Wl w' b mb n c M (updN S k xs) V := by
  have hgb : b ≠ g := fun e => (h.rb k hk).1 (e ▸ hg)
  have hgm : mb ≠ g := fun e => (h.rb k hk).2 (e ▸ hg)
  obtain ⟨cs, hbk⟩ := h.blk
  refine ⟨⟨cs, kp.at' hbk hgb⟩, kp.cell h.now hgb, kp.cell h.map hgb, fun j hj => kp.cell (h.slot j hj) hgb, fun j hj => ?_, h.tm.kept kp hgm, h.ne, h.rb, h.rr⟩
  by_cases e : j = k
  · subst e; rw [updN_same]; exact hv
  · rw [updN_ne _ _ e]
    exact kp.owns (h.row j hj) (fun g' hg' e' => by subst e'; exact h.rr k j hk hj (fun e2 => e e2.symm) _ hg hg')
end Wl

end Go.Proofs.YtffgcijicmfmlaaGreatDoor
