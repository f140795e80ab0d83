/-
  A line where it lies.
-/
import Derived.Test.YteiakmjdjaodlaaRMap
import Derived.Deep.DeepCutAuto
import Derived.Deep.QuietTactic
import Derived.BigQuiet
import Derived.WalkSmall
import Derived.Carry
namespace Go.Proofs.Yteiakmjdjaodlaa
open Go.RowKit
set_option linter.unusedVariables false

def intOf : Value → Int
  | .int _ n => n
  | _ => 0
def En.v (x : En) : Value := .agg #[.int .i64 x.id, .int .i64 x.pr, .int .i64 x.pl]
def fc (x : En) : List Value := [.int .i64 x.id, .int .i64 x.pr, .int .i64 x.pl]
def fcL (xs : List En) : List Value := xs.flatMap fc
theorem fcL_cons (x : En) (xs : List En) : fcL (x :: xs) = fc x ++ fcL xs := rfl
theorem fcL_append (xs ys : List En) : fcL (xs ++ ys) = fcL xs ++ fcL ys := List.flatMap_append
theorem fcL_length : ∀ xs : List En, (fcL xs).length = xs.length * 3
  | [] => rfl
  | x :: xs => by rw [fcL_cons, List.length_append, fcL_length xs]; show 3 + _ = _; rw [List.length_cons]; omega
theorem fcL_one (xs : List En) : ∀ u ∈ fcL xs, u.oneCell' = true := by
  intro u hu
  unfold fcL at hu
  rw [List.mem_flatMap] at hu
  obtain ⟨x, _, hx⟩ := hu
  unfold fc at hx
  simp at hx
  rcases hx with rfl | rfl | rfl <;> rfl
theorem fcL_at : ∀ (xs : List En) (k : Nat) (x : En) (j : Nat) (u : Value), xs[k]? = some x → (fc x)[j]? = some u → (fcL xs)[k * 3 + j]? = some u
  | [], k, x, j, u, h, _ => by simp at h
  | y :: xs, 0, x, j, u, h, hj => by
    simp at h
    subst h
    have : j < 3 := by have := (List.getElem?_eq_some_iff.1 hj).1; exact this
    rw [fcL_cons, List.getElem?_append_left (by show _ < 3; omega), Nat.zero_mul, Nat.zero_add]
    exact hj
  | y :: xs, k + 1, x, j, u, h, hj => by
    rw [fcL_cons, List.getElem?_append_right (by show 3 ≤ _; omega)]
    show (fcL xs)[(k + 1) * 3 + j - 3]? = _
    rw [show (k + 1) * 3 + j - 3 = k * 3 + j by omega]
    exact fcL_at xs k x j u (by simpa using h) hj
theorem fcL_set : ∀ (xs : List En) (k : Nat) (x : En), k < xs.length → (((fcL xs).set (k * 3) (.int .i64 x.id)).set (k * 3 + 1) (.int .i64 x.pr)).set (k * 3 + 2) (.int .i64 x.pl) = fcL (xs.set k x)
  | [], k, x, h => by simp at h
  | y :: xs, 0, x, h => by simp [fcL_cons, fc]
  | y :: xs, k + 1, x, h => by
    have ih := fcL_set xs k x (by simpa using h)
    have e : ∀ t (l : List Value) v, (fc y ++ l).set ((k + 1) * 3 + t) v = fc y ++ l.set (k * 3 + t) v := by
      intro t l v
      rw [List.set_append_right _ _ (by show 3 ≤ _; omega)]
      congr 2
      show (k + 1) * 3 + t - 3 = _
      omega
    have e0 : ∀ (l : List Value) v, (fc y ++ l).set ((k + 1) * 3) v = fc y ++ l.set (k * 3) v := fun l v => e 0 l v
    rw [fcL_cons, e0, e 1, e 2, ih, List.set_cons_succ, fcL_cons]

/-- an own row of entries: its cells -/
theorem owns_cells3 {w : World} {base : Nat} {v : Value} {n : Nat} {xs : List En} (h : w.ownsRow base 57 3 v n (fcL xs)) :
    (v = .slice none 0 0 ∧ n = 0 ∧ xs = []) ∨ ∃ g cap, v = .slice (some ⟨g, 0, none⟩) n cap ∧ base ≤ g ∧ g < w.heap.size ∧ n ≤ cap ∧ cap ≤ 9223372036854775807 ∧ (∀ k x, xs[k]? = some x → w.cell? ⟨g, k * 3, none⟩ = some (.int .i64 x.id) ∧ w.cell? ⟨g, k * 3 + 1, none⟩ = some (.int .i64 x.pr) ∧ w.cell? ⟨g, k * 3 + 2, none⟩ = some (.int .i64 x.pl)) ∧ ∀ k, w.frozen? ⟨g, k, none⟩ = false := by
  have hc := h
  obtain ⟨hl, ⟨h1, h2⟩ | ⟨g, cap, cur, rfl, hb, hg, hn, hm, _, _⟩⟩ := h
  · refine .inl ⟨h1, h2, ?_⟩
    subst h2
    rw [fcL_length] at hl
    exact List.eq_nil_of_length_eq_zero (by omega)
  · refine .inr ⟨g, cap, rfl, hb, (hc.lt g rfl).2, hn, hm, ?_, ?_⟩
    · intro k x hk
      have c0 := hc.cells (g := g) rfl _ _ (fcL_at xs k x 0 _ hk rfl)
      have c1 := hc.cells (g := g) rfl _ _ (fcL_at xs k x 1 _ hk rfl)
      have c2 := hc.cells (g := g) rfl _ _ (fcL_at xs k x 2 _ hk rfl)
      rw [add_none, Nat.zero_add] at c0 c1 c2
      exact ⟨c0, c1, c2⟩
    · intro i; simp [World.frozen?, hg]
theorem owns_len3 {w : World} {base : Nat} {v : Value} {n : Nat} {xs : List En} (h : w.ownsRow base 57 3 v n (fcL xs)) : xs.length = n := by
  have := h.1
  rw [fcL_length] at this
  omega
theorem heap_setCell_eq {w : World} {g i : Nat} {cur : Array Value} {t : TypeId} {fr : Nat × Nat} (h : w.heap[g]? = some (.cells cur t fr)) (u : Value) : (w.setCell ⟨g, i, none⟩ u).heap[g]? = some (.cells (cur.setIfInBounds i u) t fr) := by
  simp [World.setCell, Array.getElem?_modify, h]
/-- an entry laid into a row -/
def put3 (w : World) (g k : Nat) (x : En) : World := ((w.setCell ⟨g, k * 3, none⟩ (.int .i64 x.id)).setCell ⟨g, k * 3 + 1, none⟩ (.int .i64 x.pr)).setCell ⟨g, k * 3 + 2, none⟩ (.int .i64 x.pl)
theorem owns_lay3 {w : World} {B g n cap k : Nat} {xs : List En} (h : w.ownsRow B 57 3 (.slice (some ⟨g, 0, none⟩) n cap) n (fcL xs)) (hk : k < xs.length) (x : En) : (put3 w g k x).ownsRow B 57 3 (.slice (some ⟨g, 0, none⟩) n cap) n (fcL (xs.set k x)) := by
  unfold put3
  obtain ⟨hl, ⟨h0, _⟩ | ⟨g', cap', cur, hv, hb, hg, hn, hm, hs, ht⟩⟩ := h
  · cases h0
  · injection hv with h1 h2 h3
    injection h1 with h1
    injection h1 with h1 _ _
    subst h1 h3
    refine ⟨by rw [fcL_length] at hl ⊢; rw [List.length_set]; exact hl, .inr ⟨g, cap, ((cur.setIfInBounds (k * 3) (.int .i64 x.id)).setIfInBounds (k * 3 + 1) (.int .i64 x.pr)).setIfInBounds (k * 3 + 2) (.int .i64 x.pl), rfl, hb, ?_, hn, hm, by simpa using hs, ?_⟩⟩
    · exact heap_setCell_eq (heap_setCell_eq (heap_setCell_eq hg _) _) _
    · simp only [Array.toList_setIfInBounds, List.take_set, ht]
      exact fcL_set xs k x hk
theorem put3_kept (w : World) (g k : Nat) (x : En) : Kept (fun j => j = g) w (put3 w g k x) := by
  unfold put3
  exact Kept.setCell (F := fun j => j = g) (p := ⟨g, k * 3 + 2, none⟩) (Kept.setCell (F := fun j => j = g) (p := ⟨g, k * 3 + 1, none⟩) (Kept.setCell (F := fun j => j = g) (p := ⟨g, k * 3, none⟩) (Kept.refl _ w) (.inl rfl) _) (.inl rfl) _) (.inl rfl) _
/-- the row cut to fewer -/
theorem owns_cut {w : World} {B g n cap m : Nat} {xs : List En} (h : w.ownsRow B 57 3 (.slice (some ⟨g, 0, none⟩) n cap) n (fcL xs)) (hm : m ≤ n) : w.ownsRow B 57 3 (.slice (some ⟨g, 0, none⟩) m cap) m (fcL (xs.take m)) := by
  have hxl := owns_len3 h
  obtain ⟨hl, ⟨h0, _⟩ | ⟨g', cap', cur, hv, hb, hg, hn, hmx, hs, ht⟩⟩ := h
  · cases h0
  · injection hv with h1 h2 h3
    injection h1 with h1
    injection h1 with h1 _ _
    subst h1 h3
    have e : (fcL xs).take (m * 3) = fcL (xs.take m) := by
      rw [← List.take_append_drop m xs, fcL_append, List.take_append_of_le_length (by rw [fcL_length, List.length_take]; omega), List.take_of_length_le (by rw [fcL_length, List.length_take]; omega)]
      rw [List.take_append_drop]
    refine ⟨by rw [fcL_length, List.length_take]; omega, .inr ⟨g, cap, cur, rfl, hb, hg, by omega, hmx, hs, ?_⟩⟩
    rw [← e, ← ht, List.take_take]
    congr 1
    omega

/-- a line: block b, its heap, its map -/
structure Ol (w : World) (b mb : Nat) (v : Value) (H : List En) (M : Int → Option Int) (c nx mo : Nat) : Prop where
  blk : ∃ cs, w.heap[b]? = some (.cells cs 52)
  heap : w.cell? ⟨b, 0, none⟩ = some v
  map : w.cell? ⟨b, 1, none⟩ = some (.map (some mb))
  next : w.cell? ⟨b, 2, none⟩ = some (.int .i64 nx)
  most : w.cell? ⟨b, 3, none⟩ = some (.int .i64 mo)
  row : w.ownsRow 0 57 3 v H.length (fcL H)
  tm : Tm w mb M c
  ne : mb ≠ b
  vb : v.ownBlock ≠ some b
  vm : v.ownBlock ≠ some mb
/-- its blocks -/
def Fp (b mb : Nat) (v : Value) (k : Nat) : Prop := k = b ∨ k = mb ∨ v.ownBlock = some k
theorem cell_other (w : World) (b k j : Nat) (u : Value) (h : j ≠ k) : (w.setCell ⟨b, k, none⟩ u).cell? ⟨b, j, none⟩ = w.cell? ⟨b, j, none⟩ := by
  refine World.cell?_setCell_other _ _ _ _ (fun e => ?_)
  injection e with _ e _
  exact h e.symm
namespace Ol
variable {w w' : World} {b mb c nx mo : Nat} {v : Value} {H : List En} {M : Int → Option Int}
theorem lt (h : Ol w b mb v H M c nx mo) : b < w.heap.size := by obtain ⟨cs, hb⟩ := h.blk; exact heap_lt hb
theorem fz (h : Ol w b mb v H M c nx mo) (k : Nat) : w.frozen? ⟨b, k, none⟩ = false := by obtain ⟨cs, hb⟩ := h.blk; simp [World.frozen?, hb]
theorem fp_lt (h : Ol w b mb v H M c nx mo) {k : Nat} (hk : Fp b mb v k) : k < w.heap.size := by
  rcases hk with rfl | rfl | hv
  · exact h.lt
  · exact h.tm.lt
  · exact (h.row.lt k hv).2
theorem kept {F : Nat → Prop} (h : Ol w b mb v H M c nx mo) (k : Kept F w w') (hF : ∀ j, Fp b mb v j → ¬ F j) : Ol w' b mb v H M c nx mo := by
  have hb : ¬ F b := hF b (.inl rfl)
  obtain ⟨cs, hbk⟩ := h.blk
  exact ⟨⟨cs, k.at' hbk hb⟩, k.cell h.heap hb, k.cell h.map hb, k.cell h.next hb, k.cell h.most hb, k.owns h.row (fun g hg => hF g (.inr (.inr hg))), h.tm.kept k (hF mb (.inr (.inl rfl))), h.ne, h.vb, h.vm⟩
theorem below (h : Ol w b mb v H M c nx mo) (k : Below w.heap.size w w') : Ol w' b mb v H M c nx mo := h.kept (Kept.of_below (F := No) k) (fun _ _ h => h)
theorem drewN (h : Ol w b mb v H M c nx mo) (q : Nat) : Ol (w.drewN q) b mb v H M c nx mo := h.below ⟨rfl, rfl, rfl, Nat.le_refl _, fun _ _ => rfl⟩
/-- the map turned -/
theorem turn (h : Ol w b mb v H M c nx mo) {c' : Nat} {M' : Int → Option Int} (k : Kept (fun j => j = mb) w w') (t : Tm w' mb M' c') : Ol w' b mb v H M' c' nx mo := by
  have hb : b ≠ mb := fun e => h.ne e.symm
  obtain ⟨cs, hbk⟩ := h.blk
  exact ⟨⟨cs, k.at' hbk hb⟩, k.cell h.heap hb, k.cell h.map hb, k.cell h.next hb, k.cell h.most hb, k.owns h.row (fun g hg e => h.vm (e ▸ hg)), t, h.ne, h.vb, h.vm⟩
/-- the row written -/
theorem setRow (h : Ol w b mb v H M c nx mo) {g : Nat} (hg : v.ownBlock = some g) {xs : List En} (kp : Kept (fun j => j = g) w w') (hv : w'.ownsRow 0 57 3 v xs.length (fcL xs)) : Ol w' b mb v xs M c nx mo := by
  have hgb : b ≠ g := fun e => h.vb (e ▸ hg)
  have hgm : mb ≠ g := fun e => h.vm (e ▸ hg)
  obtain ⟨cs, hbk⟩ := h.blk
  exact ⟨⟨cs, kp.at' hbk hgb⟩, kp.cell h.heap hgb, kp.cell h.map hgb, kp.cell h.next hgb, kp.cell h.most hgb, hv, h.tm.kept kp hgm, h.ne, h.vb, h.vm⟩
/-- another row in the heap's cell -/
theorem setHeap (h : Ol w b mb v H M c nx mo) {u : Value} {xs : List En} (hu : w.ownsRow 0 57 3 u xs.length (fcL xs)) (hb : u.ownBlock ≠ some b) (hm : u.ownBlock ≠ some mb) : Ol (w.setCell ⟨b, 0, none⟩ u) b mb u xs M c nx mo := by
  have kp : Kept (fun j => j = b) w (w.setCell ⟨b, 0, none⟩ u) := Kept.setCell (F := fun j => j = b) (p := ⟨b, 0, none⟩) (Kept.refl _ w) (.inl rfl) _
  obtain ⟨cs, hbk⟩ := h.blk
  exact ⟨⟨_, heap_setCell_eq hbk u⟩, World.cell?_setCell_same _ _ _ h.heap, (cell_other w b 0 1 _ (by omega)).trans h.map, (cell_other w b 0 2 _ (by omega)).trans h.next, (cell_other w b 0 3 _ (by omega)).trans h.most, kp.owns hu (fun g hg e => hb (e ▸ hg)), h.tm.kept kp h.ne, h.ne, hb, hm⟩
theorem setNext (h : Ol w b mb v H M c nx mo) (n' : Nat) : Ol (w.setCell ⟨b, 2, none⟩ (.int .i64 n')) b mb v H M c n' mo := by
  have kp : Kept (fun j => j = b) w (w.setCell ⟨b, 2, none⟩ (.int .i64 n')) := Kept.setCell (F := fun j => j = b) (p := ⟨b, 2, none⟩) (Kept.refl _ w) (.inl rfl) _
  obtain ⟨cs, hbk⟩ := h.blk
  exact ⟨⟨_, heap_setCell_eq hbk _⟩, (cell_other w b 2 0 _ (by omega)).trans h.heap, (cell_other w b 2 1 _ (by omega)).trans h.map, World.cell?_setCell_same _ _ _ h.next, (cell_other w b 2 3 _ (by omega)).trans h.most, kp.owns h.row (fun g hg e => h.vb (e ▸ hg)), h.tm.kept kp h.ne, h.ne, h.vb, h.vm⟩
/-- an entry read -/
theorem get (h : Ol w b mb v H M c nx mo) {k : Nat} (hk : k < H.length) : ∃ g cap, v = .slice (some ⟨g, 0, none⟩) H.length cap ∧ cap ≤ 9223372036854775807 ∧ H.length ≤ cap ∧ w.cell? ⟨g, k * 3, none⟩ = some (.int .i64 (hd H k).id) ∧ w.cell? ⟨g, k * 3 + 1, none⟩ = some (.int .i64 (hd H k).pr) ∧ w.cell? ⟨g, k * 3 + 2, none⟩ = some (.int .i64 (hd H k).pl) ∧ ∀ j, w.frozen? ⟨g, j, none⟩ = false := by
  rcases owns_cells3 h.row with ⟨_, e, _⟩ | ⟨g, cap, e, _, _, h1, h2, h3, h4⟩
  · omega
  · obtain ⟨c0, c1, c2⟩ := h3 k _ (hd_get hk)
    exact ⟨g, cap, e, h2, h1, c0, c1, c2, h4⟩
theorem form (h : Ol w b mb v H M c nx mo) : ∃ a cap, v = .slice a H.length cap ∧ H.length ≤ cap ∧ cap ≤ 9223372036854775807 := by
  rcases owns_cells3 h.row with ⟨h1, h2, _⟩ | ⟨g, cap, h1, _, _, h2, h3, _⟩
  · exact ⟨none, 0, by rw [h1, h2], by omega, by omega⟩
  · exact ⟨_, _, h1, h2, h3⟩
end Ol

end Go.Proofs.Yteiakmjdjaodlaa
