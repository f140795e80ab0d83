/-
  Ticks as slots, neighbours unlike (plain: no dump).
-/
import Derived.Test.YtkjnhhoniodbcaaGreatDoorOMath
namespace Go.Proofs.YtkjnhhoniodbcaaGreatDoor
namespace Rule
set_option linter.unusedVariables false
set_option linter.unusedSimpArgs false

/-- a slot at the end of a list: its length, its occupant -/
def joinL (L : List (Nat × Nat)) (x : Nat × Nat) : List (Nat × Nat) :=
  match L.getLast? with
  | some y => if y.2 = x.2 then L.dropLast ++ [(y.1 + x.1, x.2)] else L ++ [x]
  | none => [x]
theorem joinL_nil (x : Nat × Nat) : joinL [] x = [x] := rfl
theorem joinL_snoc (L : List (Nat × Nat)) (y x : Nat × Nat) : joinL (L ++ [y]) x = if y.2 = x.2 then L ++ [(y.1 + x.1, x.2)] else L ++ [y] ++ [x] := by
  unfold joinL
  simp only [List.getLast?_append, List.getLast?_singleton, Option.or_some, List.dropLast_concat]
  simp
theorem joinL_two (L : List (Nat × Nat)) (a b p : Nat) : joinL (joinL L (a, p)) (b, p) = joinL L (a + b, p) := by
  rcases List.eq_nil_or_concat L with rfl | ⟨K, y, rfl⟩
  · rw [joinL_nil, joinL_nil]
    show joinL ([] ++ [(a, p)]) (b, p) = _
    rw [joinL_snoc, if_pos rfl]; rfl
  · rw [List.concat_eq_append, joinL_snoc, joinL_snoc]
    by_cases h : y.2 = p
    · rw [if_pos h, if_pos h, joinL_snoc, if_pos rfl, Nat.add_assoc]
    · rw [if_neg h, if_neg h, joinL_snoc, if_pos rfl]

/-- the ticks from a on, m of them, as slots -/
def runsOf (f : Nat → Nat) (a : Nat) : Nat → List (Nat × Nat)
  | 0 => []
  | m + 1 => joinL (runsOf f a m) (1, f (a + m))
theorem runsOf_join (f : Nat → Nat) (a m k p : Nat) (hk : 1 ≤ k) (h : ∀ u, a + m ≤ u → u < a + m + k → f u = p) : runsOf f a (m + k) = joinL (runsOf f a m) (k, p) := by
  induction k with
  | zero => omega
  | succ k ih =>
    by_cases e : k = 0
    · subst e
      show joinL (runsOf f a m) (1, f (a + m)) = _
      rw [h (a + m) (by omega) (by omega)]
    · have := ih (by omega) (fun u x y => h u x (by omega))
      show joinL (runsOf f a (m + k)) (1, f (a + (m + k))) = _
      rw [this, h (a + (m + k)) (by omega) (by omega), joinL_two]

/-- how many ticks the first i slots have -/
def pre (L : List (Nat × Nat)) (i : Nat) : Nat := ((L.take i).map (·.1)).sum
/-- L tells the m ticks of f from a on -/
structure Tile (f : Nat → Nat) (a m : Nat) (L : List (Nat × Nat)) : Prop where
  sum : (L.map (·.1)).sum = m
  pos : ∀ x ∈ L, 1 ≤ x.1
  at' : ∀ i x, L[i]? = some x → ∀ u, pre L i ≤ u → u < pre L i + x.1 → f (a + u) = x.2
theorem pre_all (L : List (Nat × Nat)) : pre L L.length = (L.map (·.1)).sum := by unfold pre; rw [List.take_length]
theorem pre_zero (L : List (Nat × Nat)) : pre L 0 = 0 := rfl
theorem pre_succ {L : List (Nat × Nat)} {i : Nat} {x : Nat × Nat} (h : L[i]? = some x) : pre L (i + 1) = pre L i + x.1 := by
  unfold pre
  rw [List.take_add_one, h]
  simp
theorem pre_app {L K : List (Nat × Nat)} {i : Nat} (h : i ≤ L.length) : pre (L ++ K) i = pre L i := by
  unfold pre
  rw [List.take_append_of_le_length h]
theorem Tile.snoc {f : Nat → Nat} {a m : Nat} {L : List (Nat × Nat)} (h : Tile f a m L) (x : Nat × Nat) (hx : 1 ≤ x.1) (hf : ∀ u, m ≤ u → u < m + x.1 → f (a + u) = x.2) : Tile f a (m + x.1) (L ++ [x]) := by
  refine ⟨by simp [h.sum], fun y hy => ?_, fun i y hy u h1 h2 => ?_⟩
  · rcases List.mem_append.1 hy with h1 | h1
    · exact h.pos y h1
    · simp at h1; subst h1; exact hx
  · by_cases hi : i < L.length
    · rw [List.getElem?_append_left hi] at hy
      rw [pre_app (by omega)] at h1 h2
      exact h.at' i y hy u h1 h2
    · have e : i = L.length := by
        apply Decidable.byContradiction
        intro hn
        rw [List.getElem?_append_right (by omega), List.getElem?_eq_none (by simp; omega)] at hy
        cases hy
      subst e
      simp at hy
      subst hy
      rw [pre_app (Nat.le_refl _), pre_all, h.sum] at h1 h2
      exact hf u h1 h2
theorem Tile.join {f : Nat → Nat} {a m : Nat} {L : List (Nat × Nat)} (h : Tile f a m L) (x : Nat × Nat) (hx : 1 ≤ x.1) (hf : ∀ u, m ≤ u → u < m + x.1 → f (a + u) = x.2) : Tile f a (m + x.1) (joinL L x) := by
  rcases List.eq_nil_or_concat L with rfl | ⟨K, y, rfl⟩
  · rw [joinL_nil]
    exact h.snoc x hx hf
  · rw [List.concat_eq_append] at h ⊢
    rw [joinL_snoc]
    by_cases e : y.2 = x.2
    · rw [if_pos e]
      have hK : (K.map (·.1)).sum + y.1 = m := by have := h.sum; simpa using this
      have hy : (K ++ [y])[K.length]? = some y := by simp
      have hT : Tile f a (K.map (·.1)).sum K := by
        refine ⟨rfl, fun z hz => h.pos z (List.mem_append_left _ hz), fun i z hz u h1 h2 => ?_⟩
        have hi : i < K.length := (List.getElem?_eq_some_iff.1 hz).1
        refine h.at' i z (by rw [List.getElem?_append_left hi]; exact hz) u ?_ ?_
        · rw [pre_app (by omega)]; exact h1
        · rw [pre_app (by omega)]; exact h2
      have := hT.snoc (y.1 + x.1, x.2) (by show 1 ≤ y.1 + x.1; omega) (fun u h1 h2 => by
        by_cases hu : u < m
        · have := h.at' K.length y hy u (by rw [pre_app (Nat.le_refl _), pre_all]; exact h1) (by rw [pre_app (Nat.le_refl _), pre_all]; omega)
          rw [this]; exact e
        · exact hf u (by omega) (by simp only at h2; omega))
      have e2 : (K.map (·.1)).sum + (y.1 + x.1, x.2).1 = m + x.1 := by show (K.map (·.1)).sum + (y.1 + x.1) = m + x.1; omega
      rw [e2] at this
      exact this
    · rw [if_neg e]
      exact h.snoc x hx hf
theorem runsOf_tile (f : Nat → Nat) (a m : Nat) : Tile f a m (runsOf f a m) := by
  induction m with
  | zero => exact ⟨rfl, (fun x hx => by cases hx), (fun i x hx => by simp [runsOf] at hx)⟩
  | succ m ih => exact ih.join (1, f (a + m)) (Nat.le_refl _) (fun u h1 h2 => by
      have : u = m := by simp only at h2; omega
      subst this; rfl)
theorem pre_le {f : Nat → Nat} {a m : Nat} {L : List (Nat × Nat)} (h : Tile f a m L) (i : Nat) : pre L i ≤ m := by
  rw [← h.sum]
  unfold pre
  have : (L.map (·.1)).sum = ((L.take i).map (·.1)).sum + ((L.drop i).map (·.1)).sum := by
    rw [← List.sum_append, ← List.map_append, List.take_append_drop]
  omega
theorem len_le_sum (L : List (Nat × Nat)) (h : ∀ x ∈ L, 1 ≤ x.1) : L.length ≤ (L.map (·.1)).sum := by
  induction L with
  | nil => exact Nat.le_refl _
  | cons x r ih =>
    have h1 := h x (List.mem_cons_self)
    have h2 := ih (fun y hy => h y (List.mem_cons_of_mem _ hy))
    simp only [List.length_cons, List.map_cons, List.sum_cons]
    omega
theorem Tile.len {f : Nat → Nat} {a m : Nat} {L : List (Nat × Nat)} (h : Tile f a m L) : L.length ≤ m := by
  have := len_le_sum L h.pos
  rw [h.sum] at this
  exact this
theorem Tile.elt {f : Nat → Nat} {a m : Nat} {L : List (Nat × Nat)} (h : Tile f a m L) {x : Nat × Nat} (hx : x ∈ L) : x.1 ≤ m := by
  obtain ⟨i, hi, rfl⟩ := List.getElem_of_mem hx
  have h1 := pre_le h (i + 1)
  rw [pre_succ (List.getElem?_eq_getElem hi)] at h1
  omega
end Rule
end Go.Proofs.YtkjnhhoniodbcaaGreatDoor
