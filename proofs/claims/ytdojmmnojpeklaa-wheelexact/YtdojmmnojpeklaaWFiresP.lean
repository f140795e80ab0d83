/-
  'WheelFires': plain.
-/
import Derived.Test.YtdojmmnojpeklaaWOrd
namespace Go.Proofs.Ytdojmmnojpeklaa
open Go.RowKit
set_option linter.unusedVariables false

theorem tickOf_cons (x : Fi) (L : List Fi) (i : Int) : tickOf (x :: L) i = if x.i = i then some x.t else tickOf L i := by
  unfold tickOf
  rw [List.find?_cons]
  by_cases e : x.i = i
  · have h : (x.i == i) = true := by simpa using e
    rw [h, if_pos e]
    rfl
  · have h : (x.i == i) = false := by simpa using e
    rw [h, if_neg e]
theorem tickOf_rem_ne {i j : Int} (h : i ≠ j) : ∀ L : List Fi, tickOf (rem j L) i = tickOf L i
  | [] => rfl
  | y :: L => by
    by_cases e : y.i = j
    · rw [rem_cons_id e, tickOf_cons, if_neg (by omega), tickOf_rem_ne h L]
    · rw [rem_cons_ne e, tickOf_cons, tickOf_cons, tickOf_rem_ne h L]
theorem tickOf_rem (i : Int) (L : List Fi) : tickOf (rem i L) i = none := by
  cases e : tickOf (rem i L) i with
  | none => rfl
  | some t => exact absurd rfl (mem_rem.1 (tickOf_some e)).2
theorem tickOf_ins (x : Fi) (i : Int) : ∀ L : List Fi, (x.i = i → tickOf L i = none) → tickOf (ins x L) i = if x.i = i then some x.t else tickOf L i
  | [], _ => by unfold ins; rw [tickOf_cons]
  | y :: L, h => by
    unfold ins
    split
    · rw [tickOf_cons]
    · rw [tickOf_cons]
      by_cases e : y.i = i
      · rw [if_pos e]
        by_cases ex : x.i = i
        · have := h ex
          rw [tickOf_cons, if_pos e] at this
          cases this
        · rw [if_neg ex, tickOf_cons, if_pos e]
      · rw [if_neg e, tickOf_ins x i L (fun hx => by have := h hx; rw [tickOf_cons, if_neg e] at this; exact this), tickOf_cons, if_neg e]
/-- the last arming is what the wheel knows -/
theorem last_tick (n : Nat) (i : Int) (xs : List Fi) : ∀ k, k ≤ xs.length → lastT n i (xs.take k) = tickOf (armL n (xs.take k)) i
  | 0, _ => rfl
  | k + 1, hk => by
    have ih := last_tick n i xs k (by omega)
    have hx : xs[k]? = some (xs[k]'(by omega)) := List.getElem?_eq_getElem _
    rw [List.take_add_one, hx]
    show lastT n i (xs.take k ++ [xs[k]]) = tickOf (armL n (xs.take k ++ [xs[k]])) i
    rw [lastT_snoc, armL_snoc, ih]
    unfold armF
    by_cases ho : Ok n (xs[k]'(by omega))
    · rw [if_pos ho]
      by_cases e : (xs[k]'(by omega)).i = i
      · rw [if_pos ⟨e, ho⟩, tickOf_ins _ _ _ (fun h => by rw [← h]; exact tickOf_rem _ _), if_pos e]
      · rw [if_neg (fun h => e h.1), tickOf_ins _ _ _ (fun h => absurd h e), if_neg e, tickOf_rem_ne (fun h => e h.symm)]
    · rw [if_neg ho, if_neg (fun h => ho h.2)]
theorem last_tick_all (n : Nat) (i : Int) (xs : List Fi) : lastT n i xs = tickOf (armL n xs) i := by
  have := last_tick n i xs xs.length (Nat.le_refl _)
  rw [List.take_length] at this
  exact this
theorem tick_any (L : List Fi) (i : Int) : (tickOf L i).isSome = L.any (fun x => x.i == i) := by
  unfold tickOf
  rw [Option.isSome_map, Bool.eq_iff_iff, List.find?_isSome, List.any_eq_true]

end Go.Proofs.Ytdojmmnojpeklaa
