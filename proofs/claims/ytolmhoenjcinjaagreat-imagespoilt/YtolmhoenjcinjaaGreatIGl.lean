/-
  Lists that are read: what all kinds share.
-/
import Derived.Test.YtolmhoenjcinjaaGreatIGot
import Derived.Laws.AppendOwnNone
namespace Go.Proofs.YtolmhoenjcinjaaGreat
open Go.RowKit
set_option linter.unusedVariables false
set_option maxRecDepth 100000

theorem cn_yes {xs : List Nat} (hl : 4 ≤ xs.length) (h1 : val (xs.take 4) ≤ 1048576) (h2 : val (xs.take 4) ≤ xs.length - 4) : cnN xs 0 1048576 = (val (xs.take 4) : Int) ∧ cnRest xs 0 1048576 = xs.drop 4 ∧ cnE xs 0 1048576 = 0 := by
  have hk : tkOk xs 0 4 = true := by unfold tkOk; simp; omega
  have hN : rdN xs 0 4 = (val (xs.take 4) : Int) := by
    unfold rdN tkXs
    rw [show tkOk xs 0 ((4 : Nat) : Int) = true from hk]
    rfl
  have hc : cnOk xs 0 1048576 = true := by
    unfold cnOk
    rw [hk, hN]
    simp only [Bool.true_and, Bool.and_eq_true, decide_eq_true_eq]
    omega
  refine ⟨by unfold cnN; rw [hc]; exact hN, by unfold cnRest; rw [hc]; rfl, ?_⟩
  unfold cnE
  rw [if_neg (by simp), hk, if_neg (by simp), hN, if_neg (by omega), if_neg (by omega)]
theorem cn_no {xs : List Nat} {e : Int} (h : ¬ (e = 0 ∧ 4 ≤ xs.length ∧ val (xs.take 4) ≤ 1048576 ∧ val (xs.take 4) ≤ xs.length - 4)) : cnN xs e 1048576 = 0 ∧ cnRest xs e 1048576 = xs ∧ cnE xs e 1048576 ≠ 0 := by
  have hc : cnOk xs e 1048576 = false := by
    cases hk : cnOk xs e 1048576 with
    | false => rfl
    | true =>
      exfalso
      unfold cnOk at hk
      simp only [Bool.and_eq_true, decide_eq_true_eq] at hk
      obtain ⟨⟨h1, h2⟩, h3⟩ := hk
      have h1' : tkOk xs e ((4 : Nat) : Int) = true := h1
      have he : e = 0 := by unfold tkOk at h1; simp at h1; exact h1.1
      have hl : 4 ≤ xs.length := by unfold tkOk at h1; simp at h1; omega
      subst he
      have hN : rdN xs 0 4 = (val (xs.take 4) : Int) := by unfold rdN tkXs; rw [h1']; rfl
      rw [hN] at h2 h3
      exact h ⟨rfl, hl, by omega, by omega⟩
  refine ⟨by unfold cnN; rw [hc]; rfl, by unfold cnRest; rw [hc]; rfl, ?_⟩
  unfold cnE
  by_cases he : e ≠ 0
  · rw [if_pos he]; exact he
  · rw [if_neg he]
    have he0 : e = 0 := by omega
    subst he0
    cases hk : tkOk xs 0 4 with
    | false => rw [if_pos rfl]; decide
    | true =>
      rw [if_neg (by simp)]
      by_cases h1 : (1048576 : Int) < rdN xs 0 4
      · rw [if_pos h1]; decide
      · rw [if_neg h1]
        by_cases h2 : (xs.length : Int) - 4 < rdN xs 0 4
        · rw [if_pos h2]; decide
        · exfalso
          unfold cnOk at hc
          rw [hk, decide_eq_true (show rdN xs 0 4 ≤ 1048576 by omega), decide_eq_true (show rdN xs 0 4 ≤ (xs.length : Int) - 4 by omega)] at hc
          simp at hc
/-- the list of none, where there is a fault or none is told -/
theorem got_no {α : Type} (d : Dec α) {xs : List Nat} {e : Int} {s' : St} (l : List α) (hl : s'.1.length ≤ xs.length) (hs : s'.2 ≠ 0) (h : e = 0 → decL d xs = none) : Got (decL d) (xs, e) l s' := ⟨hl, .inr ⟨hs, h⟩⟩
theorem decL_eq {α : Type} (d : Dec α) {xs : List Nat} (hl : 4 ≤ xs.length) (h1 : val (xs.take 4) ≤ 1048576) (h2 : val (xs.take 4) ≤ xs.length - 4) : decL d xs = decNn d (val (xs.take 4)) (xs.drop 4) := by
  unfold decL; rw [if_pos ⟨hl, h1, h2⟩]
/-- the cells of what was just made -/
theorem cells_new (w : World) (cs : List Value) (t : TypeId) (b : Nat) (hb : b = w.heap.size) : ∀ j u, cs[j]? = some u → (w.alloc (.cells cs.toArray t)).cell? ((⟨b, 0, none⟩ : Addr).add j) = some u := by
  intro j u hj
  subst hb
  rw [add_none, Nat.zero_add]
  have h := heap_alloc_new w (.cells cs.toArray t)
  unfold World.cell?
  simp only [h]
  simpa using hj
theorem flat_snoc {α : Type} (f : α → List Value) (l : List α) (x : α) : ((l ++ [x]).map f).flatten = (l.map f).flatten ++ f x := by simp
/-- an element that is bytes alone reads none above what stands there -/
theorem step_yes {α : Type} {d : Dec α} {r : List Nat} {k : Nat} {l : List α} {t : List Nat} {x : α} {t' : List Nat} (h : decNn d k r = some (l, t)) (g : d t = some (x, t')) : decNn d (k + 1) r = some (l ++ [x], t') := by
  show dBind (decNn d k) _ r = _
  rw [dBind_eq h, dBind_eq g]; rfl
theorem step_no {α : Type} {d : Dec α} {r : List Nat} {k : Nat} {l : List α} {t : List Nat} (h : decNn d k r = some (l, t)) (g : d t = none) : decNn d (k + 1) r = none := by
  show dBind (decNn d k) _ r = _
  rw [dBind_eq h, dBind_none g]

end Go.Proofs.YtolmhoenjcinjaaGreat
