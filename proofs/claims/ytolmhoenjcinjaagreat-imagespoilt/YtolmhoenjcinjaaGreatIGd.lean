/-
  What lists of elements with lists of their own share.
-/
import Derived.Test.YtolmhoenjcinjaaGreatIGl
import Derived.Test.YtolmhoenjcinjaaGreatIAskPn
import Derived.Test.YtolmhoenjcinjaaGreatIHeld
namespace Go.Proofs.YtolmhoenjcinjaaGreat
open Go.RowKit
set_option linter.unusedVariables false
set_option maxRecDepth 100000

/-- rows of unlike kinds lie in blocks of their own -/
theorem own_ne {w : World} {B B' : Nat} {t t' : TypeId} {sz sz' : Nat} {v v' : Value} {n n' : Nat} {xs xs' : List Value} (h : w.ownsRow B t sz v n xs) (h' : w.ownsRow B' t' sz' v' n' xs') (ht : t ≠ t') : ∀ g, v.ownBlock = some g → v'.ownBlock ≠ some g := by
  intro g hg hg'
  obtain ⟨_, ⟨rfl, _⟩ | ⟨q, cap, cur, rfl, _, hq, _⟩⟩ := h
  · simp [Value.ownBlock] at hg
  · obtain ⟨_, ⟨rfl, _⟩ | ⟨q', cap', cur', rfl, _, hq', _⟩⟩ := h'
    · simp [Value.ownBlock] at hg'
    · simp [Value.ownBlock] at hg hg'
      subst hg
      subst hg'
      rw [hq] at hq'
      simp at hq'
      exact ht hq'.2
/-- no block of these cells lies at or above H -/
def bnd (H : Nat) (cs : List Value) : Prop := ∀ v ∈ cs, ∀ g, v.ownBlock = some g → g < H
section
variable {P : Program} {ops : Array Oper} {Q : Exit → Act → World → Prop} {rest : List Oper} {op : Oper} {a : Act} {w : World}
theorem l_call (k : Nat) {f : FuncId} {args : Array Value} {R : Ending → World → Prop} (hd : op.dst = some k) (hw : Region.wanted op (yielded ops a.tmps) = true) (hr : (execOp a.eval op).run P w = .ok (.enter f args) w) (hc : Calls P f args w R)
    (h : ∀ e w', R e w' → ∃ v, e = .returned v ∧ wpList P ops Q rest (a.put (some k) v) w') : wpList P ops Q (op :: rest) a w :=
  BigFrame.wpList_want hw fun K hK => by
    unfold Oper.wp
    rw [hr]
    refine hc.mono ?_
    intro e w' he
    obtain ⟨v, rfl, h2⟩ := h e w' he
    exact hK _ _ (by rw [hd]; exact h2)
end
theorem flat_get {α : Type} (sz : Nat) : ∀ (css : List (List α)), (∀ cs ∈ css, cs.length = sz) → ∀ i j cs, css[i]? = some cs → j < sz → css.flatten[i * sz + j]? = cs[j]?
  | [], _, i, j, cs, h, _ => by simp at h
  | c :: css, hl, 0, j, cs, h, hj => by
    simp at h; subst h
    have := hl c (by simp)
    rw [Nat.zero_mul, Nat.zero_add, List.flatten_cons, List.getElem?_append_left (by omega)]
  | c :: css, hl, i + 1, j, cs, h, hj => by
    have hc := hl c (by simp)
    rw [List.flatten_cons, List.getElem?_append_right (by rw [hc, Nat.add_mul]; omega), hc, show (i + 1) * sz + j - sz = i * sz + j by rw [Nat.add_mul]; omega]
    exact flat_get sz css (fun cs h => hl cs (List.mem_cons_of_mem _ h)) i j cs (by simpa using h) hj
theorem mono_le {lo : Nat → Nat} (h : ∀ i, lo i ≤ lo (i + 1)) {i j : Nat} (hij : i ≤ j) : lo i ≤ lo j := by
  induction hij with
  | refl => exact Nat.le_refl _
  | step _ ih => exact Nat.le_trans ih (h _)
theorem er_askCh {o : Oper} {a : Act} {w : World} (f x : Operand) (ts : Array TypeId) (ho : o.op = .call { callee := .value f, args := #[x], argTypes := ts }) (hf : a.eval f = .func (.func 119) #[] #[]) : (execOp a.eval o).run Tryz.prog w = .ok (.enter 119 #[a.eval x]) w := by
  generalize a.eval = ev at hf ⊢
  simp [execOp, ho, go_sem, hf]
theorem er_askPn {o : Oper} {a : Act} {w : World} (f x : Operand) (ts : Array TypeId) (ho : o.op = .call { callee := .value f, args := #[x], argTypes := ts }) (hf : a.eval f = .func (.func 105) #[] #[]) : (execOp a.eval o).run Tryz.prog w = .ok (.enter 105 #[a.eval x]) w := by
  generalize a.eval = ev at hf ⊢
  simp [execOp, ho, go_sem, hf]

end Go.Proofs.YtolmhoenjcinjaaGreat
