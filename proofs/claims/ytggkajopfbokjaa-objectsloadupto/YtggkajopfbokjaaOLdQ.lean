/-
  ObjectsLoad: regions' laws for its walk.
-/
import Derived.Test.YtggkajopfbokjaaOLdP
import Derived.Test.YtggkajopfbokjaaOSpare
namespace Go.Proofs.Ytggkajopfbokjaa
open Go.RowKit
set_option linter.unusedVariables false
set_option maxRecDepth 100000

section
variable {P : Program} {md : Region.Mode} {ops : Array Oper} {Q : Exit → Act → World → Prop} {S : World → Prop} {fuel : Nat} {listed : Array Bool} {a : Act} {w : World}
theorem d_skip (i k : Nat) {oi : Oper} (hi : ops[i]? = some oi) (hd : oi.dst = some k) (hs : Region.noSelect ops = true) (hf : Region.free md ops listed i = true) (hr : (Region.ready md ops listed).contains i = true)
    (hQ : ∀ c a w, Q (.panic c) (a.put (some k) undef) w → Q (.panic c) a w) (hw : Region.wanted oi (yielded ops a.tmps) = false) (hS : S w)
    (h : wpAnyH P md ops Q S fuel (listed.setIfInBounds i true) (a.put (some k) undef) w) : wpAnyH P md ops Q S (fuel + 1) listed a w :=
  h_skip i hi hs hf hr (by rw [hd]; exact hQ) hw hS (by rw [hd]; exact h)
end
section
variable {w : World} {a : Act} {o : Oper}
theorem ec_short (x : Operand) (t : TypeId) (ho : o.op = .call { callee := .value (.func 15), args := #[x], argTypes := #[t] }) (v : Value) (hx : a.eval x = v) : (execOp a.eval o).run Try.prog w = .ok (.enter 15 #[v]) w := by
  subst hx
  simp [execOp, ho, go_sem, Act.eval]
theorem ec_own (x : Operand) (t : TypeId) (ho : o.op = .call { callee := .value (.func 17), args := #[x], argTypes := #[t] }) (v : Value) (hx : a.eval x = v) : (execOp a.eval o).run Try.prog w = .ok (.enter 17 #[v]) w := by
  subst hx
  simp [execOp, ho, go_sem, Act.eval]
theorem ec_roomy (x : Operand) (t : TypeId) (ho : o.op = .call { callee := .value (.func 16), args := #[x], argTypes := #[t] }) (v : Value) (hx : a.eval x = v) : (execOp a.eval o).run Try.prog w = .ok (.enter 16 #[v]) w := by
  subst hx
  simp [execOp, ho, go_sem, Act.eval]
theorem ec_given (x : Operand) (t : TypeId) (ho : o.op = .call { callee := .value (.func 18), args := #[x], argTypes := #[t] }) (v : Value) (hx : a.eval x = v) : (execOp a.eval o).run Try.prog w = .ok (.enter 18 #[v]) w := by
  subst hx
  simp [execOp, ho, go_sem, Act.eval]
theorem ec_spared (x : Operand) (t : TypeId) (ho : o.op = .call { callee := .value (.func 21), args := #[x], argTypes := #[t] }) (v : Value) (hx : a.eval x = v) : (execOp a.eval o).run Try.prog w = .ok (.enter 21 #[v]) w := by
  subst hx
  simp [execOp, ho, go_sem, Act.eval]
theorem ec_spoil (x : Operand) (t : TypeId) (ho : o.op = .call { callee := .value (.func 23), args := #[x], argTypes := #[t] }) (v : Value) (hx : a.eval x = v) : (execOp a.eval o).run Try.prog w = .ok (.enter 23 #[v]) w := by
  subst hx
  simp [execOp, ho, go_sem, Act.eval]
theorem ec_emptied (x : Operand) (t : TypeId) (ho : o.op = .call { callee := .value (.func 24), args := #[x], argTypes := #[t] }) (v : Value) (hx : a.eval x = v) : (execOp a.eval o).run Try.prog w = .ok (.enter 24 #[v]) w := by
  subst hx
  simp [execOp, ho, go_sem, Act.eval]
theorem ec_state (x : Operand) (t : TypeId) (ho : o.op = .call { callee := .value (.func 13), args := #[x], argTypes := #[t] }) (v : Value) (hx : a.eval x = v) : (execOp a.eval o).run Try.prog w = .ok (.enter 13 #[v]) w := by
  subst hx
  simp [execOp, ho, go_sem, Act.eval]
theorem ec_load (x y : Operand) (t t' : TypeId) (ho : o.op = .call { callee := .value (.func 12), args := #[x, y], argTypes := #[t, t'] }) (v u : Value) (hx : a.eval x = v) (hy : a.eval y = u) : (execOp a.eval o).run Try.prog w = .ok (.enter 12 #[v, u]) w := by
  subst hx hy
  simp [execOp, ho, go_sem, Act.eval]
theorem ec_rload (x y : Operand) (t t' : TypeId) (ho : o.op = .call { callee := .value (.func 19), args := #[x, y], argTypes := #[t, t'] }) (v u : Value) (hx : a.eval x = v) (hy : a.eval y = u) : (execOp a.eval o).run Try.prog w = .ok (.enter 19 #[v, u]) w := by
  subst hx hy
  simp [execOp, ho, go_sem, Act.eval]
theorem ec_same (x y : Operand) (t t' : TypeId) (ho : o.op = .call { callee := .value (.func 20), args := #[x, y], argTypes := #[t, t'] }) (v u : Value) (hx : a.eval x = v) (hy : a.eval y = u) : (execOp a.eval o).run Try.prog w = .ok (.enter 20 #[v, u]) w := by
  subst hx hy
  simp [execOp, ho, go_sem, Act.eval]
theorem ec_intact (x y : Operand) (t t' : TypeId) (ho : o.op = .call { callee := .value (.func 22), args := #[x, y], argTypes := #[t, t'] }) (v u : Value) (hx : a.eval x = v) (hy : a.eval y = u) : (execOp a.eval o).run Try.prog w = .ok (.enter 22 #[v, u]) w := by
  subst hx hy
  simp [execOp, ho, go_sem, Act.eval]
theorem er_neqI (x y : Operand) (ho : o.op = .binOp .neq 3 x y 3) (u v : Int) (c : Bool) (hx : a.eval x = .int .i64 u) (hy : a.eval y = .int .i64 v) (hc : (u != v) = c) : (execOp a.eval o).run Try.prog w = .ok (.value (.bool c)) w := by
  subst hc
  simp only [execOp, ho, hx, hy]; simp [go_sem]
theorem er_neqB (x y : Operand) (ho : o.op = .binOp .neq 4 x y 4) (u v : Bool) (c : Bool) (hx : a.eval x = .bool u) (hy : a.eval y = .bool v) (hc : (u != v) = c) : (execOp a.eval o).run Try.prog w = .ok (.value (.bool c)) w := by
  subst hc
  simp only [execOp, ho, hx, hy]
  cases u <;> cases v <;> simp [go_sem]
theorem er_eqN (x : Operand) (ho : o.op = .binOp .eql 38 x (.const (.pointer none)) 38) (u : Option Addr) (hx : a.eval x = .pointer u) : (execOp a.eval o).run Try.prog w = .ok (.value (.bool u.isNone)) w := by
  simp only [execOp, ho, hx]
  cases u <;> simp [go_sem, Act.eval]
theorem er_neN (x : Operand) (ho : o.op = .binOp .neq 38 x (.const (.pointer none)) 38) (u : Option Addr) (hx : a.eval x = .pointer u) : (execOp a.eval o).run Try.prog w = .ok (.value (.bool u.isSome)) w := by
  simp only [execOp, ho, hx]
  cases u <;> simp [go_sem, Act.eval]
theorem er_ne0 (x : Operand) (ho : o.op = .binOp .neq 3 x (.const (.int .i64 0)) 3) (u : Int) (c : Bool) (hx : a.eval x = .int .i64 u) (hc : (u != 0) = c) : (execOp a.eval o).run Try.prog w = .ok (.value (.bool c)) w := by
  subst hc
  simp only [execOp, ho, hx]; simp [go_sem, Act.eval]
theorem er_pk (b x y : Operand) (ho : o.op = .pick b x y) (c : Bool) (v : Value) (hb : a.eval b = .bool c) (hv : (if c then a.eval x else a.eval y) = v) : (execOp a.eval o).run Try.prog w = .ok (.value v) w := by
  subst hv
  simp only [execOp, ho, hb]
  cases c <;> simp [go_sem]
theorem Try.infoOS3 : (Try.prog.info? 55).map (·.size) = some 3 := by kernel_rfl
theorem er_ldO (x : Operand) (ho : o.op = .load 55 x) (g : Nat) (A : Array Value) (hx : a.eval x = .pointer (some ⟨g, 0, none⟩)) (hg : w.heap[g]? = some (.cells A 55)) (hA : A.size = 3) : (execOp a.eval o).run Try.prog w = .ok (.value (.agg A)) w := by
  have h := run_loadVar_row (P := Try.prog) w g 55 55 A (0, 0) _ hg Try.underlying55 rfl (by rw [hA]; exact Try.infoOS3)
  unfold execOp
  simp only [ho, hx, Instr.loadAt, Instr.sureAddr, Sem.run_bind, Sem.run_pure, Result.andThen_ok, h]
end
end Go.Proofs.Ytggkajopfbokjaa
