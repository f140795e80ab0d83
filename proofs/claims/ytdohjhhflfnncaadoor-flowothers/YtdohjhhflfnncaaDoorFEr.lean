/-
  Single operations, by name.
-/
import Derived.Test.YtdohjhhflfnncaaDoorCHeld
import Derived.Test.YtdohjhhflfnncaaDoorCOwn
namespace Go.Proofs.YtdohjhhflfnncaaDoor
open Go.RowKit
set_option linter.unusedVariables false
set_option maxRecDepth 100000
section
variable {w : World} {a : Act} {o : Oper}
theorem er_ldWW (x : Operand) (ho : o.op = .load 56 x) (g off : Nat) (v : Value) (hx : a.eval x = .pointer (some ⟨g, off, none⟩)) (hc : w.cell? ⟨g, off, none⟩ = some v) : (execOp a.eval o).run Tryd.prog w = .ok (.value v) w := by
  simp only [execOp, ho, hx]; simp [go_sem, hc]
theorem er_ldSI (x : Operand) (ho : o.op = .load 40 x) (g off : Nat) (v : Value) (hx : a.eval x = .pointer (some ⟨g, off, none⟩)) (hc : w.cell? ⟨g, off, none⟩ = some v) : (execOp a.eval o).run Tryd.prog w = .ok (.value v) w := by
  simp only [execOp, ho, hx]; simp [go_sem, hc]
theorem er_ixWW (x y : Operand) (ho : o.op = .indexAddr 56 x y) (g off i n c : Nat) (hx : a.eval x = .slice (some ⟨g, off, none⟩) n c) (hy : a.eval y = .int .i64 (i : Int)) (hi : i < n) : (execOp a.eval o).run Tryd.prog w = .ok (.value (.pointer (some ⟨g, off + i, none⟩))) w := by
  simp only [execOp, ho, hx, hy]; simp [go_sem, add_none, hi]
theorem er_bsI (x : Operand) (ho : o.op = .buildSlice 40 1 #[(0, x)]) (z : Int) (hx : a.eval x = .int .i64 z) : (execOp a.eval o).run Tryd.prog w = .ok (.value (.slice (some ⟨w.heap.size, 0, none⟩) 1 1)) (w.alloc (.cells #[.int .i64 z] 3)) := by
  simp only [execOp, ho, List.map_toArray, List.map_cons, List.map_nil, hx]
  simp [go_sem]
theorem er_apI (s x : Operand) (ho : o.op = .call { callee := .builtin .append, args := #[s, x], argTypes := #[40, 40] }) (v u : Value) (hs : a.eval s = v) (hx : a.eval x = u) (v' : Value) (w' : World) (hty : o.type = 40) (hr : (Builtin.append_ #[40, 40] 40 #[v, u]).run Tryd.prog w = .ok v' w') : (execOp a.eval o).run Tryd.prog w = .ok (.value v') w' := by
  unfold execOp
  simp only [ho, hty, resolve, invoke, builtin, Sem.run_bind, Sem.run_pure, Result.andThen_ok, List.map_toArray, List.map_cons, List.map_nil, hs, hx, hr]
theorem er_stSI (x y : Operand) (ho : o.op = .store 40 x y) (g off : Nat) (u v : Value) (hv : ∃ p n c, v = .slice p n c) (hx : a.eval x = .pointer (some ⟨g, off, none⟩)) (hy : a.eval y = v) (hr : w.cell? ⟨g, off, none⟩ = some u) (hf : w.frozen? ⟨g, off, none⟩ = false) : (execOp a.eval o).run Tryd.prog w = .ok .skip (w.setCell ⟨g, off, none⟩ v) := by
  obtain ⟨p, n, c, rfl⟩ := hv
  simp only [execOp, ho, hx, hy]; simp [go_sem, hr, hf]
end
end Go.Proofs.YtdohjhhflfnncaaDoor
