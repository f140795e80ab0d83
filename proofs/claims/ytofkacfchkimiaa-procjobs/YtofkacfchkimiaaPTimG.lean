/-
  ProcTimers: what is told of the process in the end.
-/
import Derived.Test.YtofkacfchkimiaaPTimP
namespace Go.Proofs.Ytofkacfchkimiaa
open Go.RowKit Plain
set_option linter.unusedVariables false
set_option maxRecDepth 100000

/-- a state that was told -/
def GA (A : Array Value) (r : Int) : Prop := A.size = 28 ∧ A.all (·.oneCell') = true ∧ A[0]? = some (.int .i64 1) ∧ A[3]? = some (.int .i64 r) ∧ A[4]? = some (.int .i64 9) ∧ A[22]? = some (.int .i64 (-1)) ∧ ∃ ya yc, A[26]? = some (.slice ya 0 yc) ∧ yc ≤ 9223372036854775807
section
variable {b g cap : Nat}
theorem get_z (w : World) {s u : Int} {v : Value} {r : Int} (h : Tw w b g cap (tZ s u v r)) :
    Calls Try.prog 16 #[.pointer (some ⟨b, 0, none⟩), .int .i64 1] w fun e w' => ∃ A, e = .returned (.tuple #[.agg A, .bool true]) ∧ GA A r ∧ Kept No w w' := by
  obtain ⟨z1, z2, z3, z4, z5, z6, z7⟩ := tZ_all s u v r
  have ge := get_yes (i := 0) w h (by rw [z1]; omega) (by rw [z1]; omega) (by rw [z6]; simp)
  rw [z6] at ge
  refine ge.mono ?_
  rintro e w' ⟨ya, yc, rfl, ho, k⟩
  refine ⟨_, rfl, ⟨rfl, val_one _, ?_, ?_, ?_, ?_, ya, yc, rfl, ?_⟩, k⟩
  · show some (Value.int .i64 ((tZ s u v r).ps 0).st) = _; rw [z2]
  · show some (Value.int .i64 (((tZ s u v r).ps 0).rg 0)) = _; rw [z3]
  · show some (Value.int .i64 (((tZ s u v r).ps 0).rg 1)) = _; rw [z4]
  · show some (Value.int .i64 ((tZ s u v r).ps 0).un) = _; rw [z5]
  · rcases owns_cells ho with ⟨h1, _⟩ | ⟨g', cap', h1, _, _, _, hm, _⟩
    · injection h1 with _ _ h3; omega
    · injection h1 with _ _ h3; subst h3; exact hm
end
theorem er_al48 {w : World} {a : Act} {o : Oper} (ho : o.op = .alloc 48) : (execOp a.eval o).run Try.prog w = .ok (.value (.pointer (some ⟨w.heap.size, 0, none⟩))) (w.alloc (.cells Z28 48)) := by
  simp only [execOp, ho]
  simp [go_sem]
  rfl
section
variable {w : World} {a : Act} {o : Oper}
theorem er_ext0 (x : Operand) (ho : o.op = .extract x 0) (u v : Value) (hx : a.eval x = .tuple #[u, v]) : (execOp a.eval o).run Try.prog w = .ok (.value u) w := by
  simp only [execOp, ho, hx]; simp [Instr.extract]
theorem er_ext1 (x : Operand) (ho : o.op = .extract x 1) (u v : Value) (hx : a.eval x = .tuple #[u, v]) : (execOp a.eval o).run Try.prog w = .ok (.value v) w := by
  simp only [execOp, ho, hx]; simp [Instr.extract]
theorem er_c_Get (x : Operand) (ts : Array TypeId) (y : Value) (ho : o.op = .call { callee := .value (.func 16), args := #[x, .const y], argTypes := ts }) (v : Value) (hx : a.eval x = v) : (execOp a.eval o).run Try.prog w = .ok (.enter 16 #[v, y]) w := by
  subst hx
  simp [execOp, ho, go_sem, Act.eval]
end
end Go.Proofs.Ytofkacfchkimiaa
