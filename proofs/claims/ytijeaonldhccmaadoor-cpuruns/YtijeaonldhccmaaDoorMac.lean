/-
  A machine that came in: its box.
-/
import Derived.Test.YtijeaonldhccmaaDoorStepAny
import Derived.Test.YtijeaonldhccmaaDoorGuards
import Derived.Test.YtijeaonldhccmaaDoorDoes
namespace Go.Proofs.YtijeaonldhccmaaDoor
open Go.RowKit
set_option linter.unusedVariables false

def macC (C M : Value) (fx : Int) (R : Nat → Int) (pc : Int) : Array Value := #[C, M, .int .i64 fx, .int .i64 (R 0), .int .i64 (R 1), .int .i64 (R 2), .int .i64 (R 3), .int .i64 (R 4), .int .i64 (R 5), .int .i64 (R 6), .int .i64 (R 7), .int .i64 (R 8), .int .i64 (R 9), .int .i64 (R 10), .int .i64 (R 11), .int .i64 (R 12), .int .i64 (R 13), .int .i64 (R 14), .int .i64 (R 15), .int .i64 pc]
def macV (C M : Value) (fx : Int) (R : Nat → Int) (pc : Int) : Value := .agg (macC C M fx R pc)
theorem macC_at (C M : Value) (fx : Int) (R : Nat → Int) (pc : Int) {k : Nat} (h : k < 16) : (macC C M fx R pc)[3 + k]? = some (.int .i64 (R k)) := by
  rcases lt16 h with rfl | rfl | rfl | rfl | rfl | rfl | rfl | rfl | rfl | rfl | rfl | rfl | rfl | rfl | rfl | rfl <;> rfl
theorem wl_box36 {ops : Array Oper} {rest : List Oper} {op : Oper} {a : Act} {w : World} {Q : Exit → Act → World → Prop} (x : Operand) (ho : op.op = .box 36 x) (hgd : op.guard = none) (C M : Value) (fx : Int) (R : Nat → Int) (pc : Int) (hx : a.eval x = macV C M fx R pc)
    (h : wpList Tryd.prog ops Q rest (a.put op.dst (.pointer (some ⟨w.heap.size, 0, none⟩))) (w.alloc (.cells (macC C M fx R pc) 36))) : wpList Tryd.prog ops Q (op :: rest) a w :=
  wpList_val hgd (by simp only [execOp, ho, hx, Instr.box, newVar, macV, Value.cells]; simp [go_sem]) h
theorem mac_cells {w : World} {g : Nat} {C M : Value} {fx : Int} {R : Nat → Int} {pc : Int} (h : w.heap[g]? = some (.cells (macC C M fx R pc) 36)) :
    w.cell? ⟨g, 0, none⟩ = some C ∧ w.cell? ⟨g, 1, none⟩ = some M ∧ w.cell? ⟨g, 2, none⟩ = some (.int .i64 fx) ∧ w.cell? ⟨g, 19, none⟩ = some (.int .i64 pc) :=
  ⟨cell_of_row _ _ _ _ _ _ h, cell_of_row _ _ _ _ _ _ h, cell_of_row _ _ _ _ _ _ h, cell_of_row _ _ _ _ _ _ h⟩
theorem mac_reg {w : World} {g : Nat} {C M : Value} {fx : Int} {R : Nat → Int} {pc : Int} (h : w.heap[g]? = some (.cells (macC C M fx R pc) 36)) {k : Nat} (hk : k < 16) : w.cell? ⟨g, 3 + k, none⟩ = some (.int .i64 (R k)) :=
  (cell_of_row _ _ _ _ _ _ h).trans (macC_at C M fx R pc hk)
theorem range_mac {w : World} {g : Nat} {C M : Value} {fx : Int} {R : Nat → Int} {pc : Int} (h : w.heap[g]? = some (.cells (macC C M fx R pc) 36)) : w.rangeAt g 3 (regC R).toList := by
  intro j v hj
  have hl : j < 16 := by have := (List.getElem?_eq_some_iff.1 hj).1; exact this
  have e : (regC R)[j]? = some v := by simpa using hj
  rw [regC_at R hl] at e
  rw [← e]
  exact mac_reg h hl

end Go.Proofs.YtijeaonldhccmaaDoor
