/-
  Regions that draw their order, whose calls make memory and turn nothing old: one walk.
-/
import Derived.Test.YtijeaonldhccmaaDoorGuards
import Derived.Test.YtijeaonldhccmaaDoorStepAny
import Derived.Handy
namespace Go.Proofs.YtijeaonldhccmaaDoor
open Go.RowKit
set_option linter.unusedVariables false

/-- a region whose operations read, and whose callees turn nothing that was there -/
theorem wp_region_below {P : Program} {id : Nat} {Q : Exit → Act → World → Prop} {a : Act} {w : World} {l : List Oper} (B : Nat) (W : World) (hm : P.follows .mixedOrders = true) (hB : Region.lexB .any l.toArray = true) (hw : Below B W w)
    (h : wpQuiet P l.toArray (fun w' => Below B W w') (fun a' => ∀ w', Below B W w' → Q .normal a' w') l a) : (Code.region id l.toArray true).wp P Q a w :=
  wp_region_quiet (C := fun w' => Below B W w') hm hB (hw.drew) (by simpa using h)

section
variable {ops : Array Oper} {C : World → Prop} {Q : Act → Prop} {a : Act} {o : Oper} {rest : List Oper} {K : Act → Prop}
theorem run_load31 (w : World) (g off : Nat) (v : Value) (h : w.cell? ⟨g, off, none⟩ = some v) : (Instr.loadAt 31 (.pointer (some ⟨g, off, none⟩))).run Tryd.prog w = .ok v w := by simp [go_sem, h]
theorem run_load34 (w : World) (g off : Nat) (v : Value) (h : w.cell? ⟨g, off, none⟩ = some v) : (Instr.loadAt 34 (.pointer (some ⟨g, off, none⟩))).run Tryd.prog w = .ok v w := by simp [go_sem, h]
theorem run_load3 (w : World) (g off : Nat) (v : Value) (h : w.cell? ⟨g, off, none⟩ = some v) : (Instr.loadAt 3 (.pointer (some ⟨g, off, none⟩))).run Tryd.prog w = .ok v w := by simp [go_sem, h]
theorem run_load2 (w : World) (g off : Nat) (v : Value) (h : w.cell? ⟨g, off, none⟩ = some v) : (Instr.loadAt 2 (.pointer (some ⟨g, off, none⟩))).run Tryd.prog w = .ok v w := by simp [go_sem, h]
theorem run_load5 (w : World) (g off : Nat) (v : Value) (h : w.cell? ⟨g, off, none⟩ = some v) : (Instr.loadAt 5 (.pointer (some ⟨g, off, none⟩))).run Tryd.prog w = .ok v w := by simp [go_sem, h]
theorem run_load4 (w : World) (g off : Nat) (v : Value) (h : w.cell? ⟨g, off, none⟩ = some v) : (Instr.loadAt 4 (.pointer (some ⟨g, off, none⟩))).run Tryd.prog w = .ok v w := by simp [go_sem, h]
theorem quiet_load31 (x : Operand) (ho : o.op = .load 31 x) (g off : Nat) (v : Value) (hx : a.eval x = .pointer (some ⟨g, off, none⟩)) (hr : ∀ w, C w → w.cell? ⟨g, off, none⟩ = some v) (hk : K (a.put o.dst v)) : o.quiet Tryd.prog a C K :=
  quiet_val (fun w hw => by simp only [execOp, ho, hx, Sem.run_bind, run_load31 w g off v (hr w hw)]; rfl) hk
theorem quiet_load34 (x : Operand) (ho : o.op = .load 34 x) (g off : Nat) (v : Value) (hx : a.eval x = .pointer (some ⟨g, off, none⟩)) (hr : ∀ w, C w → w.cell? ⟨g, off, none⟩ = some v) (hk : K (a.put o.dst v)) : o.quiet Tryd.prog a C K :=
  quiet_val (fun w hw => by simp only [execOp, ho, hx, Sem.run_bind, run_load34 w g off v (hr w hw)]; rfl) hk
theorem quiet_load3 (x : Operand) (ho : o.op = .load 3 x) (g off : Nat) (v : Value) (hx : a.eval x = .pointer (some ⟨g, off, none⟩)) (hr : ∀ w, C w → w.cell? ⟨g, off, none⟩ = some v) (hk : K (a.put o.dst v)) : o.quiet Tryd.prog a C K :=
  quiet_val (fun w hw => by simp only [execOp, ho, hx, Sem.run_bind, run_load3 w g off v (hr w hw)]; rfl) hk
theorem quiet_load2 (x : Operand) (ho : o.op = .load 2 x) (g off : Nat) (v : Value) (hx : a.eval x = .pointer (some ⟨g, off, none⟩)) (hr : ∀ w, C w → w.cell? ⟨g, off, none⟩ = some v) (hk : K (a.put o.dst v)) : o.quiet Tryd.prog a C K :=
  quiet_val (fun w hw => by simp only [execOp, ho, hx, Sem.run_bind, run_load2 w g off v (hr w hw)]; rfl) hk
theorem quiet_f36_0 (x : Operand) (ho : o.op = .fieldAddr 36 x 0) (g : Nat) (hx : a.eval x = .pointer (some ⟨g, 0, none⟩)) (hk : K (a.put o.dst (.pointer (some ⟨g, 0, none⟩)))) : o.quiet Tryd.prog a C K :=
  quiet_val (fun w hw => by simp only [execOp, ho, hx]; simp [go_sem]) hk
theorem quiet_f36_1 (x : Operand) (ho : o.op = .fieldAddr 36 x 1) (g : Nat) (hx : a.eval x = .pointer (some ⟨g, 0, none⟩)) (hk : K (a.put o.dst (.pointer (some ⟨g, 1, none⟩)))) : o.quiet Tryd.prog a C K :=
  quiet_val (fun w hw => by simp only [execOp, ho, hx]; simp [go_sem]) hk
theorem quiet_f36_2 (x : Operand) (ho : o.op = .fieldAddr 36 x 2) (g : Nat) (hx : a.eval x = .pointer (some ⟨g, 0, none⟩)) (hk : K (a.put o.dst (.pointer (some ⟨g, 2, none⟩)))) : o.quiet Tryd.prog a C K :=
  quiet_val (fun w hw => by simp only [execOp, ho, hx]; simp [go_sem]) hk
theorem quiet_f36_3 (x : Operand) (ho : o.op = .fieldAddr 36 x 3) (g : Nat) (hx : a.eval x = .pointer (some ⟨g, 0, none⟩)) (hk : K (a.put o.dst (.pointer (some ⟨g, 3, none⟩)))) : o.quiet Tryd.prog a C K :=
  quiet_val (fun w hw => by simp only [execOp, ho, hx]; simp [go_sem]) hk
theorem quiet_f36_4 (x : Operand) (ho : o.op = .fieldAddr 36 x 4) (g : Nat) (hx : a.eval x = .pointer (some ⟨g, 0, none⟩)) (hk : K (a.put o.dst (.pointer (some ⟨g, 19, none⟩)))) : o.quiet Tryd.prog a C K :=
  quiet_val (fun w hw => by simp only [execOp, ho, hx]; simp [go_sem]) hk
theorem quiet_f27_0 (x : Operand) (ho : o.op = .fieldAddr 27 x 0) (g : Nat) (hx : a.eval x = .pointer (some ⟨g, 0, none⟩)) (hk : K (a.put o.dst (.pointer (some ⟨g, 0, none⟩)))) : o.quiet Tryd.prog a C K :=
  quiet_val (fun w hw => by simp only [execOp, ho, hx]; simp [go_sem]) hk
theorem quiet_f27_1 (x : Operand) (ho : o.op = .fieldAddr 27 x 1) (g : Nat) (hx : a.eval x = .pointer (some ⟨g, 0, none⟩)) (hk : K (a.put o.dst (.pointer (some ⟨g, 16, none⟩)))) : o.quiet Tryd.prog a C K :=
  quiet_val (fun w hw => by simp only [execOp, ho, hx]; simp [go_sem]) hk
theorem quiet_f27_2 (x : Operand) (ho : o.op = .fieldAddr 27 x 2) (g : Nat) (hx : a.eval x = .pointer (some ⟨g, 0, none⟩)) (hk : K (a.put o.dst (.pointer (some ⟨g, 17, none⟩)))) : o.quiet Tryd.prog a C K :=
  quiet_val (fun w hw => by simp only [execOp, ho, hx]; simp [go_sem]) hk
theorem quiet_f27_3 (x : Operand) (ho : o.op = .fieldAddr 27 x 3) (g : Nat) (hx : a.eval x = .pointer (some ⟨g, 0, none⟩)) (hk : K (a.put o.dst (.pointer (some ⟨g, 18, none⟩)))) : o.quiet Tryd.prog a C K :=
  quiet_val (fun w hw => by simp only [execOp, ho, hx]; simp [go_sem]) hk
theorem quiet_f27_4 (x : Operand) (ho : o.op = .fieldAddr 27 x 4) (g : Nat) (hx : a.eval x = .pointer (some ⟨g, 0, none⟩)) (hk : K (a.put o.dst (.pointer (some ⟨g, 19, none⟩)))) : o.quiet Tryd.prog a C K :=
  quiet_val (fun w hw => by simp only [execOp, ho, hx]; simp [go_sem]) hk
theorem quiet_f27_5 (x : Operand) (ho : o.op = .fieldAddr 27 x 5) (g : Nat) (hx : a.eval x = .pointer (some ⟨g, 0, none⟩)) (hk : K (a.put o.dst (.pointer (some ⟨g, 20, none⟩)))) : o.quiet Tryd.prog a C K :=
  quiet_val (fun w hw => by simp only [execOp, ho, hx]; simp [go_sem]) hk
theorem quiet_f27_6 (x : Operand) (ho : o.op = .fieldAddr 27 x 6) (g : Nat) (hx : a.eval x = .pointer (some ⟨g, 0, none⟩)) (hk : K (a.put o.dst (.pointer (some ⟨g, 21, none⟩)))) : o.quiet Tryd.prog a C K :=
  quiet_val (fun w hw => by simp only [execOp, ho, hx]; simp [go_sem]) hk
theorem quiet_f30_0 (x : Operand) (ho : o.op = .fieldAddr 30 x 0) (g : Nat) (hx : a.eval x = .pointer (some ⟨g, 0, none⟩)) (hk : K (a.put o.dst (.pointer (some ⟨g, 0, none⟩)))) : o.quiet Tryd.prog a C K :=
  quiet_val (fun w hw => by simp only [execOp, ho, hx]; simp [go_sem]) hk
theorem quiet_f30_1 (x : Operand) (ho : o.op = .fieldAddr 30 x 1) (g : Nat) (hx : a.eval x = .pointer (some ⟨g, 0, none⟩)) (hk : K (a.put o.dst (.pointer (some ⟨g, 1, none⟩)))) : o.quiet Tryd.prog a C K :=
  quiet_val (fun w hw => by simp only [execOp, ho, hx]; simp [go_sem]) hk
theorem quiet_f30_2 (x : Operand) (ho : o.op = .fieldAddr 30 x 2) (g : Nat) (hx : a.eval x = .pointer (some ⟨g, 0, none⟩)) (hk : K (a.put o.dst (.pointer (some ⟨g, 2, none⟩)))) : o.quiet Tryd.prog a C K :=
  quiet_val (fun w hw => by simp only [execOp, ho, hx]; simp [go_sem]) hk
theorem quiet_f30_3 (x : Operand) (ho : o.op = .fieldAddr 30 x 3) (g : Nat) (hx : a.eval x = .pointer (some ⟨g, 0, none⟩)) (hk : K (a.put o.dst (.pointer (some ⟨g, 3, none⟩)))) : o.quiet Tryd.prog a C K :=
  quiet_val (fun w hw => by simp only [execOp, ho, hx]; simp [go_sem]) hk
theorem quiet_f30_4 (x : Operand) (ho : o.op = .fieldAddr 30 x 4) (g : Nat) (hx : a.eval x = .pointer (some ⟨g, 0, none⟩)) (hk : K (a.put o.dst (.pointer (some ⟨g, 4, none⟩)))) : o.quiet Tryd.prog a C K :=
  quiet_val (fun w hw => by simp only [execOp, ho, hx]; simp [go_sem]) hk
theorem quiet_eqV (x y : Operand) (t : TypeId) (ho : o.op = .binOp .eql 27 x y t) (E E' : Ef) (hx : a.eval x = E.v) (hy : a.eval y = E'.v) (hk : K (a.put o.dst (.bool (eqE E.R E.pc E.st E.ad E.va E.fa E.ca E'.R E'.pc E'.st E'.ad E'.va E'.fa E'.ca)))) : o.quiet Tryd.prog a C K :=
  quiet_val (fun w hw => by
    have hg : (eqGuard .eql 27 x y E.v E'.v).run Tryd.prog w = .ok () w := run_eqGuard_agg w .eql 27 x y _ _ (by kernel_rfl)
    have he : (binOp .eql 27 E.v E'.v).run Tryd.prog w = .ok (.bool (eqE E.R E.pc E.st E.ad E.va E.fa E.ca E'.R E'.pc E'.st E'.ad E'.va E'.fa E'.ca)) w := run_eq27 E.R E.pc E.st E.ad E.va E.fa E.ca E'.R E'.pc E'.st E'.ad E'.va E'.fa E'.ca w
    simp only [execOp, ho, hx, hy, Sem.run_bind, hg, Result.andThen_ok, he]; rfl) hk
theorem quiet_call {f : FuncId} {args : Array Value} {v : Value} (hrun : ∀ w, (execOp a.eval o).run Tryd.prog w = .ok (.enter f args) w) (hc : ∀ w, C w → Calls Tryd.prog f args w fun e w'' => e = .returned v ∧ C w'') (hk : K (a.put o.dst v)) : o.quiet Tryd.prog a C K :=
  ⟨v, fun w hw => by unfold Oper.quietAt; rw [hrun w]; exact ⟨rfl, hc w hw⟩, hk⟩
theorem quiet_step12 (x0 x1 x2 x3 x4 : Operand) (ho : o.op = .call { callee := .value (.func 12), args := #[x0, x1, x2, x3, x4], argTypes := #[31, 34, 3, 25, 3] }) (v0 v1 v2 v3 v4 v : Value) (h0 : a.eval x0 = v0) (h1 : a.eval x1 = v1) (h2 : a.eval x2 = v2) (h3 : a.eval x3 = v3) (h4 : a.eval x4 = v4)
    (hc : ∀ w, C w → Calls Tryd.prog 12 #[v0, v1, v2, v3, v4] w fun e w'' => e = .returned v ∧ C w'') (hk : K (a.put o.dst v)) : o.quiet Tryd.prog a C K :=
  quiet_call (f := 12) (args := #[v0, v1, v2, v3, v4]) (fun w => by subst h0 h1 h2 h3 h4; simp [execOp, ho, go_sem, Act.eval]) hc hk
end

theorem eqE_self (E : Ef) : eqE E.R E.pc E.st E.ad E.va E.fa E.ca E.R E.pc E.st E.ad E.va E.fa E.ca = true := by unfold eqE; rw [eqR_self]; simp

end Go.Proofs.YtijeaonldhccmaaDoor
