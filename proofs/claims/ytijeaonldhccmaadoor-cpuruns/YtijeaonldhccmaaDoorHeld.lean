/-
  Regions that draw their order, driven by hand: reads first, then the calls and stores as they come up.
-/
import Derived.Test.YtijeaonldhccmaaDoorRefC
import Derived.Test.YtijeaonldhccmaaDoorQuiets
import Derived.Deep.RegionHeld
namespace Go.Proofs.YtijeaonldhccmaaDoor
open Go.RowKit
set_option linter.unusedVariables false

section
variable {P : Program} {md : Region.Mode} {ops : Array Oper} {Q : Exit → Act → World → Prop} {S : World → Prop} {fuel : Nat} {listed : Array Bool} {a : Act} {w : World}
theorem h_take (i : Nat) {oi : Oper} {v : Value} (hi : ops[i]? = some oi) (hs : Region.noSelect ops = true) (hf : Region.free md ops listed i = true) (hr : (Region.ready md ops listed).contains i = true)
    (hQ : ∀ c a w, Q (.panic c) (a.put oi.dst v) w → Q (.panic c) a w) (hw : Region.wanted oi (yielded ops a.tmps) = true) (hv : ∀ w, S w → (execOp a.eval oi).run P w = .ok (.value v) w) (hS : S w)
    (h : wpAnyH P md ops Q S fuel (listed.setIfInBounds i true) (a.put oi.dst v) w) : wpAnyH P md ops Q S (fuel + 1) listed a w :=
  wpAnyH_take hi hs hf hr hQ (.inl ⟨hw, hv⟩) hS h
theorem h_skip (i : Nat) {oi : Oper} (hi : ops[i]? = some oi) (hs : Region.noSelect ops = true) (hf : Region.free md ops listed i = true) (hr : (Region.ready md ops listed).contains i = true)
    (hQ : ∀ c a w, Q (.panic c) (a.put oi.dst undef) w → Q (.panic c) a w) (hw : Region.wanted oi (yielded ops a.tmps) = false) (hS : S w)
    (h : wpAnyH P md ops Q S fuel (listed.setIfInBounds i true) (a.put oi.dst undef) w) : wpAnyH P md ops Q S (fuel + 1) listed a w :=
  wpAnyH_take hi hs hf hr hQ (.inr ⟨hw, rfl⟩) hS h
/-- one operation is left that may come up: a call -/
theorem h_call (i : Nat) {oi : Oper} {f : FuncId} {args : Array Value} {v : Value} (hr : Region.ready md ops listed = [i]) (hi : ops[i]? = some oi) (hw : Region.wanted oi (yielded ops a.tmps) = true) (hrun : (execOp a.eval oi).run P w = .ok (.enter f args) w)
    (hc : Calls P f args w fun e w'' => e = .returned v ∧ S w'') (h : ∀ w'', S w'' → wpAnyH P md ops Q S fuel (listed.setIfInBounds i true) (a.put oi.dst v) w'') : wpAnyH P md ops Q S (fuel + 1) listed a w := by
  refine wpAnyH_ready hr (by simp) (AllReadyH.cons hi (fun K hK => ?_) AllReadyH.nil)
  rw [if_pos hw]
  unfold Oper.wp
  rw [hrun]
  refine hc.mono ?_
  rintro e w'' ⟨rfl, hS⟩
  exact hK.out _ _ hS (fun _ => h w'' hS)
/-- one operation is left that may come up: it turns the world -/
theorem h_turn (i : Nat) {oi : Oper} {w' : World} (hr : Region.ready md ops listed = [i]) (hi : ops[i]? = some oi) (hw : Region.wanted oi (yielded ops a.tmps) = true) (hrun : (execOp a.eval oi).run P w = .ok .skip w')
    (hS : S w') (h : wpAnyH P md ops Q S fuel (listed.setIfInBounds i true) (a.put oi.dst undef) w') : wpAnyH P md ops Q S (fuel + 1) listed a w := by
  refine wpAnyH_ready hr (by simp) (AllReadyH.cons hi (fun K hK => ?_) AllReadyH.nil)
  rw [if_pos hw]
  unfold Oper.wp
  rw [hrun]
  exact hK.out _ _ hS (fun _ => h)
end

section
variable {o : Oper} {a : Act} {w : World}
theorem er_move (x : Operand) (ho : o.op = .move x) : (execOp a.eval o).run Tryd.prog w = .ok (.value (a.eval x)) w := by simp only [execOp, ho]; rfl
theorem er_load25 (x : Operand) (ho : o.op = .load 25 x) (g off : Nat) (R : Nat → Int) (hx : a.eval x = .pointer (some ⟨g, off, none⟩)) (hr : w.rangeAt g off (regC R).toList) : (execOp a.eval o).run Tryd.prog w = .ok (.value (regV R)) w := by
  simp only [execOp, ho, hx, Sem.run_bind, run_load25 w g off R hr]; rfl
theorem er_load27 (x : Operand) (ho : o.op = .load 27 x) (E : Ef) (g : Nat) (hx : a.eval x = .pointer (some ⟨g, 0, none⟩)) (hg : w.heap[g]? = some (.cells (effC E.R E.pc E.st E.ad E.va E.fa E.ca) 27)) : (execOp a.eval o).run Tryd.prog w = .ok (.value E.v) w := by
  simp only [execOp, ho, hx, Instr.loadAt, Instr.sureAddr, Sem.run_bind, Sem.run_pure, Result.andThen_ok, run_loadVar_row w g 27 27 _ _ _ hg Tryd.underlying27 rfl (by rw [effC_size]; exact info27)]; rfl
theorem er_load2 (x : Operand) (ho : o.op = .load 2 x) (g off : Nat) (v : Value) (hx : a.eval x = .pointer (some ⟨g, off, none⟩)) (hr : w.cell? ⟨g, off, none⟩ = some v) : (execOp a.eval o).run Tryd.prog w = .ok (.value v) w := by
  simp only [execOp, ho, hx, Sem.run_bind, run_load2 w g off v hr]; rfl
theorem er_load3 (x : Operand) (ho : o.op = .load 3 x) (g off : Nat) (v : Value) (hx : a.eval x = .pointer (some ⟨g, off, none⟩)) (hr : w.cell? ⟨g, off, none⟩ = some v) : (execOp a.eval o).run Tryd.prog w = .ok (.value v) w := by
  simp only [execOp, ho, hx, Sem.run_bind, run_load3 w g off v hr]; rfl
theorem er_load5 (x : Operand) (ho : o.op = .load 5 x) (g off : Nat) (v : Value) (hx : a.eval x = .pointer (some ⟨g, off, none⟩)) (hr : w.cell? ⟨g, off, none⟩ = some v) : (execOp a.eval o).run Tryd.prog w = .ok (.value v) w := by
  simp only [execOp, ho, hx, Sem.run_bind, run_load5 w g off v hr]; rfl
theorem er_load31 (x : Operand) (ho : o.op = .load 31 x) (g off : Nat) (v : Value) (hx : a.eval x = .pointer (some ⟨g, off, none⟩)) (hr : w.cell? ⟨g, off, none⟩ = some v) : (execOp a.eval o).run Tryd.prog w = .ok (.value v) w := by
  simp only [execOp, ho, hx, Sem.run_bind, run_load31 w g off v hr]; rfl
theorem er_load34 (x : Operand) (ho : o.op = .load 34 x) (g off : Nat) (v : Value) (hx : a.eval x = .pointer (some ⟨g, off, none⟩)) (hr : w.cell? ⟨g, off, none⟩ = some v) : (execOp a.eval o).run Tryd.prog w = .ok (.value v) w := by
  simp only [execOp, ho, hx, Sem.run_bind, run_load34 w g off v hr]; rfl
theorem er_build27c (x y z : Operand) (ho : o.op = .build 27 #[(0, x), (1, y), (5, z)]) (R : Nat → Int) (pc fa : Int) (hx : a.eval x = regV R) (hy : a.eval y = .int .i64 pc) (hz : a.eval z = .int .i64 fa) : (execOp a.eval o).run Tryd.prog w = .ok (.value (effV R pc false 0 0 fa 0)) w := by
  simp only [execOp, ho, List.map_toArray, List.map_cons, List.map_nil, hx, hy, hz]; rw [Sem.run_bind, run_build27c R pc fa w]; rfl
theorem er_store27 (x y : Operand) (ho : o.op = .store 27 x y) (E : Ef) (g : Nat) (cs : Array Value) (hx : a.eval x = .pointer (some ⟨g, 0, none⟩)) (hy : a.eval y = E.v) (hg : w.heap[g]? = some (.cells cs 27)) (hs : cs.size = 22) : (execOp a.eval o).run Tryd.prog w = .ok .skip (w.setRow g (effC E.R E.pc E.st E.ad E.va E.fa E.ca)) := by
  simp only [execOp, ho, hx, hy, Ef.v, effV, Instr.storeAt, Instr.sureAddr, Sem.run_bind, Sem.run_pure, Result.andThen_ok, run_storeVar_row w g 27 27 cs _ hg (by rw [effC_size]; exact info27) (by rw [effC_size]; exact hs) (effC_one E.R E.pc E.st E.ad E.va E.fa E.ca)]
theorem er_call_bulkheadref06_with (x0 x1 x2 : Operand) (ts : Array TypeId) (ho : o.op = .call { callee := .value (.func 76), args := #[x0, x1, x2], argTypes := ts }) : (execOp a.eval o).run Tryd.prog w = .ok (.enter 76 #[a.eval x0, a.eval x1, a.eval x2]) w := by
  simp [execOp, ho, go_sem, Act.eval]
theorem er_call_bulkheadref06_reckoned (x0 x1 x2 : Operand) (ts : Array TypeId) (ho : o.op = .call { callee := .value (.func 80), args := #[x0, x1, x2], argTypes := ts }) : (execOp a.eval o).run Tryd.prog w = .ok (.enter 80 #[a.eval x0, a.eval x1, a.eval x2]) w := by
  simp [execOp, ho, go_sem, Act.eval]
theorem er_call_bulkheadref06_In (x0 x1 : Operand) (ts : Array TypeId) (ho : o.op = .call { callee := .value (.func 31), args := #[x0, x1], argTypes := ts }) : (execOp a.eval o).run Tryd.prog w = .ok (.enter 31 #[a.eval x0, a.eval x1]) w := by
  simp [execOp, ho, go_sem, Act.eval]
theorem er_call_bulkheadref06_done (x0 x1 x2 x3 x4 x5 : Operand) (ts : Array TypeId) (ho : o.op = .call { callee := .value (.func 34), args := #[x0, x1, x2, x3, x4, x5], argTypes := ts }) : (execOp a.eval o).run Tryd.prog w = .ok (.enter 34 #[a.eval x0, a.eval x1, a.eval x2, a.eval x3, a.eval x4, a.eval x5]) w := by
  simp [execOp, ho, go_sem, Act.eval]
theorem er_call_bulkheadref06_Step (x0 x1 x2 x3 x4 : Operand) (ts : Array TypeId) (ho : o.op = .call { callee := .value (.func 21), args := #[x0, x1, x2, x3, x4], argTypes := ts }) : (execOp a.eval o).run Tryd.prog w = .ok (.enter 21 #[a.eval x0, a.eval x1, a.eval x2, a.eval x3, a.eval x4]) w := by
  simp [execOp, ho, go_sem, Act.eval]
theorem er_call_cpu_Step (x0 x1 x2 x3 x4 : Operand) (ts : Array TypeId) (ho : o.op = .call { callee := .value (.func 12), args := #[x0, x1, x2, x3, x4], argTypes := ts }) : (execOp a.eval o).run Tryd.prog w = .ok (.enter 12 #[a.eval x0, a.eval x1, a.eval x2, a.eval x3, a.eval x4]) w := by
  simp [execOp, ho, go_sem, Act.eval]
theorem er_call_bulkheadlaw06_instrs (x0 : Operand) (ts : Array TypeId) (ho : o.op = .call { callee := .value (.func 19), args := #[x0], argTypes := ts }) : (execOp a.eval o).run Tryd.prog w = .ok (.enter 19 #[a.eval x0]) w := by
  simp [execOp, ho, go_sem, Act.eval]
theorem er_call_bulkheadlaw06_words (x0 : Operand) (ts : Array TypeId) (ho : o.op = .call { callee := .value (.func 20), args := #[x0], argTypes := ts }) : (execOp a.eval o).run Tryd.prog w = .ok (.enter 20 #[a.eval x0]) w := by
  simp [execOp, ho, go_sem, Act.eval]
theorem er_call_bulkheadlaw06_sameWords (x0 x1 : Operand) (ts : Array TypeId) (ho : o.op = .call { callee := .value (.func 18), args := #[x0, x1], argTypes := ts }) : (execOp a.eval o).run Tryd.prog w = .ok (.enter 18 #[a.eval x0, a.eval x1]) w := by
  simp [execOp, ho, go_sem, Act.eval]
theorem er_call_bulkheadlaw06_sameCode (x0 x1 : Operand) (ts : Array TypeId) (ho : o.op = .call { callee := .value (.func 22), args := #[x0, x1], argTypes := ts }) : (execOp a.eval o).run Tryd.prog w = .ok (.enter 22 #[a.eval x0, a.eval x1]) w := by
  simp [execOp, ho, go_sem, Act.eval]
theorem er_call_bulkheadlaw06_turned (x0 x1 : Operand) (ts : Array TypeId) (ho : o.op = .call { callee := .value (.func 23), args := #[x0, x1], argTypes := ts }) : (execOp a.eval o).run Tryd.prog w = .ok (.enter 23 #[a.eval x0, a.eval x1]) w := by
  simp [execOp, ho, go_sem, Act.eval]
end

end Go.Proofs.YtijeaonldhccmaaDoor
