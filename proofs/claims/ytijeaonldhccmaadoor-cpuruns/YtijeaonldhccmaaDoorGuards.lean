/-
  Guarded operations on wholes: loads and '=='.
-/
import Derived.Test.YtijeaonldhccmaaDoorEqs
import Derived.BigFrame
namespace Go.Proofs.YtijeaonldhccmaaDoor
open Go.RowKit
set_option linter.unusedVariables false

section
variable {ops : Array Oper} {rest : List Oper} {op : Oper} {a : Act} {w : World} {Q : Exit → Act → World → Prop}
theorem wg_val {P : Program} {w' : World} {v : Value} (hw : Region.wanted op (yielded ops a.tmps) = true) (hr : (execOp a.eval op).run P w = .ok (.value v) w') (h : wpList P ops Q rest (a.put op.dst v) w') : wpList P ops Q (op :: rest) a w :=
  BigFrame.wpList_want hw fun K hK => by unfold Oper.wp; rw [hr]; exact hK _ _ h
theorem wg_load25 (x : Operand) (ho : op.op = .load 25 x) (hw : Region.wanted op (yielded ops a.tmps) = true) (g off : Nat) (R : Nat → Int) (hx : a.eval x = .pointer (some ⟨g, off, none⟩)) (hr : w.rangeAt g off (regC R).toList)
    (h : wpList Tryd.prog ops Q rest (a.put op.dst (regV R)) w) : wpList Tryd.prog ops Q (op :: rest) a w :=
  wg_val hw (by simp only [execOp, ho, hx, Sem.run_bind, run_load25 w g off R hr]; rfl) h
theorem wg_eq25 (x y : Operand) (t : TypeId) (ho : op.op = .binOp .eql 25 x y t) (hw : Region.wanted op (yielded ops a.tmps) = true) (R S : Nat → Int) (hx : a.eval x = regV R) (hy : a.eval y = regV S)
    (h : wpList Tryd.prog ops Q rest (a.put op.dst (.bool (eqR R S))) w) : wpList Tryd.prog ops Q (op :: rest) a w :=
  wg_val hw (by simp only [execOp, ho, hx, hy, Sem.run_bind, run_eq25]; rfl) h
theorem wg_neq25 (x y : Operand) (t : TypeId) (ho : op.op = .binOp .neq 25 x y t) (hw : Region.wanted op (yielded ops a.tmps) = true) (R S : Nat → Int) (hx : a.eval x = regV R) (hy : a.eval y = regV S)
    (h : wpList Tryd.prog ops Q rest (a.put op.dst (.bool (!eqR R S))) w) : wpList Tryd.prog ops Q (op :: rest) a w :=
  wg_val hw (by simp only [execOp, ho, hx, hy, Sem.run_bind, run_neq25]; rfl) h
theorem wg_load27 (x : Operand) (ho : op.op = .load 27 x) (hw : Region.wanted op (yielded ops a.tmps) = true) (R : Nat → Int) (pc : Int) (st : Bool) (ad va fa ca : Int) (g : Nat) (hx : a.eval x = .pointer (some ⟨g, 0, none⟩)) (hg : w.heap[g]? = some (.cells (effC R pc st ad va fa ca) 27))
    (h : wpList Tryd.prog ops Q rest (a.put op.dst (effV R pc st ad va fa ca)) w) : wpList Tryd.prog ops Q (op :: rest) a w :=
  wg_val hw (by simp only [execOp, ho, hx, Instr.loadAt, Instr.sureAddr, Sem.run_bind, Sem.run_pure, Result.andThen_ok, run_loadVar_row w g 27 27 _ _ _ hg Tryd.underlying27 rfl (by rw [effC_size]; exact info27)]; rfl) h
theorem wg_eq27 (x y : Operand) (t : TypeId) (ho : op.op = .binOp .eql 27 x y t) (hw : Region.wanted op (yielded ops a.tmps) = true) (R : Nat → Int) (pc : Int) (st : Bool) (ad va fa ca : Int) (R' : Nat → Int) (pc' : Int) (st' : Bool) (ad' va' fa' ca' : Int) (hx : a.eval x = effV R pc st ad va fa ca) (hy : a.eval y = effV R' pc' st' ad' va' fa' ca')
    (h : wpList Tryd.prog ops Q rest (a.put op.dst (.bool (eqE R pc st ad va fa ca R' pc' st' ad' va' fa' ca'))) w) : wpList Tryd.prog ops Q (op :: rest) a w :=
  wg_val hw (by have hg : (eqGuard .eql 27 x y (effV R pc st ad va fa ca) (effV R' pc' st' ad' va' fa' ca')).run Tryd.prog w = .ok () w := run_eqGuard_agg w .eql 27 x y _ _ (by kernel_rfl); simp only [execOp, ho, hx, hy, Sem.run_bind, hg, Result.andThen_ok, run_eq27]; rfl) h
theorem wg_neq27 (x y : Operand) (t : TypeId) (ho : op.op = .binOp .neq 27 x y t) (hw : Region.wanted op (yielded ops a.tmps) = true) (R : Nat → Int) (pc : Int) (st : Bool) (ad va fa ca : Int) (R' : Nat → Int) (pc' : Int) (st' : Bool) (ad' va' fa' ca' : Int) (hx : a.eval x = effV R pc st ad va fa ca) (hy : a.eval y = effV R' pc' st' ad' va' fa' ca')
    (h : wpList Tryd.prog ops Q rest (a.put op.dst (.bool (!eqE R pc st ad va fa ca R' pc' st' ad' va' fa' ca'))) w) : wpList Tryd.prog ops Q (op :: rest) a w :=
  wg_val hw (by have hg : (eqGuard .neq 27 x y (effV R pc st ad va fa ca) (effV R' pc' st' ad' va' fa' ca')).run Tryd.prog w = .ok () w := run_eqGuard_agg w .neq 27 x y _ _ (by kernel_rfl); simp only [execOp, ho, hx, hy, Sem.run_bind, hg, Result.andThen_ok, run_neq27]; rfl) h
end

/-- a quiet call whose world is below: what the walk of a world keeps -/
theorem bcell {W w1 : World} (hb : Below W.heap.size W w1) : (∀ b o, b < W.heap.size → w1.cell? ⟨b, o, none⟩ = W.cell? ⟨b, o, none⟩) ∧ (∀ b o, b < W.heap.size → w1.frozen? ⟨b, o, none⟩ = W.frozen? ⟨b, o, none⟩) :=
  ⟨fun b o h => hb.cell (p := ⟨b, o, none⟩) h, fun b o h => hb.frozen (p := ⟨b, o, none⟩) h⟩

end Go.Proofs.YtijeaonldhccmaaDoor
