/-
  The table that a function makes.
-/
import Derived.Test.YtijeaonldhccmaaDoorLaws
import Derived.Deep.DeepCutAuto
namespace Go.Proofs.YtijeaonldhccmaaDoor
open Go.RowKit
set_option linter.unusedVariables false

abbrev fnV (k : Nat) : Value := .func (.func k) #[] #[]
def tabC : Array Value := #[.nilFunc, .nilFunc, .nilFunc, .nilFunc, .nilFunc, .nilFunc, .nilFunc, .nilFunc, .nilFunc, fnV 35, .nilFunc, .nilFunc, .nilFunc, fnV 36, .nilFunc, .nilFunc, .nilFunc, fnV 37, .nilFunc, .nilFunc, fnV 38, fnV 39, .nilFunc, .nilFunc, fnV 40, .nilFunc, .nilFunc, fnV 41, .nilFunc, fnV 42, .nilFunc, .nilFunc, .nilFunc, fnV 43, .nilFunc, .nilFunc, .nilFunc, fnV 44, .nilFunc, .nilFunc, fnV 45, fnV 46, .nilFunc, .nilFunc, fnV 45, fnV 47, .nilFunc, .nilFunc, .nilFunc, fnV 48, .nilFunc, .nilFunc, .nilFunc, fnV 49, .nilFunc, .nilFunc, .nilFunc, fnV 50, .nilFunc, .nilFunc, .nilFunc, fnV 51, .nilFunc, .nilFunc, .nilFunc, fnV 53, .nilFunc, .nilFunc, .nilFunc, fnV 54, .nilFunc, .nilFunc, .nilFunc, fnV 55, .nilFunc, .nilFunc, .nilFunc, fnV 56, .nilFunc, .nilFunc, .nilFunc, fnV 58, .nilFunc, .nilFunc, .nilFunc, fnV 59, .nilFunc, .nilFunc, .nilFunc, .nilFunc, fnV 60, .nilFunc, .nilFunc, .nilFunc, fnV 61, .nilFunc, .nilFunc, .nilFunc, fnV 63, .nilFunc, .nilFunc, .nilFunc, fnV 64, .nilFunc, .nilFunc, .nilFunc, fnV 65, fnV 66, fnV 67, .nilFunc, .nilFunc, fnV 68]
def tabV : Value := .agg tabC
def tabL : List (Nat × Value) := [(1, .agg #[.nilFunc, .nilFunc, .nilFunc, .nilFunc]), (2, .agg #[.nilFunc, fnV 35, .nilFunc, .nilFunc]), (3, .agg #[.nilFunc, fnV 36, .nilFunc, .nilFunc]), (4, .agg #[.nilFunc, fnV 37, .nilFunc, .nilFunc]), (5, .agg #[fnV 38, fnV 39, .nilFunc, .nilFunc]), (6, .agg #[fnV 40, .nilFunc, .nilFunc, fnV 41]), (7, .agg #[.nilFunc, fnV 42, .nilFunc, .nilFunc]), (8, .agg #[.nilFunc, fnV 43, .nilFunc, .nilFunc]), (9, .agg #[.nilFunc, fnV 44, .nilFunc, .nilFunc]), (10, .agg #[fnV 45, fnV 46, .nilFunc, .nilFunc]), (11, .agg #[fnV 45, fnV 47, .nilFunc, .nilFunc]), (12, .agg #[.nilFunc, fnV 48, .nilFunc, .nilFunc]), (13, .agg #[.nilFunc, fnV 49, .nilFunc, .nilFunc]), (14, .agg #[.nilFunc, fnV 50, .nilFunc, .nilFunc]), (15, .agg #[.nilFunc, fnV 51, .nilFunc, .nilFunc]), (16, .agg #[.nilFunc, fnV 53, .nilFunc, .nilFunc]), (17, .agg #[.nilFunc, fnV 54, .nilFunc, .nilFunc]), (18, .agg #[.nilFunc, fnV 55, .nilFunc, .nilFunc]), (19, .agg #[.nilFunc, fnV 56, .nilFunc, .nilFunc]), (20, .agg #[.nilFunc, fnV 58, .nilFunc, .nilFunc]), (21, .agg #[.nilFunc, fnV 59, .nilFunc, .nilFunc]), (22, .agg #[.nilFunc, .nilFunc, fnV 60, .nilFunc]), (23, .agg #[.nilFunc, .nilFunc, fnV 61, .nilFunc]), (24, .agg #[.nilFunc, .nilFunc, fnV 63, .nilFunc]), (25, .agg #[.nilFunc, .nilFunc, fnV 64, .nilFunc]), (26, .agg #[.nilFunc, .nilFunc, fnV 65, fnV 66]), (27, .agg #[fnV 67, .nilFunc, .nilFunc, fnV 68])]
def tabParts : Array (Nat × Value) := tabL.toArray
theorem tabC_size : tabC.size = 112 := rfl
theorem tabC_one : tabC.all (·.oneCell') = true := by kernel_rfl
theorem info61 : (Tryd.prog.info? 61).map (fun i => (i.zero, i.size)) = some (some (.agg (Array.replicate 112 .nilFunc)), 112) := by kernel_rfl
theorem info61s : (Tryd.prog.info? 61).map (·.size) = some 112 := by kernel_rfl
theorem run_build61 (w : World) : (Instr.build 61 tabParts).run Tryd.prog w = .ok tabV w := by kernel_rfl

section
variable {ops : Array Oper} {rest : List Oper} {op : Oper} {a : Act} {w : World} {Q : Exit → Act → World → Prop}
theorem wl_alloc61 (ho : op.op = .alloc 61) (hgd : op.guard = none)
    (h : wpList Tryd.prog ops Q rest (a.put op.dst (.pointer (some ⟨w.heap.size, 0, none⟩))) (w.alloc (.cells (Array.replicate 112 .nilFunc) 61))) : wpList Tryd.prog ops Q (op :: rest) a w :=
  wpList_val hgd (by simp only [execOp, ho, Instr.alloc, newVar, Sem.run_bind, (zero_of_info info61).1, Result.andThen_ok]; simp [Value.cells, go_sem]) h
theorem wl_build61 (ps : List (Nat × Operand)) (ho : op.op = .build 61 ps.toArray) (hgd : op.guard = none) (hx : (ps.map fun q => (q.1, a.eval q.2)) = tabL)
    (h : wpList Tryd.prog ops Q rest (a.put op.dst tabV) w) : wpList Tryd.prog ops Q (op :: rest) a w :=
  wpList_val hgd (by simp only [execOp, ho, List.map_toArray]; rw [show (ps.map fun (i, x) => (i, a.eval x)) = tabL from hx, show tabL.toArray = tabParts from rfl, Sem.run_bind, run_build61 w]; rfl) h
theorem wl_store61 (x y : Operand) (ho : op.op = .store 61 x y) (hgd : op.guard = none) (g : Nat) (cs : Array Value) (hx : a.eval x = .pointer (some ⟨g, 0, none⟩)) (hy : a.eval y = tabV) (hg : w.heap[g]? = some (.cells cs 61)) (hs : cs.size = 112)
    (h : wpList Tryd.prog ops Q rest (a.put op.dst undef) (w.setRow g tabC)) : wpList Tryd.prog ops Q (op :: rest) a w :=
  wpList_skp hgd (by
    simp only [execOp, ho, hx, hy, tabV, Instr.storeAt, Instr.sureAddr, Sem.run_bind, Sem.run_pure, Result.andThen_ok, run_storeVar_row w g 61 61 cs _ hg (by rw [tabC_size]; exact info61s) (by rw [tabC_size]; exact hs) tabC_one]) h
end

set_option maxHeartbeats 1000000 in
set_option maxRecDepth 100000 in
theorem f26 (w : World) : Calls Tryd.prog 26 #[] w fun ex w' => ex = .returned (.agg tabC) ∧ Below w.heap.size w w' := by
  have hg := heap_alloc_last w (.cells (Array.replicate 112 .nilFunc) 61)
  have hb := (Below.refl _ w).alloc (Nat.le_refl _) (.cells (Array.replicate 112 .nilFunc) 61)
  go_enter Tryd.func26, Tryd.ntmps26
  go_upto_region 1 with (refine wl_alloc61 rfl rfl ?_)
  generalize w.alloc (.cells (Array.replicate 112 .nilFunc) 61) = w1 at *
  have HG : Hid (w1.heap[w.heap.size]? = some (.cells (Array.replicate 112 .nilFunc) 61)) := hg
  clear hg
  go_wp2_with (first
    | (refine wl_build61 _ rfl rfl rfl ?_)
    | (refine wl_store61 _ _ rfl rfl w.heap.size _ rfl rfl HG.out (Array.size_replicate ..) ?_))
  refine bodyPost_ret (results_cell_row rfl _ _ w.heap.size 61 _ _ _ rfl (setRow_heap _ _ _ _ _ _ HG.out) Tryd.underlying61 rfl (by rw [tabC_size]; exact info61s)) rfl ?_
  exact ⟨rfl, ⟨hb.os, hb.tape, hb.output, by simpa [World.setRow] using hb.size, fun k hk => (setRow_other _ _ _ _ (by omega)).trans (hb.block k hk)⟩⟩

end Go.Proofs.YtijeaonldhccmaaDoor
