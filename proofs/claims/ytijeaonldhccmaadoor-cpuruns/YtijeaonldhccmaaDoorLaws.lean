/-
  An effect as a whole: laws for its cells; what lies in the memory while Step runs.
-/
import Derived.Test.YtijeaonldhccmaaDoorSmall3
import Derived.Laws.Rows
import Derived.Laws.Tables
import Derived.Deep.WholeRow
import Derived.Laws.EntriesVeiled
namespace Go.Proofs.YtijeaonldhccmaaDoor
open Go.RowKit
set_option linter.unusedVariables false

def regC (R : Nat → Int) : Array Value := #[.int .i64 (R 0), .int .i64 (R 1), .int .i64 (R 2), .int .i64 (R 3), .int .i64 (R 4), .int .i64 (R 5), .int .i64 (R 6), .int .i64 (R 7), .int .i64 (R 8), .int .i64 (R 9), .int .i64 (R 10), .int .i64 (R 11), .int .i64 (R 12), .int .i64 (R 13), .int .i64 (R 14), .int .i64 (R 15)]
def regV (R : Nat → Int) : Value := .agg (regC R)
def effC (R : Nat → Int) (pc : Int) (st : Bool) (ad va fa ca : Int) : Array Value := #[.int .i64 (R 0), .int .i64 (R 1), .int .i64 (R 2), .int .i64 (R 3), .int .i64 (R 4), .int .i64 (R 5), .int .i64 (R 6), .int .i64 (R 7), .int .i64 (R 8), .int .i64 (R 9), .int .i64 (R 10), .int .i64 (R 11), .int .i64 (R 12), .int .i64 (R 13), .int .i64 (R 14), .int .i64 (R 15), .int .i64 pc, .bool st, .int .i64 ad, .int .i64 va, .int .i64 fa, .int .i64 ca]
def effV (R : Nat → Int) (pc : Int) (st : Bool) (ad va fa ca : Int) : Value := .agg (effC R pc st ad va fa ca)
def upd (R : Nat → Int) (k : Nat) (v : Int) : Nat → Int := fun i => if i = k then v else R i
def zeroR : Nat → Int := fun _ => 0

theorem regC_size (R : Nat → Int) : (regC R).size = 16 := rfl
theorem effC_size (R : Nat → Int) (pc : Int) (st : Bool) (ad va fa ca : Int) : (effC R pc st ad va fa ca).size = 22 := rfl
theorem regC_one (R : Nat → Int) : (regC R).all (·.oneCell') = true := by simp [regC, Value.oneCell']
theorem effC_one (R : Nat → Int) (pc : Int) (st : Bool) (ad va fa ca : Int) : (effC R pc st ad va fa ca).all (·.oneCell') = true := by simp [effC, Value.oneCell']
theorem info25 : (Tryd.prog.info? 25).map (·.size) = some 16 := by kernel_rfl
theorem info27 : (Tryd.prog.info? 27).map (·.size) = some 22 := by kernel_rfl

theorem lt16 {a : Nat} (h : a < 16) : a = 0 ∨ a = 1 ∨ a = 2 ∨ a = 3 ∨ a = 4 ∨ a = 5 ∨ a = 6 ∨ a = 7 ∨ a = 8 ∨ a = 9 ∨ a = 10 ∨ a = 11 ∨ a = 12 ∨ a = 13 ∨ a = 14 ∨ a = 15 := by omega
theorem regC_at (R : Nat → Int) {a : Nat} (h : a < 16) : (regC R)[a]? = some (.int .i64 (R a)) := by
  rcases lt16 h with rfl | rfl | rfl | rfl | rfl | rfl | rfl | rfl | rfl | rfl | rfl | rfl | rfl | rfl | rfl | rfl <;> rfl
theorem effC_at (R : Nat → Int) (pc : Int) (st : Bool) (ad va fa ca : Int) {a : Nat} (h : a < 16) : (effC R pc st ad va fa ca)[a]? = some (.int .i64 (R a)) := by
  rcases lt16 h with rfl | rfl | rfl | rfl | rfl | rfl | rfl | rfl | rfl | rfl | rfl | rfl | rfl | rfl | rfl | rfl <;> rfl
theorem effC_set (R : Nat → Int) (pc : Int) (st : Bool) (ad va fa ca : Int) {a : Nat} (h : a < 16) (v : Int) : (effC R pc st ad va fa ca).setIfInBounds a (.int .i64 v) = effC (upd R a v) pc st ad va fa ca := by
  rcases lt16 h with rfl | rfl | rfl | rfl | rfl | rfl | rfl | rfl | rfl | rfl | rfl | rfl | rfl | rfl | rfl | rfl <;> rfl

section
variable {ops : Array Oper} {rest : List Oper} {op : Oper} {a : Act} {w : World} {Q : Exit → Act → World → Prop} {P : Program}
theorem wpList_val {w' : World} {v : Value} (hgd : op.guard = none) (hr : (execOp a.eval op).run P w = .ok (.value v) w') (h : wpList P ops Q rest (a.put op.dst v) w') : wpList P ops Q (op :: rest) a w :=
  wpList_plain hgd fun K hK => by unfold Oper.wp; rw [hr]; exact hK _ _ h
theorem wpList_skp {w' : World} (hgd : op.guard = none) (hr : (execOp a.eval op).run P w = .ok .skip w') (h : wpList P ops Q rest (a.put op.dst undef) w') : wpList P ops Q (op :: rest) a w :=
  wpList_plain hgd fun K hK => by unfold Oper.wp; rw [hr]; exact hK _ _ h
end

theorem run_build27 (R : Nat → Int) (w : World) : (Instr.build 27 #[(0, regV R)]).run Tryd.prog w = .ok (effV R 0 false 0 0 0 0) w := by
  unfold regV regC effV effC
  simp [Instr.build, Instr.fill, Value.cells]

section
variable {ops : Array Oper} {rest : List Oper} {op : Oper} {a : Act} {w : World} {Q : Exit → Act → World → Prop}
theorem wl_box25 (x : Operand) (ho : op.op = .box 25 x) (hgd : op.guard = none) (R : Nat → Int) (hx : a.eval x = regV R)
    (h : wpList Tryd.prog ops Q rest (a.put op.dst (.pointer (some ⟨w.heap.size, 0, none⟩))) (w.alloc (.cells (regC R) 25))) : wpList Tryd.prog ops Q (op :: rest) a w :=
  wpList_val hgd (by simp only [execOp, ho, hx, Instr.box, newVar, regV, Value.cells]; simp [go_sem]) h
theorem wl_box27 (x : Operand) (ho : op.op = .box 27 x) (hgd : op.guard = none) (R : Nat → Int) (pc : Int) (st : Bool) (ad va fa ca : Int) (hx : a.eval x = effV R pc st ad va fa ca)
    (h : wpList Tryd.prog ops Q rest (a.put op.dst (.pointer (some ⟨w.heap.size, 0, none⟩))) (w.alloc (.cells (effC R pc st ad va fa ca) 27))) : wpList Tryd.prog ops Q (op :: rest) a w :=
  wpList_val hgd (by simp only [execOp, ho, hx, Instr.box, newVar, effV, Value.cells]; simp [go_sem]) h
theorem wl_alloc27 (ho : op.op = .alloc 27) (hgd : op.guard = none)
    (h : wpList Tryd.prog ops Q rest (a.put op.dst (.pointer (some ⟨w.heap.size, 0, none⟩))) (w.alloc (.cells (effC zeroR 0 false 0 0 0 0) 27))) : wpList Tryd.prog ops Q (op :: rest) a w :=
  wpList_val hgd (by simp only [execOp, ho, Instr.alloc, newVar, effC, zeroR]; simp [Value.cells, go_sem]) h
theorem wl_build27 (x : Operand) (ho : op.op = .build 27 #[(0, x)]) (hgd : op.guard = none) (R : Nat → Int) (hx : a.eval x = regV R)
    (h : wpList Tryd.prog ops Q rest (a.put op.dst (effV R 0 false 0 0 0 0)) w) : wpList Tryd.prog ops Q (op :: rest) a w :=
  wpList_val hgd (by simp only [execOp, ho, List.map_toArray, List.map_cons, List.map_nil, hx]; rw [Sem.run_bind, run_build27 R w]; rfl) h
theorem wl_load25 (x : Operand) (ho : op.op = .load 25 x) (hgd : op.guard = none) (R : Nat → Int) (g : Nat) (hx : a.eval x = .pointer (some ⟨g, 0, none⟩)) (hg : w.heap[g]? = some (.cells (regC R) 25))
    (h : wpList Tryd.prog ops Q rest (a.put op.dst (regV R)) w) : wpList Tryd.prog ops Q (op :: rest) a w :=
  wpList_val hgd (by simp only [execOp, ho, hx, Instr.loadAt, Instr.sureAddr, Sem.run_bind, Sem.run_pure, Result.andThen_ok, run_loadVar_row w g 25 25 _ _ _ hg Tryd.underlying25 rfl (by rw [regC_size]; exact info25)]; rfl) h
theorem wl_load27 (x : Operand) (ho : op.op = .load 27 x) (hgd : op.guard = none) (R : Nat → Int) (pc : Int) (st : Bool) (ad va fa ca : Int) (g : Nat) (hx : a.eval x = .pointer (some ⟨g, 0, none⟩)) (hg : w.heap[g]? = some (.cells (effC R pc st ad va fa ca) 27))
    (h : wpList Tryd.prog ops Q rest (a.put op.dst (effV R pc st ad va fa ca)) w) : wpList Tryd.prog ops Q (op :: rest) a w :=
  wpList_val hgd (by simp only [execOp, ho, hx, Instr.loadAt, Instr.sureAddr, Sem.run_bind, Sem.run_pure, Result.andThen_ok, run_loadVar_row w g 27 27 _ _ _ hg Tryd.underlying27 rfl (by rw [effC_size]; exact info27)]; rfl) h
theorem wl_store27 (x y : Operand) (ho : op.op = .store 27 x y) (hgd : op.guard = none) (R : Nat → Int) (pc : Int) (st : Bool) (ad va fa ca : Int) (g : Nat) (cs : Array Value) (hx : a.eval x = .pointer (some ⟨g, 0, none⟩)) (hy : a.eval y = effV R pc st ad va fa ca) (hg : w.heap[g]? = some (.cells cs 27)) (hs : cs.size = 22)
    (h : wpList Tryd.prog ops Q rest (a.put op.dst undef) (w.setRow g (effC R pc st ad va fa ca))) : wpList Tryd.prog ops Q (op :: rest) a w :=
  wpList_skp hgd (by
    simp only [execOp, ho, hx, hy, effV, Instr.storeAt, Instr.sureAddr, Sem.run_bind, Sem.run_pure, Result.andThen_ok, run_storeVar_row w g 27 27 cs _ hg (by rw [effC_size]; exact info27) (by rw [effC_size]; exact hs) (effC_one R pc st ad va fa ca)]) h
end

/-- what lies in the memory while Step runs -/
structure Fr (w0 w : World) (R0 R : Nat → Int) (pc : Int) (st : Bool) (ad va fa ca : Int) : Prop where
  bel : Below w0.heap.size w0 w
  reg : w.heap[w0.heap.size]? = some (.cells (regC R0) 25)
  res : w.heap[w0.heap.size + 1]? = some (.cells (effC zeroR 0 false 0 0 0 0) 27)
  eff : w.heap[w0.heap.size + 1 + 1]? = some (.cells (effC R pc st ad va fa ca) 27)

theorem heap_setCell_ne (w : World) (p : Addr) (v : Value) (k : Nat) (h : k ≠ p.block) : (w.setCell p v).heap[k]? = w.heap[k]? := by
  simp [World.setCell, Array.getElem?_modify, Ne.symm h]
theorem heap_setCell_eq {w : World} {g i : Nat} {cs : Array Value} {t : TypeId} (h : w.heap[g]? = some (.cells cs t)) (v : Value) : (w.setCell ⟨g, i, none⟩ v).heap[g]? = some (.cells (cs.setIfInBounds i v) t) := by
  simp [World.setCell, Array.getElem?_modify, h]

namespace Fr
variable {w0 w w' : World} {R0 R : Nat → Int} {pc : Int} {st : Bool} {ad va fa ca : Int}
theorem grow {B : Nat} (h : Fr w0 w R0 R pc st ad va fa ca) (b : Below B w w') (hB : w0.heap.size + 1 + 1 < B) : Fr w0 w' R0 R pc st ad va fa ca :=
  ⟨h.bel.trans (b.mono (by omega)), (b.block _ (by omega)).trans h.reg, (b.block _ (by omega)).trans h.res, (b.block _ (by omega)).trans h.eff⟩
theorem setBel (h : Fr w0 w R0 R pc st ad va fa ca) (i : Nat) (v : Value) : Below w0.heap.size w0 (w.setCell ⟨w0.heap.size + 1 + 1, i, none⟩ v) :=
  h.bel.setCell (by show w0.heap.size ≤ w0.heap.size + 1 + 1; omega) v
theorem setPc (h : Fr w0 w R0 R pc st ad va fa ca) (v : Int) : Fr w0 (w.setCell ⟨w0.heap.size + 1 + 1, 16, none⟩ (.int .i64 v)) R0 R v st ad va fa ca :=
  ⟨h.setBel _ _, by rw [heap_setCell_ne _ _ _ _ (by show _ ≠ w0.heap.size + 1 + 1; omega)]; exact h.reg, by rw [heap_setCell_ne _ _ _ _ (by show _ ≠ w0.heap.size + 1 + 1; omega)]; exact h.res, heap_setCell_eq h.eff _⟩
theorem setFa (h : Fr w0 w R0 R pc st ad va fa ca) (v : Int) : Fr w0 (w.setCell ⟨w0.heap.size + 1 + 1, 20, none⟩ (.int .i64 v)) R0 R pc st ad va v ca :=
  ⟨h.setBel _ _, by rw [heap_setCell_ne _ _ _ _ (by show _ ≠ w0.heap.size + 1 + 1; omega)]; exact h.reg, by rw [heap_setCell_ne _ _ _ _ (by show _ ≠ w0.heap.size + 1 + 1; omega)]; exact h.res, heap_setCell_eq h.eff _⟩
theorem setR (h : Fr w0 w R0 R pc st ad va fa ca) {k : Nat} (hk : k < 16) (v : Int) : Fr w0 (w.setCell ⟨w0.heap.size + 1 + 1, k, none⟩ (.int .i64 v)) R0 (upd R k v) pc st ad va fa ca :=
  ⟨h.setBel _ _, by rw [heap_setCell_ne _ _ _ _ (by show _ ≠ w0.heap.size + 1 + 1; omega)]; exact h.reg, by rw [heap_setCell_ne _ _ _ _ (by show _ ≠ w0.heap.size + 1 + 1; omega)]; exact h.res, by rw [← effC_set R pc st ad va fa ca hk v]; exact heap_setCell_eq h.eff _⟩
theorem row (h : Fr w0 w R0 R pc st ad va fa ca) (R' : Nat → Int) (pc' : Int) (st' : Bool) (ad' va' fa' ca' : Int) : Fr w0 (w.setRow (w0.heap.size + 1 + 1) (effC R' pc' st' ad' va' fa' ca')) R0 R' pc' st' ad' va' fa' ca' :=
  ⟨⟨h.bel.os, h.bel.tape, h.bel.output, by simpa [World.setRow] using h.bel.size, fun k hk => (setRow_other _ _ _ _ (by omega)).trans (h.bel.block k hk)⟩, by rw [setRow_other _ _ _ _ (by omega)]; exact h.reg, by rw [setRow_other _ _ _ _ (by omega)]; exact h.res, setRow_heap _ _ _ _ _ _ h.eff⟩
theorem at16 (h : Fr w0 w R0 R pc st ad va fa ca) : w.cell? ⟨w0.heap.size + 1 + 1, 16, none⟩ = some (.int .i64 pc) := cell_of_row _ _ _ _ _ _ h.eff
theorem at20 (h : Fr w0 w R0 R pc st ad va fa ca) : w.cell? ⟨w0.heap.size + 1 + 1, 20, none⟩ = some (.int .i64 fa) := cell_of_row _ _ _ _ _ _ h.eff
theorem atR (h : Fr w0 w R0 R pc st ad va fa ca) {k : Nat} (hk : k < 16) : w.cell? ⟨w0.heap.size + 1 + 1, k, none⟩ = some (.int .i64 (R k)) := (cell_of_row _ _ _ _ _ _ h.eff).trans (effC_at R pc st ad va fa ca hk)
theorem box (h : Fr w0 w R0 R pc st ad va fa ca) {k : Nat} (hk : k < 16) : w.cell? ⟨w0.heap.size, k, none⟩ = some (.int .i64 (R0 k)) := (cell_of_row _ _ _ _ _ _ h.reg).trans (regC_at R0 hk)
theorem fz (h : Fr w0 w R0 R pc st ad va fa ca) (i : Nat) : w.frozen? ⟨w0.heap.size + 1 + 1, i, none⟩ = false := by simp [World.frozen?, h.eff]
theorem outBel (h : Fr w0 w R0 R pc st ad va fa ca) (cs : Array Value) : Below w0.heap.size w0 (w.setRow (w0.heap.size + 1) cs) :=
  ⟨h.bel.os, h.bel.tape, h.bel.output, by simpa [World.setRow] using h.bel.size, fun k hk => (setRow_other _ _ _ _ (by omega)).trans (h.bel.block k hk)⟩
end Fr

end Go.Proofs.YtijeaonldhccmaaDoor
