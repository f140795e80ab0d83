/-
  unchanged: laws of its operations.
-/
import Derived.Test.YthebokkogeigoaaSLent
import Derived.Laws.StructEq
namespace Go.Proofs.Ythebokkogeigoaa
open Go.RowKit
set_option linter.unusedVariables false
set_option linter.unusedSimpArgs false
set_option maxRecDepth 100000

def H8 : Array Value := #[.int .i64 0, .int .i64 0, .int .i64 0, .int .i64 0, .int .i64 0, .int .i64 0, .int .i64 0, .int .i64 0]
theorem neH (w : World) : (binOp .neq 79 (.agg H8) (.agg H8)).run Try.prog w = .ok (.bool false) w := by kernel_rfl
theorem neI (w : World) : (binOp .neq 74 (.agg ZI5) (.agg ZI5)).run Try.prog w = .ok (.bool false) w := by kernel_rfl
theorem neP (w : World) : (binOp .neq 77 (.agg ZP6) (.agg ZP6)).run Try.prog w = .ok (.bool false) w := by kernel_rfl
theorem eqSv (w : World) (p b o q : Int) : (Op.equalIn 10000 72 (.agg #[.int .i64 p, .int .i64 b, .int .i64 o, .int .i64 q]) (.agg #[.int .i64 p, .int .i64 b, .int .i64 o, .int .i64 q])).run Try.prog w = .ok true w := by
  rw [show (10000 : Nat) = 9999 + 1 from rfl, run_equalIn_struct w 9999 _ _ _ (by kernel_rfl) (by kernel_rfl)]
  simp [go_sem, Try.underlying72]
theorem eqQ (w : World) (p : Pr) : (Op.equalIn 10000 30 (.agg (pc p).toArray) (.agg (pc p).toArray)).run Try.prog w = .ok true w := by
  rw [show (10000 : Nat) = 9999 + 1 from rfl, run_equalIn_struct w 9999 _ _ _ (by kernel_rfl) (by kernel_rfl)]
  simp [go_sem, Try.underlying30, pc]
section
variable {w : World} {a : Act} {o : Oper}
theorem er_neG (t : TypeId) (x y : Operand) (ho : o.op = .binOp .neq t x y t) (A : Array Value) (hx : a.eval x = .agg A) (hy : a.eval y = .agg A) (hm : Try.prog.eqGuardType Try.prog.depth t = false) (hr : (binOp .neq t (.agg A) (.agg A)).run Try.prog w = .ok (.bool false) w) : (execOp a.eval o).run Try.prog w = .ok (.value (.bool false)) w := by
  simp only [execOp, ho, hx, hy]
  simp [run_eqGuard_agg w _ _ _ _ _ _ hm, hr]
theorem er_neSv (x y : Operand) (ho : o.op = .binOp .neq 72 x y 72) (p b f q : Int) (hx : a.eval x = .agg #[.int .i64 p, .int .i64 b, .int .i64 f, .int .i64 q]) (hy : a.eval y = .agg #[.int .i64 p, .int .i64 b, .int .i64 f, .int .i64 q]) : (execOp a.eval o).run Try.prog w = .ok (.value (.bool false)) w :=
  er_neG _ x y ho _ hx hy (by kernel_rfl) (by rw [run_neq_struct, eqSv]; rfl)
theorem er_neQ (x y : Operand) (ho : o.op = .binOp .neq 30 x y 30) (p : Pr) (hx : a.eval x = .agg (pc p).toArray) (hy : a.eval y = .agg (pc p).toArray) : (execOp a.eval o).run Try.prog w = .ok (.value (.bool false)) w :=
  er_neG _ x y ho _ hx hy (by kernel_rfl) (by rw [run_neq_struct, eqQ]; rfl)
theorem er_neqI (x y : Operand) (ho : o.op = .binOp .neq 3 x y 3) (u v : Int) (c : Bool) (hx : a.eval x = .int .i64 u) (hy : a.eval y = .int .i64 v) (hc : (u != v) = c) : (execOp a.eval o).run Try.prog w = .ok (.value (.bool c)) w := by
  subst hc
  simp only [execOp, ho, hx, hy]; simp [go_sem]
theorem er_neq3 (x y : Operand) (ho : o.op = .binOp .neq 21 x y 21) (u v : Int) (c : Bool) (hx : a.eval x = .int .i32 u) (hy : a.eval y = .int .i32 v) (hc : (u != v) = c) : (execOp a.eval o).run Try.prog w = .ok (.value (.bool c)) w := by
  subst hc
  simp only [execOp, ho, hx, hy]; simp [go_sem]
theorem er_lssI (x y : Operand) (ho : o.op = .binOp .lss 3 x y 3) (u v : Int) (c : Bool) (hx : a.eval x = .int .i64 u) (hy : a.eval y = .int .i64 v) (hc : decide (u < v) = c) : (execOp a.eval o).run Try.prog w = .ok (.value (.bool c)) w := by
  subst hc
  simp only [execOp, ho, hx, hy]; simp [go_sem]
theorem er_addN (x : Operand) (ho : o.op = .binOp .add 3 x (.const (.int .i64 1)) 3) (u : Nat) (hx : a.eval x = .int .i64 u) (hc : u ≤ 1048576) : (execOp a.eval o).run Try.prog w = .ok (.value (.int .i64 ((u + 1 : Nat) : Int))) w :=
  er_add1 x ho u hx (by omega)
theorem er_pk (b x y : Operand) (ho : o.op = .pick b x y) (c : Bool) (v : Value) (hb : a.eval b = .bool c) (hv : (if c then a.eval x else a.eval y) = v) : (execOp a.eval o).run Try.prog w = .ok (.value v) w := by
  subst hv
  simp only [execOp, ho, hb]
  cases c <;> simp [go_sem]
theorem er_cap (t : TypeId) (x : Operand) (ho : o.op = .call { callee := .builtin .cap, args := #[x], argTypes := #[t] }) (va : Option Addr) (vn vc : Nat) (hx : a.eval x = .slice va vn vc) (ht : Try.prog.underlying t = some (.slice (Try.prog.elem t))) : (execOp a.eval o).run Try.prog w = .ok (.value (.int .i64 vc)) w := by
  simp only [execOp, ho, resolve, invoke, builtin, Sem.run_bind, Sem.run_pure, Result.andThen_ok, List.map_toArray, List.map_cons, List.map_nil, hx, run_cap_slice _ _ _ _ _ _ ht]
  rfl
theorem er_ixA (x y : Operand) (ho : o.op = .indexAddr 23 x y) (g i n c : Nat) (hx : a.eval x = .slice (some ⟨g, 0, none⟩) n c) (hy : a.eval y = .int .i64 (i : Int)) (hi : i < n) (hn : n ≤ 1048576) : (execOp a.eval o).run Try.prog w = .ok (.value (.pointer (some ⟨g, i * 21, none⟩))) w := by
  simp only [execOp, ho, hx, hy]
  simp [go_sem, add_none]
  omega
theorem er_ixQ (x y : Operand) (ho : o.op = .indexAddr 24 x y) (g i n c : Nat) (hx : a.eval x = .slice (some ⟨g, 0, none⟩) n c) (hy : a.eval y = .int .i64 (i : Int)) (hi : i < n) (hn : n ≤ 1048576) : (execOp a.eval o).run Try.prog w = .ok (.value (.pointer (some ⟨g, i * 6, none⟩))) w := by
  simp only [execOp, ho, hx, hy]
  simp [go_sem, add_none]
  omega
theorem er_ixI (x y : Operand) (ho : o.op = .indexAddr 75 x y) (g i n c : Nat) (hx : a.eval x = .slice (some ⟨g, 0, none⟩) n c) (hy : a.eval y = .int .i64 (i : Int)) (hi : i < n) (hn : n ≤ 1048576) : (execOp a.eval o).run Try.prog w = .ok (.value (.pointer (some ⟨g, i * 5, none⟩))) w := by
  simp only [execOp, ho, hx, hy]
  simp [go_sem, add_none]
  omega
theorem er_ixP (x y : Operand) (ho : o.op = .indexAddr 78 x y) (g i n c : Nat) (hx : a.eval x = .slice (some ⟨g, 0, none⟩) n c) (hy : a.eval y = .int .i64 (i : Int)) (hi : i < n) (hn : n ≤ 1048576) : (execOp a.eval o).run Try.prog w = .ok (.value (.pointer (some ⟨g, i * 6, none⟩))) w := by
  simp only [execOp, ho, hx, hy]
  simp [go_sem, add_none]
  omega
theorem er_slI (x y : Operand) (ho : o.op = .slice 75 x none (some y) none) (g m c j : Nat) (hx : a.eval x = .slice (some ⟨g, 0, none⟩) m c) (hy : a.eval y = .int .i64 j) (hj : j ≤ c) : (execOp a.eval o).run Try.prog w = .ok (.value (.slice (some ⟨g, 0, none⟩) j c)) w := by
  simp only [execOp, ho, hx, Option.map_some, Option.map_none, hy]
  have h2 : (j : Int) ≤ (c : Int) := by omega
  simp [go_sem, h2, hj, add_none]
theorem er_ldI (x : Operand) (ho : o.op = .load 75 x) (g off : Nat) (v : Value) (hx : a.eval x = .pointer (some ⟨g, off, none⟩)) (hr : w.cell? ⟨g, off, none⟩ = some v) : (execOp a.eval o).run Try.prog w = .ok (.value v) w := by
  simp only [execOp, ho, hx]; simp [go_sem, hr]
theorem er_slP (x y : Operand) (ho : o.op = .slice 78 x none (some y) none) (g m c j : Nat) (hx : a.eval x = .slice (some ⟨g, 0, none⟩) m c) (hy : a.eval y = .int .i64 j) (hj : j ≤ c) : (execOp a.eval o).run Try.prog w = .ok (.value (.slice (some ⟨g, 0, none⟩) j c)) w := by
  simp only [execOp, ho, hx, Option.map_some, Option.map_none, hy]
  have h2 : (j : Int) ≤ (c : Int) := by omega
  simp [go_sem, h2, hj, add_none]
theorem er_ldP (x : Operand) (ho : o.op = .load 78 x) (g off : Nat) (v : Value) (hx : a.eval x = .pointer (some ⟨g, off, none⟩)) (hr : w.cell? ⟨g, off, none⟩ = some v) : (execOp a.eval o).run Try.prog w = .ok (.value v) w := by
  simp only [execOp, ho, hx]; simp [go_sem, hr]
theorem er_ld3 (x : Operand) (ho : o.op = .load 21 x) (g off : Nat) (v : Value) (hx : a.eval x = .pointer (some ⟨g, off, none⟩)) (hr : w.cell? ⟨g, off, none⟩ = some v) : (execOp a.eval o).run Try.prog w = .ok (.value v) w := by
  simp only [execOp, ho, hx]; simp [go_sem, hr]
theorem er_fA0 (x : Operand) (ho : o.op = .fieldAddr 84 x 0) (g off : Nat) (hx : a.eval x = .pointer (some ⟨g, off, none⟩)) : (execOp a.eval o).run Try.prog w = .ok (.value (.pointer (some ⟨g, off, none⟩))) w := by simp only [execOp, ho, hx]; simp [go_sem, add_none]
theorem er_fA1 (x : Operand) (ho : o.op = .fieldAddr 84 x 1) (g off : Nat) (hx : a.eval x = .pointer (some ⟨g, off, none⟩)) : (execOp a.eval o).run Try.prog w = .ok (.value (.pointer (some ⟨g, off + 4, none⟩))) w := by simp only [execOp, ho, hx]; simp [go_sem, add_none]
theorem er_fA2 (x : Operand) (ho : o.op = .fieldAddr 84 x 2) (g off : Nat) (hx : a.eval x = .pointer (some ⟨g, off, none⟩)) : (execOp a.eval o).run Try.prog w = .ok (.value (.pointer (some ⟨g, off + 5, none⟩))) w := by simp only [execOp, ho, hx]; simp [go_sem, add_none]
theorem er_fA4 (x : Operand) (ho : o.op = .fieldAddr 84 x 4) (g off : Nat) (hx : a.eval x = .pointer (some ⟨g, off, none⟩)) : (execOp a.eval o).run Try.prog w = .ok (.value (.pointer (some ⟨g, off + 7, none⟩))) w := by simp only [execOp, ho, hx]; simp [go_sem, add_none]
theorem er_fA5 (x : Operand) (ho : o.op = .fieldAddr 84 x 5) (g off : Nat) (hx : a.eval x = .pointer (some ⟨g, off, none⟩)) : (execOp a.eval o).run Try.prog w = .ok (.value (.pointer (some ⟨g, off + 8, none⟩))) w := by simp only [execOp, ho, hx]; simp [go_sem, add_none]
theorem er_fA6 (x : Operand) (ho : o.op = .fieldAddr 84 x 6) (g off : Nat) (hx : a.eval x = .pointer (some ⟨g, off, none⟩)) : (execOp a.eval o).run Try.prog w = .ok (.value (.pointer (some ⟨g, off + 9, none⟩))) w := by simp only [execOp, ho, hx]; simp [go_sem, add_none]
theorem er_fA7 (x : Operand) (ho : o.op = .fieldAddr 84 x 7) (g off : Nat) (hx : a.eval x = .pointer (some ⟨g, off, none⟩)) : (execOp a.eval o).run Try.prog w = .ok (.value (.pointer (some ⟨g, off + 10, none⟩))) w := by simp only [execOp, ho, hx]; simp [go_sem, add_none]
theorem er_fQ3 (x : Operand) (ho : o.op = .fieldAddr 30 x 3) (g off : Nat) (hx : a.eval x = .pointer (some ⟨g, off, none⟩)) : (execOp a.eval o).run Try.prog w = .ok (.value (.pointer (some ⟨g, off + 3, none⟩))) w := by simp only [execOp, ho, hx]; simp [go_sem, add_none]
theorem er_fN4 (x : Operand) (ho : o.op = .fieldAddr 74 x 4) (g off : Nat) (hx : a.eval x = .pointer (some ⟨g, off, none⟩)) : (execOp a.eval o).run Try.prog w = .ok (.value (.pointer (some ⟨g, off + 4, none⟩))) w := by simp only [execOp, ho, hx]; simp [go_sem, add_none]
theorem er_fC0 (x : Operand) (ho : o.op = .fieldAddr 77 x 0) (g off : Nat) (hx : a.eval x = .pointer (some ⟨g, off, none⟩)) : (execOp a.eval o).run Try.prog w = .ok (.value (.pointer (some ⟨g, off, none⟩))) w := by simp only [execOp, ho, hx]; simp [go_sem, add_none]
end
theorem ldSt {w : World} {b o : Nat} (t : TypeId) (d : TypeDesc) (A : Array Value) (h : ∀ j v, A.toList[j]? = some v → w.cell? ⟨b, o + j, none⟩ = some v) (hu : Try.prog.underlying t = some d) (hd : d.isRow = true) (hi : (Try.prog.info? t).map (·.size) = some A.size) : (Instr.loadAt t (.pointer (some ⟨b, o, none⟩))).run Try.prog w = .ok (.agg A) w := by
  have := run_loadAt_mid (P := Try.prog) w b o _ A.toList _ h hu hd (by rw [Array.length_toList]; exact hi)
  simpa using this
theorem Try.infoS4 : (Try.prog.info? 72).map (·.size) = some 4 := by kernel_rfl
theorem Try.infoH8 : (Try.prog.info? 79).map (·.size) = some 8 := by kernel_rfl
theorem Try.infoI5 : (Try.prog.info? 74).map (·.size) = some 5 := by kernel_rfl
theorem Try.infoP6 : (Try.prog.info? 77).map (·.size) = some 6 := by kernel_rfl
theorem Try.infoQ6 : (Try.prog.info? 30).map (·.size) = some 6 := by kernel_rfl
theorem Le.row {w : World} {B ga ca gl cl n : Nat} {ps : Nat → Pr} {y1 d1 y2 d2 : Nat → Nat} (h : Le w B ga ca gl cl n ps y1 d1 y2 d2) {i : Nat} (hi : i < 3) : ∀ j v, (PD i (y1 i) (d1 i) (y2 i) (d2 i)).toList[j]? = some v → w.cell? ⟨ga, i * 21 + j, none⟩ = some v := fun j v hv => by
  have hj : j < 21 := (List.getElem?_eq_some_iff.1 hv).1
  refine own_cell h.parts ?_
  rw [List.getElem?_append_left (by rw [cat_len (s := 21) (fun _ => rfl)]; omega), cat_at (s := 21) (fun _ => rfl) 3 i j hi hj]
  exact hv
theorem Le.mark {w : World} {B ga ca gl cl n : Nat} {ps : Nat → Pr} {y1 d1 y2 d2 : Nat → Nat} (h : Le w B ga ca gl cl n ps y1 d1 y2 d2) : w.cell? ⟨ga, 3 * 21 + 4, none⟩ = some (.int .i64 (-77)) := by
  refine own_cell h.parts ?_
  rw [List.getElem?_append_right (by rw [cat_len (s := 21) (fun _ => rfl)]; omega), cat_len (s := 21) (fun _ => rfl)]
  rfl
theorem Le.markQ {w : World} {B ga ca gl cl n : Nat} {ps : Nat → Pr} {y1 d1 y2 d2 : Nat → Nat} (h : Le w B ga ca gl cl n ps y1 d1 y2 d2) : w.cell? ⟨gl, n * 6 + 3, none⟩ = some (.int .i64 (-77)) := by
  refine own_cell h.ports ?_
  rw [List.getElem?_append_right (by rw [cat_len (s := 6) (fun _ => rfl)]; omega), cat_len (s := 6) (fun _ => rfl), Nat.add_sub_cancel_left]
  rfl
theorem Le.port {w : World} {B ga ca gl cl n : Nat} {ps : Nat → Pr} {y1 d1 y2 d2 : Nat → Nat} (h : Le w B ga ca gl cl n ps y1 d1 y2 d2) {i : Nat} (hi : i < n) : ∀ j v, (pc (ps i)).toArray.toList[j]? = some v → w.cell? ⟨gl, i * 6 + j, none⟩ = some v := fun j v hv => by
  have hj : j < 6 := (List.getElem?_eq_some_iff.1 hv).1
  refine own_cell h.ports ?_
  have : i * 6 + j < n * 6 := by omega
  rw [List.getElem?_append_left (by rw [cat_len (s := 6) (fun _ => rfl)]; omega), cat_at (s := 6) (fun _ => rfl) n i j hi hj]
  exact hv
theorem port_row {w : World} {B g c n : Nat} {ps : Nat → Pr} (h : w.ownsRow B 30 6 (.slice (some ⟨g, 0, none⟩) n c) n (cat (fun i => pc (ps i)) n)) {i : Nat} (hi : i < n) : ∀ j v, (pc (ps i)).toArray.toList[j]? = some v → w.cell? ⟨g, i * 6 + j, none⟩ = some v := fun j v hv => by
  have hj : j < 6 := (List.getElem?_eq_some_iff.1 hv).1
  refine own_cell h ?_
  rw [cat_at (s := 6) (fun _ => rfl) n i j hi hj]
  exact hv
theorem Le.keep {w w' : World} {B ga ca gl cl n : Nat} {ps : Nat → Pr} {y1 d1 y2 d2 : Nat → Nat} (h : Le w B ga ca gl cl n ps y1 d1 y2 d2) (K : Kept No w w') : Le w' B ga ca gl cl n ps y1 d1 y2 d2 :=
  ⟨K.owns h.parts (fun _ _ e => e), fun i hi => K.owns (h.code i hi) (fun _ _ e => e), fun i hi => K.owns (h.proc i hi) (fun _ _ e => e), K.owns h.ports (fun _ _ e => e)⟩
end Go.Proofs.Ythebokkogeigoaa
