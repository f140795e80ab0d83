/-
  One text: OHeld, OCatch.
-/
import Derived.Test.YtnmhcnppdhdhfaaGreatDoorG04
import Derived.Test.YtnmhcnppdhdhfaaGreatDoorG06
import Derived.Test.YtnmhcnppdhdhfaaGreatDoorG07
import Derived.Deep.QuietTactic
import Derived.BigQuiet
import Derived.Deep.RegionHeld
import Derived.Deep.RegionWith
import Derived.Deep.DeepCutAuto
import Derived.Deep.CutBlock
namespace Go.Proofs.YtnmhcnppdhdhfaaGreatDoor
open Go.RowKit
set_option linter.unusedVariables false
set_option maxRecDepth 100000

section
variable {o : Oper} {a : Act} {w : World}
theorem er_nil (x : Operand) (ho : o.op = .nilCheck x) (p : Addr) (hx : a.eval x = .pointer (some p)) : (execOp a.eval o).run Tryz.prog w = .ok (.value (.pointer (some p))) w := by simp only [execOp, ho, hx]; simp [go_sem]
theorem er_pl0 (x : Operand) (ho : o.op = .fieldAddr 173 x 0) (g k : Nat) (hx : a.eval x = .pointer (some ⟨g, k, none⟩)) : (execOp a.eval o).run Tryz.prog w = .ok (.value (.pointer (some ⟨g, k, none⟩))) w := by simp only [execOp, ho, hx]; simp [go_sem, add_none]
theorem er_pl1 (x : Operand) (ho : o.op = .fieldAddr 173 x 1) (g k : Nat) (hx : a.eval x = .pointer (some ⟨g, k, none⟩)) : (execOp a.eval o).run Tryz.prog w = .ok (.value (.pointer (some ⟨g, k + 4, none⟩))) w := by simp only [execOp, ho, hx]; simp [go_sem, add_none]
theorem er_pl1z (x : Operand) (ho : o.op = .fieldAddr 173 x 1) (g : Nat) (hx : a.eval x = .pointer (some ⟨g, 0, none⟩)) : (execOp a.eval o).run Tryz.prog w = .ok (.value (.pointer (some ⟨g, 4, none⟩))) w := by simp only [execOp, ho, hx]; simp [go_sem, add_none]
theorem er_pl2 (x : Operand) (ho : o.op = .fieldAddr 173 x 2) (g k : Nat) (hx : a.eval x = .pointer (some ⟨g, k, none⟩)) : (execOp a.eval o).run Tryz.prog w = .ok (.value (.pointer (some ⟨g, k + 5, none⟩))) w := by simp only [execOp, ho, hx]; simp [go_sem, add_none]
theorem er_pl2z (x : Operand) (ho : o.op = .fieldAddr 173 x 2) (g : Nat) (hx : a.eval x = .pointer (some ⟨g, 0, none⟩)) : (execOp a.eval o).run Tryz.prog w = .ok (.value (.pointer (some ⟨g, 5, none⟩))) w := by simp only [execOp, ho, hx]; simp [go_sem, add_none]
theorem er_pl3 (x : Operand) (ho : o.op = .fieldAddr 173 x 3) (g k : Nat) (hx : a.eval x = .pointer (some ⟨g, k, none⟩)) : (execOp a.eval o).run Tryz.prog w = .ok (.value (.pointer (some ⟨g, k + 6, none⟩))) w := by simp only [execOp, ho, hx]; simp [go_sem, add_none]
theorem er_pl3z (x : Operand) (ho : o.op = .fieldAddr 173 x 3) (g : Nat) (hx : a.eval x = .pointer (some ⟨g, 0, none⟩)) : (execOp a.eval o).run Tryz.prog w = .ok (.value (.pointer (some ⟨g, 6, none⟩))) w := by simp only [execOp, ho, hx]; simp [go_sem, add_none]
theorem er_sv0 (x : Operand) (ho : o.op = .fieldAddr 39 x 0) (g k : Nat) (hx : a.eval x = .pointer (some ⟨g, k, none⟩)) : (execOp a.eval o).run Tryz.prog w = .ok (.value (.pointer (some ⟨g, k, none⟩))) w := by simp only [execOp, ho, hx]; simp [go_sem, add_none]
theorem er_sv1 (x : Operand) (ho : o.op = .fieldAddr 39 x 1) (g k : Nat) (hx : a.eval x = .pointer (some ⟨g, k, none⟩)) : (execOp a.eval o).run Tryz.prog w = .ok (.value (.pointer (some ⟨g, k + 1, none⟩))) w := by simp only [execOp, ho, hx]; simp [go_sem, add_none]
theorem er_sv1z (x : Operand) (ho : o.op = .fieldAddr 39 x 1) (g : Nat) (hx : a.eval x = .pointer (some ⟨g, 0, none⟩)) : (execOp a.eval o).run Tryz.prog w = .ok (.value (.pointer (some ⟨g, 1, none⟩))) w := by simp only [execOp, ho, hx]; simp [go_sem, add_none]
theorem er_sv2 (x : Operand) (ho : o.op = .fieldAddr 39 x 2) (g k : Nat) (hx : a.eval x = .pointer (some ⟨g, k, none⟩)) : (execOp a.eval o).run Tryz.prog w = .ok (.value (.pointer (some ⟨g, k + 2, none⟩))) w := by simp only [execOp, ho, hx]; simp [go_sem, add_none]
theorem er_sv2z (x : Operand) (ho : o.op = .fieldAddr 39 x 2) (g : Nat) (hx : a.eval x = .pointer (some ⟨g, 0, none⟩)) : (execOp a.eval o).run Tryz.prog w = .ok (.value (.pointer (some ⟨g, 2, none⟩))) w := by simp only [execOp, ho, hx]; simp [go_sem, add_none]
theorem er_sv3 (x : Operand) (ho : o.op = .fieldAddr 39 x 3) (g k : Nat) (hx : a.eval x = .pointer (some ⟨g, k, none⟩)) : (execOp a.eval o).run Tryz.prog w = .ok (.value (.pointer (some ⟨g, k + 3, none⟩))) w := by simp only [execOp, ho, hx]; simp [go_sem, add_none]
theorem er_sv3z (x : Operand) (ho : o.op = .fieldAddr 39 x 3) (g : Nat) (hx : a.eval x = .pointer (some ⟨g, 0, none⟩)) : (execOp a.eval o).run Tryz.prog w = .ok (.value (.pointer (some ⟨g, 3, none⟩))) w := by simp only [execOp, ho, hx]; simp [go_sem, add_none]
theorem er_sp0 (x : Operand) (ho : o.op = .fieldAddr 73 x 0) (g k : Nat) (hx : a.eval x = .pointer (some ⟨g, k, none⟩)) : (execOp a.eval o).run Tryz.prog w = .ok (.value (.pointer (some ⟨g, k, none⟩))) w := by simp only [execOp, ho, hx]; simp [go_sem, add_none]
theorem er_sp1 (x : Operand) (ho : o.op = .fieldAddr 73 x 1) (g k : Nat) (hx : a.eval x = .pointer (some ⟨g, k, none⟩)) : (execOp a.eval o).run Tryz.prog w = .ok (.value (.pointer (some ⟨g, k + 1, none⟩))) w := by simp only [execOp, ho, hx]; simp [go_sem, add_none]
theorem er_sp1z (x : Operand) (ho : o.op = .fieldAddr 73 x 1) (g : Nat) (hx : a.eval x = .pointer (some ⟨g, 0, none⟩)) : (execOp a.eval o).run Tryz.prog w = .ok (.value (.pointer (some ⟨g, 1, none⟩))) w := by simp only [execOp, ho, hx]; simp [go_sem, add_none]
theorem er_so0 (x : Operand) (ho : o.op = .fieldAddr 75 x 0) (g k : Nat) (hx : a.eval x = .pointer (some ⟨g, k, none⟩)) : (execOp a.eval o).run Tryz.prog w = .ok (.value (.pointer (some ⟨g, k, none⟩))) w := by simp only [execOp, ho, hx]; simp [go_sem, add_none]
theorem er_so1 (x : Operand) (ho : o.op = .fieldAddr 75 x 1) (g k : Nat) (hx : a.eval x = .pointer (some ⟨g, k, none⟩)) : (execOp a.eval o).run Tryz.prog w = .ok (.value (.pointer (some ⟨g, k + 1, none⟩))) w := by simp only [execOp, ho, hx]; simp [go_sem, add_none]
theorem er_so1z (x : Operand) (ho : o.op = .fieldAddr 75 x 1) (g : Nat) (hx : a.eval x = .pointer (some ⟨g, 0, none⟩)) : (execOp a.eval o).run Tryz.prog w = .ok (.value (.pointer (some ⟨g, 1, none⟩))) w := by simp only [execOp, ho, hx]; simp [go_sem, add_none]
theorem er_ld3 (x : Operand) (ho : o.op = .load 3 x) (g off : Nat) (v : Value) (hx : a.eval x = .pointer (some ⟨g, off, none⟩)) (hr : w.cell? ⟨g, off, none⟩ = some v) : (execOp a.eval o).run Tryz.prog w = .ok (.value v) w := by
  simp only [execOp, ho, hx]; simp [go_sem, hr]
theorem er_ldso (x : Operand) (ho : o.op = .load 33 x) (g off : Nat) (v : Value) (hx : a.eval x = .pointer (some ⟨g, off, none⟩)) (hr : w.cell? ⟨g, off, none⟩ = some v) : (execOp a.eval o).run Tryz.prog w = .ok (.value v) w := by
  simp only [execOp, ho, hx]; simp [go_sem, hr]
theorem er_ldsv (x : Operand) (ho : o.op = .load 36 x) (g off : Nat) (v : Value) (hx : a.eval x = .pointer (some ⟨g, off, none⟩)) (hr : w.cell? ⟨g, off, none⟩ = some v) : (execOp a.eval o).run Tryz.prog w = .ok (.value v) w := by
  simp only [execOp, ho, hx]; simp [go_sem, hr]
theorem er_ldy (x : Operand) (ho : o.op = .load 77 x) (g off : Nat) (v : Value) (hx : a.eval x = .pointer (some ⟨g, off, none⟩)) (hr : w.cell? ⟨g, off, none⟩ = some v) : (execOp a.eval o).run Tryz.prog w = .ok (.value v) w := by
  simp only [execOp, ho, hx]; simp [go_sem, hr]
theorem er_ldS (x : Operand) (ho : o.op = .load 75 x) (g off : Nat) (u v : Value) (hx : a.eval x = .pointer (some ⟨g, off, none⟩)) (hr : w.cell? ⟨g, off, none⟩ = some u) (hs : w.cell? ⟨g, off + 1, none⟩ = some v) : (execOp a.eval o).run Tryz.prog w = .ok (.value (.agg #[u, v])) w := by
  simp only [execOp, ho, hx]; simp [go_sem, hr, hs]
theorem er_add (x y : Operand) (ho : o.op = .binOp .add 3 x y 3) (k l r : Int) (hx : a.eval x = .int .i64 k) (hy : a.eval y = .int .i64 l) (hr : wrap64 (k + l) = r) : (execOp a.eval o).run Tryz.prog w = .ok (.value (.int .i64 r)) w := by
  subst hr
  simp only [execOp, ho, hx, hy]; simp [go_sem, w64i]
theorem er_sub (x y : Operand) (ho : o.op = .binOp .sub 3 x y 3) (k l r : Int) (hx : a.eval x = .int .i64 k) (hy : a.eval y = .int .i64 l) (hr : wrap64 (k - l) = r) : (execOp a.eval o).run Tryz.prog w = .ok (.value (.int .i64 r)) w := by
  subst hr
  simp only [execOp, ho, hx, hy]; simp [go_sem, w64i]
theorem er_ext0 (x : Operand) (ho : o.op = .extract x 0) (u v : Value) (hx : a.eval x = .tuple #[u, v]) : (execOp a.eval o).run Tryz.prog w = .ok (.value u) w := by
  simp only [execOp, ho, hx]; simp [Instr.extract]
theorem er_ext1 (x : Operand) (ho : o.op = .extract x 1) (u v : Value) (hx : a.eval x = .tuple #[u, v]) : (execOp a.eval o).run Tryz.prog w = .ok (.value v) w := by
  simp only [execOp, ho, hx]; simp [Instr.extract]
theorem er_st3 (x y : Operand) (ho : o.op = .store 3 x y) (g off : Nat) (u : Value) (v : Int) (hx : a.eval x = .pointer (some ⟨g, off, none⟩)) (hy : a.eval y = .int .i64 v) (hr : w.cell? ⟨g, off, none⟩ = some u) (hf : w.frozen? ⟨g, off, none⟩ = false) : (execOp a.eval o).run Tryz.prog w = .ok .skip (w.setCell ⟨g, off, none⟩ (.int .i64 v)) := by
  simp only [execOp, ho, hx, hy]
  simp [go_sem, hr, hf]
theorem er_al3 (ho : o.op = .alloc 3) : (execOp a.eval o).run Tryz.prog w = .ok (.value (.pointer (some ⟨w.heap.size, 0, none⟩))) (w.alloc (.cells #[.int .i64 0] 3)) := by
  simp only [execOp, ho]
  simp [go_sem]
theorem er_idxso (x y : Operand) (ho : o.op = .indexAddr 33 x y) (b off n c d : Nat) (hd : d < n) (hn : n ≤ 9223372036854775807) (hx : a.eval x = .slice (some ⟨b, off, none⟩) n c) (hy : a.eval y = .int .i64 d) : (execOp a.eval o).run Tryz.prog w = .ok (.value (.pointer (some ⟨b, off + d * 2, none⟩))) w := by
  simp only [execOp, ho, hx, hy]
  simp [go_sem, add_none]
  omega
theorem er_bsp (x y : Operand) (ho : o.op = .build 73 #[(0, x), (1, y)]) (u v : Int) (hx : a.eval x = .int .i64 u) (hy : a.eval y = .int .i64 v) : (execOp a.eval o).run Tryz.prog w = .ok (.value (.agg #[.int .i64 u, .int .i64 v])) w := by
  have e : (Instr.build 73 #[(0, .int .i64 u), (1, .int .i64 v)]).run Tryz.prog w = .ok (.agg #[.int .i64 u, .int .i64 v]) w := by kernel_rfl
  simp only [execOp, ho, List.map_toArray, List.map_cons, List.map_nil, hx, hy]; rw [Sem.run_bind, e]; rfl
theorem er_bso (x y : Operand) (ho : o.op = .build 75 #[(0, x), (1, y)]) (u v : Int) (hx : a.eval x = .int .i64 u) (hy : a.eval y = .int .i64 v) : (execOp a.eval o).run Tryz.prog w = .ok (.value (.agg #[.int .i64 u, .int .i64 v])) w := by
  have e : (Instr.build 75 #[(0, .int .i64 u), (1, .int .i64 v)]).run Tryz.prog w = .ok (.agg #[.int .i64 u, .int .i64 v]) w := by kernel_rfl
  simp only [execOp, ho, List.map_toArray, List.map_cons, List.map_nil, hx, hy]; rw [Sem.run_bind, e]; rfl
end
theorem er_c_NextAt {o : Oper} {a : Act} {w : World} (x0 x1 x2 : Operand) (ts : Array TypeId) (ho : o.op = .call { callee := .value (.func 171), args := #[x0, x1, x2], argTypes := ts }) (v0 : Value) (v1 : Value) (v2 : Value) (h0 : a.eval x0 = v0) (h1 : a.eval x1 = v1) (h2 : a.eval x2 = v2) : (execOp a.eval o).run Tryz.prog w = .ok (.enter 171 #[v0, v1, v2]) w := by
  subst h0; subst h1; subst h2
  simp [execOp, ho, go_sem, Act.eval]
theorem er_c_played {o : Oper} {a : Act} {w : World} (x0 x1 : Operand) (ts : Array TypeId) (ho : o.op = .call { callee := .value (.func 38), args := #[x0, x1], argTypes := ts }) (v0 : Value) (v1 : Value) (h0 : a.eval x0 = v0) (h1 : a.eval x1 = v1) : (execOp a.eval o).run Tryz.prog w = .ok (.enter 38 #[v0, v1]) w := by
  subst h0; subst h1
  simp [execOp, ho, go_sem, Act.eval]
theorem er_c_cycle {o : Oper} {a : Act} {w : World} (x0 x1 : Operand) (ts : Array TypeId) (ho : o.op = .call { callee := .value (.func 41), args := #[x0, x1], argTypes := ts }) (v0 : Value) (v1 : Value) (h0 : a.eval x0 = v0) (h1 : a.eval x1 = v1) : (execOp a.eval o).run Tryz.prog w = .ok (.enter 41 #[v0, v1]) w := by
  subst h0; subst h1
  simp [execOp, ho, go_sem, Act.eval]
theorem er_c_again {o : Oper} {a : Act} {w : World} (x0 x1 : Operand) (ts : Array TypeId) (ho : o.op = .call { callee := .value (.func 40), args := #[x0, x1], argTypes := ts }) (v0 : Value) (v1 : Value) (h0 : a.eval x0 = v0) (h1 : a.eval x1 = v1) : (execOp a.eval o).run Tryz.prog w = .ok (.enter 40 #[v0, v1]) w := by
  subst h0; subst h1
  simp [execOp, ho, go_sem, Act.eval]

end Go.Proofs.YtnmhcnppdhdhfaaGreatDoor

namespace Go.Proofs.YtnmhcnppdhdhfaaGreatDoor
open Go.RowKit Plain
set_option linter.unusedVariables false
set_option maxRecDepth 100000

/-- the tick of the first two hyperperiods -/
theorem played_any (h t : Nat) (w : World) (h1 : 1 ≤ h) (h2 : h ≤ 1048576) (h3 : t ≤ 1099511627776) : Calls Tryz.prog 38 #[.int .i64 h, .int .i64 t] w fun e w' => e = .returned (.int .i64 (Rule.fold h t)) ∧ w' = w := by
  unfold Rule.fold
  by_cases hlt : t < h
  · rw [if_pos hlt]
    go_enter Tryz.func38, Tryz.ntmps38
    go_wp2
    go_ret
    exact ⟨rfl, rfl⟩
  · rw [if_neg hlt]
    have hm := Nat.mod_lt t (show h > 0 by omega)
    have e : ((h + t % h : Nat) : Int) = (h : Int) + (t : Int) % (h : Int) := by rw [Int.natCast_add, Int.natCast_emod]
    rw [e]
    have m0 : (0 : Int) ≤ (t : Int) % (h : Int) := Int.emod_nonneg _ (by omega)
    have m1 : (t : Int) % (h : Int) < h := Int.emod_lt_of_pos _ (by omega)
    have hle : (h : Int) ≤ t := by omega
    clear e hm hlt
    go_enter Tryz.func38, Tryz.ntmps38
    go_wp2
    go_ret
    exact ⟨rfl, rfl⟩

theorem catch_no (g k n r : Nat) (w : World) (h6 : w.cell? ⟨g, k + 6, none⟩ = some (nv r)) (hlt : n < r) :
    Calls Tryz.prog 99 #[.pointer (some ⟨g, k, none⟩), .int .i64 n] w fun e w' => (∃ v, e = .returned v) ∧ w' = w := by
  unfold nv at h6
  go_enter Tryz.func99, Tryz.ntmps99
  go_wp2
  go_end0
  exact ⟨⟨_, rfl⟩, rfl⟩

set_option maxHeartbeats 800000 in
theorem catch_yes (g k n r p b o x : Nat) (w : World) (h0 : w.cell? ⟨g, k, none⟩ = some (nv p)) (h1 : w.cell? ⟨g, k + 1, none⟩ = some (nv b)) (h2 : w.cell? ⟨g, k + 2, none⟩ = some (nv o)) (h5 : w.cell? ⟨g, k + 5, none⟩ = some (nv x)) (h6 : w.cell? ⟨g, k + 6, none⟩ = some (nv r))
    (f5 : w.frozen? ⟨g, k + 5, none⟩ = false) (f6 : w.frozen? ⟨g, k + 6, none⟩ = false) (hle : r ≤ n) (hp : 1 ≤ p) (hp2 : p ≤ 1048576) (ho : o < p) (hn : n ≤ 1099511627776) :
    Calls Tryz.prog 99 #[.pointer (some ⟨g, k, none⟩), .int .i64 n] w fun e w' => (∃ v, e = .returned v) ∧ ∃ q, w' = ((w.setCell ⟨g, k + 5, none⟩ (nv b)).setCell ⟨g, k + 6, none⟩ (nv (nextN o p (n + 1)))).drewN q := by
  have hc := fun W => next_any o p (n + 1) W (by unfold I64; omega) (by unfold I64; omega) (by unfold I64; omega)
  have e1 : nextV o p (n + 1) = (nextN o p (n + 1) : Int) := nextV_nat o p (n + 1) hp (by omega)
  rw [e1] at hc
  generalize nextB o p (n + 1) = yb at *
  generalize nextN o p (n + 1) = v at *
  clear e1
  have g0 : (w.setCell ⟨g, k + 5, none⟩ (nv b)).cell? ⟨g, k, none⟩ = some (nv p) := by rw [cell_set h0, if_neg (by omega)]
  have g2 : (w.setCell ⟨g, k + 5, none⟩ (nv b)).cell? ⟨g, k + 2, none⟩ = some (nv o) := by rw [cell_set h2, if_neg (by omega)]
  have g6 : (w.setCell ⟨g, k + 5, none⟩ (nv b)).cell? ⟨g, k + 6, none⟩ = some (nv r) := by rw [cell_set h6, if_neg (by omega)]
  have gf : (w.setCell ⟨g, k + 5, none⟩ (nv b)).frozen? ⟨g, k + 6, none⟩ = false := by rw [World.frozen?_setCell]; exact f6
  unfold nv at *
  have HG : Hid ((w.setCell ⟨g, k + 5, none⟩ (.int .i64 b)).cell? ⟨g, k, none⟩ = some (.int .i64 p) ∧ (w.setCell ⟨g, k + 5, none⟩ (.int .i64 b)).cell? ⟨g, k + 2, none⟩ = some (.int .i64 o) ∧ (w.setCell ⟨g, k + 5, none⟩ (.int .i64 b)).cell? ⟨g, k + 6, none⟩ = some (.int .i64 r) ∧ (w.setCell ⟨g, k + 5, none⟩ (.int .i64 b)).frozen? ⟨g, k + 6, none⟩ = false) := ⟨g0, g2, g6, gf⟩
  clear g0 g2 g6 gf h0 h2 f6
  go_enter Tryz.func99, Tryz.ntmps99
  go_upto_region 2 with fail
  obtain ⟨g0, g2, g6, gf⟩ := HG.out
  clear h1 h5 h6 f5 HG
  generalize hw1 : w.setCell ⟨g, k + 5, none⟩ (.int .i64 b) = w1 at *
  have HE : Hid (w.setCell ⟨g, k + 5, none⟩ (.int .i64 b) = w1) := hw1
  clear hw1
  clear hle ho hp hp2
  have HW : Hid (wrap64 ((n : Int) + 1) = n + 1) := by show wrap64 ((n : Int) + 1) = n + 1; unfold wrap64; omega
  try simp only [Act.put, List.setIfInBounds_toArray, List.set_cons_zero, List.set_cons_succ]
  refine wp_region_held_drew (S := fun w' => w'.cell? ⟨g, k, none⟩ = some (.int .i64 p) ∧ w'.cell? ⟨g, k + 2, none⟩ = some (.int .i64 o) ∧ ((∃ q, w' = w1.drewN q) ∨ ∃ q, w' = (w1.setCell ⟨g, k + 6, none⟩ (.int .i64 v)).drewN q)) (by kernel_rfl) ⟨g0, g2, .inl ⟨1, rfl⟩⟩ (fun hS => ?_)
  refine d_take 0 19 rfl rfl (by kernel_rfl) (by kernel_rfl) (by kernel_rfl) (fun _ _ _ h => h) rfl (fun w' hw' => er_mv _ rfl (.pointer (some ⟨g, k, none⟩)) rfl) hS ?_
  simp only [Act.put, List.setIfInBounds_toArray, List.set_cons_zero, List.set_cons_succ]
  refine d_take 1 20 rfl rfl (by kernel_rfl) (by kernel_rfl) (by kernel_rfl) (fun _ _ _ h => h) rfl (fun w' hw' => er_mv _ rfl (.pointer (some ⟨g, k, none⟩)) rfl) hS ?_
  simp only [Act.put, List.setIfInBounds_toArray, List.set_cons_zero, List.set_cons_succ]
  refine d_take 2 21 rfl rfl (by kernel_rfl) (by kernel_rfl) (by kernel_rfl) (fun _ _ _ h => h) rfl (fun w' hw' => er_nil _ rfl ⟨g, k, none⟩ rfl) hS ?_
  simp only [Act.put, List.setIfInBounds_toArray, List.set_cons_zero, List.set_cons_succ]
  refine d_take 3 22 rfl rfl (by kernel_rfl) (by kernel_rfl) (by kernel_rfl) (fun _ _ _ h => h) rfl (fun w' hw' => er_pl0 _ rfl g (k) rfl) hS ?_
  simp only [Act.put, List.setIfInBounds_toArray, List.set_cons_zero, List.set_cons_succ]
  refine d_take 4 23 rfl rfl (by kernel_rfl) (by kernel_rfl) (by kernel_rfl) (fun _ _ _ h => h) rfl (fun w' hw' => er_sv2 _ rfl g (k) rfl) hS ?_
  simp only [Act.put, List.setIfInBounds_toArray, List.set_cons_zero, List.set_cons_succ]
  refine d_take 5 24 rfl rfl (by kernel_rfl) (by kernel_rfl) (by kernel_rfl) (fun _ _ _ h => h) rfl (fun w' hw' => er_ld3 _ rfl g (k + 2) (.int .i64 o) rfl hw'.2.1) hS ?_
  simp only [Act.put, List.setIfInBounds_toArray, List.set_cons_zero, List.set_cons_succ]
  refine d_take 6 25 rfl rfl (by kernel_rfl) (by kernel_rfl) (by kernel_rfl) (fun _ _ _ h => h) rfl (fun w' hw' => er_mv _ rfl (.pointer (some ⟨g, k, none⟩)) rfl) hS ?_
  simp only [Act.put, List.setIfInBounds_toArray, List.set_cons_zero, List.set_cons_succ]
  refine d_take 7 26 rfl rfl (by kernel_rfl) (by kernel_rfl) (by kernel_rfl) (fun _ _ _ h => h) rfl (fun w' hw' => er_nil _ rfl ⟨g, k, none⟩ rfl) hS ?_
  simp only [Act.put, List.setIfInBounds_toArray, List.set_cons_zero, List.set_cons_succ]
  refine d_take 8 27 rfl rfl (by kernel_rfl) (by kernel_rfl) (by kernel_rfl) (fun _ _ _ h => h) rfl (fun w' hw' => er_pl0 _ rfl g (k) rfl) hS ?_
  simp only [Act.put, List.setIfInBounds_toArray, List.set_cons_zero, List.set_cons_succ]
  refine d_take 9 28 rfl rfl (by kernel_rfl) (by kernel_rfl) (by kernel_rfl) (fun _ _ _ h => h) rfl (fun w' hw' => er_sv0 _ rfl g (k) rfl) hS ?_
  simp only [Act.put, List.setIfInBounds_toArray, List.set_cons_zero, List.set_cons_succ]
  refine d_take 10 29 rfl rfl (by kernel_rfl) (by kernel_rfl) (by kernel_rfl) (fun _ _ _ h => h) rfl (fun w' hw' => er_ld3 _ rfl g k (.int .i64 p) rfl hw'.1) hS ?_
  simp only [Act.put, List.setIfInBounds_toArray, List.set_cons_zero, List.set_cons_succ]
  refine d_take 11 30 rfl rfl (by kernel_rfl) (by kernel_rfl) (by kernel_rfl) (fun _ _ _ h => h) rfl (fun w' hw' => er_mv _ rfl (.int .i64 n) rfl) hS ?_
  simp only [Act.put, List.setIfInBounds_toArray, List.set_cons_zero, List.set_cons_succ]
  refine d_take 12 31 rfl rfl (by kernel_rfl) (by kernel_rfl) (by kernel_rfl) (fun _ _ _ h => h) rfl (fun w' hw' => er_add _ _ rfl n 1 (n + 1) rfl rfl HW.out) hS ?_
  simp only [Act.put, List.setIfInBounds_toArray, List.set_cons_zero, List.set_cons_succ]
  refine d_callT (fun w' => ∃ q, w' = w1.drewN q) 13 32 (v := .tuple #[.int .i64 v, .bool yb]) (by kernel_rfl) rfl rfl rfl (er_c_NextAt _ _ _ _ rfl (.int .i64 o) (.int .i64 p) (.int .i64 (n + 1)) rfl rfl rfl) ((hc _).mono (by rintro e w' ⟨rfl, rfl⟩; exact ⟨rfl, hS, ⟨1, rfl⟩⟩)) (fun w2 hS hT => ?_)
  simp only [Act.put, List.setIfInBounds_toArray, List.set_cons_zero, List.set_cons_succ]
  refine d_take 14 18 rfl rfl (by kernel_rfl) (by kernel_rfl) (by kernel_rfl) (fun _ _ _ h => h) rfl (fun w' hw' => er_mv _ rfl (.tuple #[.int .i64 v, .bool yb]) rfl) hS ?_
  simp only [Act.put, List.setIfInBounds_toArray, List.set_cons_zero, List.set_cons_succ]
  refine d_take 15 33 rfl rfl (by kernel_rfl) (by kernel_rfl) (by kernel_rfl) (fun _ _ _ h => h) rfl (fun w' hw' => er_ext0 _ rfl (.int .i64 v) (.bool yb) rfl) hS ?_
  simp only [Act.put, List.setIfInBounds_toArray, List.set_cons_zero, List.set_cons_succ]
  refine d_take 16 34 rfl rfl (by kernel_rfl) (by kernel_rfl) (by kernel_rfl) (fun _ _ _ h => h) rfl (fun w' hw' => er_ext1 _ rfl (.int .i64 v) (.bool yb) rfl) hS ?_
  simp only [Act.put, List.setIfInBounds_toArray, List.set_cons_zero, List.set_cons_succ]
  refine d_take 17 35 rfl rfl (by kernel_rfl) (by kernel_rfl) (by kernel_rfl) (fun _ _ _ h => h) rfl (fun w' hw' => er_nil _ rfl ⟨g, k, none⟩ rfl) hS ?_
  simp only [Act.put, List.setIfInBounds_toArray, List.set_cons_zero, List.set_cons_succ]
  refine d_take 18 36 rfl rfl (by kernel_rfl) (by kernel_rfl) (by kernel_rfl) (fun _ _ _ h => h) rfl (fun w' hw' => er_pl3 _ rfl g (k) rfl) hS ?_
  simp only [Act.put, List.setIfInBounds_toArray, List.set_cons_zero, List.set_cons_succ]
  obtain ⟨q2, hT⟩ := hT
  have c6 : w2.cell? ⟨g, k + 6, none⟩ = some (.int .i64 r) := by rw [hT]; exact g6
  have d6 : w2.frozen? ⟨g, k + 6, none⟩ = false := by rw [hT]; exact gf
  have c0 : (w2.setCell ⟨g, k + 6, none⟩ (.int .i64 v)).cell? ⟨g, k, none⟩ = some (.int .i64 p) := by rw [cell_set hS.1, if_neg (by omega)]
  have c2 : (w2.setCell ⟨g, k + 6, none⟩ (.int .i64 v)).cell? ⟨g, k + 2, none⟩ = some (.int .i64 o) := by rw [cell_set hS.2.1, if_neg (by omega)]
  have ce : w2.setCell ⟨g, k + 6, none⟩ (.int .i64 v) = (w1.setCell ⟨g, k + 6, none⟩ (.int .i64 v)).drewN q2 := by rw [hT]; rfl
  refine d_turn 19 (by kernel_rfl) rfl rfl rfl (er_st3 _ _ rfl g (k + 6) (.int .i64 r) v rfl rfl c6 d6) ⟨c0, c2, .inr ⟨q2, ce⟩⟩ ?_
  refine wpAnyH_done (by kernel_rfl) ?_ _
  have HF : Hid (w2.setCell ⟨g, k + 6, none⟩ (.int .i64 v) = ((w.setCell ⟨g, k + 5, none⟩ (.int .i64 b)).setCell ⟨g, k + 6, none⟩ (.int .i64 v)).drewN q2) := by show _ = _; rw [ce, HE.out]
  clear c0 c2 ce hS hT c6 d6 g0 g2 g6 gf
  generalize w2.setCell ⟨g, k + 6, none⟩ (.int .i64 v) = w3 at *
  go_wp2
  go_end0
  exact ⟨⟨_, rfl⟩, q2, HF.out⟩
end Go.Proofs.YtnmhcnppdhdhfaaGreatDoor
