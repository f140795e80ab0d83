/-
  The document's to: may the channel lead to its To?
-/
import Derived.Test.YtggejpccjmolhaaGreatDoorG35
import Derived.Test.YtggejpccjmolhaaGreatDoorAPt
import Derived.BigRegion
namespace Go.Proofs.YtggejpccjmolhaaGreatDoor
open Go.RowKit Plain
set_option linter.unusedVariables false
set_option linter.unusedSimpArgs false
set_option maxRecDepth 100000

/-- behind one of To, of so many words -/
def toF (ps : List Po) (M : List Ch) (kd : Int) : Int → Int → List Int → Bool
  | _, _, [] => true
  | prev, size, x :: r => inB x 1 ps.length && (decide (prev < x) && (!((poAt ps x).out) && ((poAt ps x).kd == kd && ((poAt ps x).sz == (if size = 0 then (poAt ps x).sz else size) && (!(M.any fun o => o.dst.any fun y => y == x) && toF ps M kd x (if size = 0 then (poAt ps x).sz else size) r)))))
theorem hid {p : Prop} (h : p) : Hid p := h
section
variable {o : Oper} {a : Act} {w : World}
theorem er_fIm1 (x : Operand) (ho : o.op = .fieldAddr 26 x 1) (g k : Nat) (hx : a.eval x = .pointer (some ⟨g, k, none⟩)) : (execOp a.eval o).run Tryz.prog w = .ok (.value (.pointer (some ⟨g, k + 1, none⟩))) w := by
  simp only [execOp, ho, hx]; simp [go_sem, add_none]
theorem er_fCh2 (x : Operand) (ho : o.op = .fieldAddr 34 x 2) (g k : Nat) (hx : a.eval x = .pointer (some ⟨g, k, none⟩)) : (execOp a.eval o).run Tryz.prog w = .ok (.value (.pointer (some ⟨g, k + 2, none⟩))) w := by
  simp only [execOp, ho, hx]; simp [go_sem, add_none]
theorem er_fCh0 (x : Operand) (ho : o.op = .fieldAddr 34 x 0) (g k : Nat) (hx : a.eval x = .pointer (some ⟨g, k, none⟩)) : (execOp a.eval o).run Tryz.prog w = .ok (.value (.pointer (some ⟨g, k, none⟩))) w := by
  simp only [execOp, ho, hx]; simp [go_sem, add_none]
theorem er_fPo1 (x : Operand) (ho : o.op = .fieldAddr 41 x 1) (g k : Nat) (hx : a.eval x = .pointer (some ⟨g, k, none⟩)) : (execOp a.eval o).run Tryz.prog w = .ok (.value (.pointer (some ⟨g, k + 1, none⟩))) w := by
  simp only [execOp, ho, hx]; simp [go_sem, add_none]
theorem er_fPo2 (x : Operand) (ho : o.op = .fieldAddr 41 x 2) (g k : Nat) (hx : a.eval x = .pointer (some ⟨g, k, none⟩)) : (execOp a.eval o).run Tryz.prog w = .ok (.value (.pointer (some ⟨g, k + 2, none⟩))) w := by
  simp only [execOp, ho, hx]; simp [go_sem, add_none]
theorem er_fPo3 (x : Operand) (ho : o.op = .fieldAddr 41 x 3) (g k : Nat) (hx : a.eval x = .pointer (some ⟨g, k, none⟩)) : (execOp a.eval o).run Tryz.prog w = .ok (.value (.pointer (some ⟨g, k + 3, none⟩))) w := by
  simp only [execOp, ho, hx]; simp [go_sem, add_none]
theorem er_ldIs (x : Operand) (ho : o.op = .load 27 x) (g off : Nat) (v : Value) (hx : a.eval x = .pointer (some ⟨g, off, none⟩)) (hr : w.cell? ⟨g, off, none⟩ = some v) : (execOp a.eval o).run Tryz.prog w = .ok (.value v) w := by
  simp only [execOp, ho, hx]; simp [go_sem, hr]
theorem er_ldPos (x : Operand) (ho : o.op = .load 23 x) (g off : Nat) (v : Value) (hx : a.eval x = .pointer (some ⟨g, off, none⟩)) (hr : w.cell? ⟨g, off, none⟩ = some v) : (execOp a.eval o).run Tryz.prog w = .ok (.value v) w := by
  simp only [execOp, ho, hx]; simp [go_sem, hr]
theorem er_ldInt (x : Operand) (ho : o.op = .load 3 x) (g off : Nat) (v : Value) (hx : a.eval x = .pointer (some ⟨g, off, none⟩)) (hr : w.cell? ⟨g, off, none⟩ = some v) : (execOp a.eval o).run Tryz.prog w = .ok (.value v) w := by
  simp only [execOp, ho, hx]; simp [go_sem, hr]
theorem er_ldBl (x : Operand) (ho : o.op = .load 4 x) (g off : Nat) (v : Value) (hx : a.eval x = .pointer (some ⟨g, off, none⟩)) (hr : w.cell? ⟨g, off, none⟩ = some v) : (execOp a.eval o).run Tryz.prog w = .ok (.value v) w := by
  simp only [execOp, ho, hx]; simp [go_sem, hr]
theorem er_ixIs (x y : Operand) (ho : o.op = .indexAddr 27 x y) (b off n c d : Nat) (hd : d < n) (hn : n ≤ 9223372036854775807) (hx : a.eval x = .slice (some ⟨b, off, none⟩) n c) (hy : a.eval y = .int .i64 d) : (execOp a.eval o).run Tryz.prog w = .ok (.value (.pointer (some ⟨b, off + d, none⟩))) w := by
  simp only [execOp, ho, hx, hy]
  simp [go_sem, add_none]
  omega
theorem er_lenPo (x : Operand) (ho : o.op = .call { callee := .builtin .len, args := #[x], argTypes := #[23] }) (p : Option Addr) (n c : Nat) (hx : a.eval x = .slice p n c) : (execOp a.eval o).run Tryz.prog w = .ok (.value (.int .i64 n)) w := by
  generalize a.eval = ev at hx ⊢
  simp [execOp, ho, go_sem, hx]
theorem er_gtN (x y : Operand) (ho : o.op = .binOp .gtr 3 x y 3) (k l : Int) (b : Bool) (hx : a.eval x = .int .i64 k) (hy : a.eval y = .int .i64 l) (hb : decide (l < k) = b) : (execOp a.eval o).run Tryz.prog w = .ok (.value (.bool b)) w := by
  subst hb; simp only [execOp, ho, hx, hy]; simp [go_sem]
theorem er_leN (x y : Operand) (ho : o.op = .binOp .leq 3 x y 3) (k l : Int) (b : Bool) (hx : a.eval x = .int .i64 k) (hy : a.eval y = .int .i64 l) (hb : decide (k ≤ l) = b) : (execOp a.eval o).run Tryz.prog w = .ok (.value (.bool b)) w := by
  subst hb; simp only [execOp, ho, hx, hy]; simp [go_sem]
theorem er_neN (x y : Operand) (ho : o.op = .binOp .neq 3 x y 3) (k l : Int) (b : Bool) (hx : a.eval x = .int .i64 k) (hy : a.eval y = .int .i64 l) (hb : (k != l) = b) : (execOp a.eval o).run Tryz.prog w = .ok (.value (.bool b)) w := by
  subst hb; simp only [execOp, ho, hx, hy]; simp [go_sem, bne]
theorem er_sbN (x y : Operand) (ho : o.op = .binOp .sub 3 x y 3) (k l r : Int) (hx : a.eval x = .int .i64 k) (hy : a.eval y = .int .i64 l) (hr : wrap64 (k - l) = r) : (execOp a.eval o).run Tryz.prog w = .ok (.value (.int .i64 r)) w := by
  subst hr
  simp only [execOp, ho, hx, hy]; simp [go_sem, w64i]
theorem er_ntB (x : Operand) (ho : o.op = .unOp .not 4 x) (b c : Bool) (hx : a.eval x = .bool b) (hc : (!b) = c) : (execOp a.eval o).run Tryz.prog w = .ok (.value (.bool c)) w := by
  subst hc; simp only [execOp, ho, hx]; simp [go_sem]
theorem er_pkT (c x y : Operand) (ho : o.op = .pick c x y) (v : Value) (hc : a.eval c = .bool true) (hx : a.eval x = v) : (execOp a.eval o).run Tryz.prog w = .ok (.value v) w := by
  simp only [execOp, ho, hc, hx]; simp [go_sem]
theorem er_pkF (c x y : Operand) (ho : o.op = .pick c x y) (v : Value) (hc : a.eval c = .bool false) (hx : a.eval y = v) : (execOp a.eval o).run Tryz.prog w = .ok (.value v) w := by
  simp only [execOp, ho, hc, hx]; simp [go_sem]
theorem er_cWi (x y z : Operand) (ho : o.op = .call { callee := .value (.func 29), args := #[x, y, z], argTypes := #[3, 3, 3] }) (u v s : Value) (hx : a.eval x = u) (hy : a.eval y = v) (hz : a.eval z = s) : (execOp a.eval o).run Tryz.prog w = .ok (.enter 29 #[u, v, s]) w := by
  subst hx hy hz
  simp [execOp, ho, go_sem, Act.eval]
theorem er_cFed (x y z t : Operand) (ho : o.op = .call { callee := .value (.func 45), args := #[x, y, z, t], argTypes := #[26, 3, 3, 4] }) (u v s r : Value) (hx : a.eval x = u) (hy : a.eval y = v) (hz : a.eval z = s) (ht : a.eval t = r) : (execOp a.eval o).run Tryz.prog w = .ok (.enter 45 #[u, v, s, r]) w := by
  subst hx hy hz ht
  simp [execOp, ho, go_sem, Act.eval]
end
theorem quiet_cWi {C : World → Prop} {a : Act} {o : Oper} {K : Act → Prop} (x y z : Operand) (ho : o.op = .call { callee := .value (.func 29), args := #[x, y, z], argTypes := #[3, 3, 3] }) (u v s r : Value) (hx : a.eval x = u) (hy : a.eval y = v) (hz : a.eval z = s)
    (hc : ∀ w, C w → Calls Tryz.prog 29 #[u, v, s] w fun e w'' => e = .returned r ∧ C w'') (hk : K (a.put o.dst r)) : o.quiet Tryz.prog a C K :=
  quiet_callP (f := 29) (args := #[u, v, s]) (fun w => er_cWi x y z ho u v s hx hy hz) hc hk
theorem quiet_cFed {C : World → Prop} {a : Act} {o : Oper} {K : Act → Prop} (x y z t : Operand) (ho : o.op = .call { callee := .value (.func 45), args := #[x, y, z, t], argTypes := #[26, 3, 3, 4] }) (u v s b r : Value) (hx : a.eval x = u) (hy : a.eval y = v) (hz : a.eval z = s) (ht : a.eval t = b)
    (hc : ∀ w, C w → Calls Tryz.prog 45 #[u, v, s, b] w fun e w'' => e = .returned r ∧ C w'') (hk : K (a.put o.dst r)) : o.quiet Tryz.prog a C K :=
  quiet_callP (f := 45) (args := #[u, v, s, b]) (fun w => er_cFed x y z t ho u v s b hx hy hz ht) hc hk
theorem sizeEIm : (Tryz.prog.info? 26).map (·.size) = some 3 := by kernel_rfl
end Go.Proofs.YtggejpccjmolhaaGreatDoor
