/-
  Laws of operations, by hand.
-/
import Derived.Test.YtfdcmhbpnadcpabDoorIDat
namespace Go.Proofs.YtfdcmhbpnadcpabDoor
open Go.RowKit
set_option linter.unusedVariables false
set_option linter.unusedSimpArgs false
set_option maxRecDepth 100000

section
variable {P : Program} {md : Region.Mode} {ops : Array Oper} {Q : Exit → Act → World → Prop} {S : World → Prop} {fuel : Nat} {listed : Array Bool} {a : Act} {w : World}
theorem d_skip (i k : Nat) {oi : Oper} (hi : ops[i]? = some oi) (hd : oi.dst = some k) (hs : Region.noSelect ops = true) (hf : Region.free md ops listed i = true) (hr : (Region.ready md ops listed).contains i = true)
    (hQ : ∀ c a w, Q (.panic c) (a.put (some k) undef) w → Q (.panic c) a w) (hw : Region.wanted oi (yielded ops a.tmps) = false) (hS : S w)
    (h : wpAnyH P md ops Q S fuel (listed.setIfInBounds i true) (a.put (some k) undef) w) : wpAnyH P md ops Q S (fuel + 1) listed a w :=
  h_skip i hi hs hf hr (by rw [hd]; exact hQ) hw hS (by rw [hd]; exact h)
end
section
variable {w : World} {a : Act} {o : Oper}
theorem er_eqlI (x y : Operand) (ho : o.op = .binOp .eql 3 x y 3) (u v : Int) (c : Bool) (hx : a.eval x = .int .i64 u) (hy : a.eval y = .int .i64 v) (hc : decide (u = v) = c) : (execOp a.eval o).run Tryd.prog w = .ok (.value (.bool c)) w := by
  subst hc
  simp only [execOp, ho, hx, hy]
  by_cases h : u = v <;> simp [go_sem, h]
theorem er_geq (x y : Operand) (ho : o.op = .binOp .geq 3 x y 3) (u v : Int) (c : Bool) (hx : a.eval x = .int .i64 u) (hy : a.eval y = .int .i64 v) (hc : decide (v ≤ u) = c) : (execOp a.eval o).run Tryd.prog w = .ok (.value (.bool c)) w := by
  subst hc
  simp only [execOp, ho, hx, hy]; simp [go_sem]
theorem er_subN (x : Operand) (ho : o.op = .binOp .sub 3 x (.const (.int .i64 1)) 3) (d : Nat) (hx : a.eval x = .int .i64 ((d + 1 : Nat) : Int)) (hb : d ≤ 1048576) : (execOp a.eval o).run Tryd.prog w = .ok (.value (.int .i64 (d : Int))) w := by
  have hw : IntKind.i64.wrap (d : Int) = (d : Int) := by
    rw [IntWalk.i64_left]
    unfold wrap64
    omega
  have hd : ((d + 1 : Nat) : Int) - 1 = (d : Int) := by omega
  simp only [execOp, ho, hx]; simp [go_sem, Act.eval, hw]
end
end Go.Proofs.YtfdcmhbpnadcpabDoor
