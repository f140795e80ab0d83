/-
  PortInOrder: what its walk reads.
-/
import Derived.Test.YthebokkogeigoaaPInT
namespace Go.Proofs.Ythebokkogeigoaa
open Go.RowKit
set_option linter.unusedVariables false
set_option maxRecDepth 100000

namespace Wy
variable {w wr w1 : World} {q : Nat} {pv : Value} {la : Option Addr} {pb po : Nat} {n lc : Nat} {ps : Nat → Pr} {part : Int} {b mb c gw gl : Nat} {S : Pd} {wv : Nat → Value} {wm : Nat → List Value} {lo : Nat → Int} {st : Nat}
theorem zk (h : Wy w wr q pv la n lc ps part b mb c gw gl S wv wm lo) (K : Kept (Pw S) wr w1) {z : Nat} {cs : Array Value} (hz : wr.heap[z]? = some (.cells cs 44 (0, 0))) : w1.heap[z]? = some (.cells cs 44 (0, 0)) :=
  K.at' hz (fun q4 => by rcases h.pt.pw_tag q4 hz with q5 | q5 <;> exact absurd q5 (by decide))
theorem af (h : Wy w wr q pv (some ⟨pb, po, none⟩) n lc ps part b mb c gw gl S wv wm lo) {k : Nat} (hk : k < n) : wr.cell? ⟨q, 1, none⟩ = some (.slice (some ⟨pb, po, none⟩) n lc) ∧ wr.cell? ⟨pb, po + k * 6, none⟩ = some (.int .i64 (ps k).pt) ∧ wr.cell? ⟨pb, po + k * 6 + 1, none⟩ = some (.int .i64 (ps k).kd) ∧ wr.cell? ⟨pb, po + k * 6 + 3, none⟩ = some (.int .i64 (ps k).sz) ∧ wr.cell? ⟨pb, po + k * 6 + 4, none⟩ = some (.int .i64 (ps k).dp) ∧ wr.cell? ⟨gw, k, none⟩ = some (wv k) ∧ n ≤ lc ∧ lc ≤ 9223372036854775807 := by
  obtain ⟨pb', po', e, _, t0, t1, _, t3, t4, _⟩ := h.pl.at' k hk
  injection e with e
  injection e with e1 e2 _
  subst e1 e2
  exact ⟨(cell_blk h.img 1).trans rfl, t0, t1, t3, t4, h.wcell hk, h.pl.cap, h.pl.max⟩
theorem wvs (h : Wy w wr q pv la n lc ps part b mb c gw gl S wv wm lo) (H : Cn wr n S wm lo st (fun _ => False)) {k : Nat} (hk : k < n) (ho : S.own k = true) (hkd : (S.en k).kd = 1) : ∃ va vc, wv k = .slice va (S.en k).ms.length vc ∧ (S.en k).ms.length ≤ vc ∧ vc ≤ 9223372036854775807 ∧ (wm k).length = (S.en k).ms.length := by
  obtain ⟨va, vc, e, h1, h2⟩ := (h.que k hk).shape
  have hE := h.pt.ends k (by rw [h.sn]; exact hk) ho
  obtain ⟨_, _, _, a4, _⟩ := H k hk ho hkd (fun e => e)
  have e2 : (wm k).length = (S.en k).ms.length := by rw [a4, hE.len]
  rw [e2] at e h1
  exact ⟨va, vc, e, h1, h2, e2⟩
end Wy
section
variable {w : World} {a : Act} {o : Oper}
theorem er_sub1 (x : Operand) (ho : o.op = .binOp .sub 3 x (.const (.int .i64 1)) 3) (u : Int) (d : Nat) (hx : a.eval x = .int .i64 u) (hd : u - 1 = (d : Int)) (hb : d ≤ 4096) : (execOp a.eval o).run Try.prog w = .ok (.value (.int .i64 (d : Int))) w := by
  have hw : IntKind.i64.wrap (d : Int) = (d : Int) := by
    rw [IntWalk.i64_left]
    unfold wrap64
    omega
  simp only [execOp, ho, hx]; simp [go_sem, Act.eval, hd, hw]
theorem er_ixB (x y : Operand) (ho : o.op = .indexAddr 41 x y) (g i n c : Nat) (hx : a.eval x = .slice (some ⟨g, 0, none⟩) n c) (hy : a.eval y = .int .i64 (i : Int)) (hi : i < n) : (execOp a.eval o).run Try.prog w = .ok (.value (.pointer (some ⟨g, i, none⟩))) w := by
  simp only [execOp, ho, hx, hy]; simp [go_sem, add_none, hi]
theorem er_fO1 (x : Operand) (ho : o.op = .fieldAddr 44 x 1) (g : Nat) (hx : a.eval x = .pointer (some ⟨g, 0, none⟩)) : (execOp a.eval o).run Try.prog w = .ok (.value (.pointer (some ⟨g, 1, none⟩))) w := by simp only [execOp, ho, hx]; simp [go_sem, add_none]
theorem er_fO2 (x : Operand) (ho : o.op = .fieldAddr 44 x 2) (g : Nat) (hx : a.eval x = .pointer (some ⟨g, 0, none⟩)) : (execOp a.eval o).run Try.prog w = .ok (.value (.pointer (some ⟨g, 2, none⟩))) w := by simp only [execOp, ho, hx]; simp [go_sem, add_none]
theorem er_c_mk (x : Operand) (t : TypeId) (ho : o.op = .call { callee := .value (.func 14), args := #[x], argTypes := #[t] }) (v : Value) (hx : a.eval x = v) : (execOp a.eval o).run Try.prog w = .ok (.enter 14 #[v]) w := by
  subst hx
  simp [execOp, ho, go_sem, Act.eval]
end
end Go.Proofs.Ythebokkogeigoaa
