/-
  Reads by hand: addresses.
-/
import Derived.Test.YtijeaonldhccmaaDoorHeld
import Derived.Test.YtijeaonldhccmaaDoorRefD
namespace Go.Proofs.YtijeaonldhccmaaDoor
open Go.RowKit
set_option linter.unusedVariables false

section
variable {P : Program} {md : Region.Mode} {ops : Array Oper} {Q : Exit → Act → World → Prop} {S : World → Prop} {fuel : Nat} {listed : Array Bool} {a : Act} {w : World}
/-- the same, where the answer goes to a slot that is written out -/
theorem d_take (i k : Nat) {oi : Oper} {v : Value} (hi : ops[i]? = some oi) (hd : oi.dst = some k) (hs : Region.noSelect ops = true) (hf : Region.free md ops listed i = true) (hr : (Region.ready md ops listed).contains i = true)
    (hQ : ∀ c a w, Q (.panic c) (a.put (some k) v) w → Q (.panic c) a w) (hw : Region.wanted oi (yielded ops a.tmps) = true) (hv : ∀ w, S w → (execOp a.eval oi).run P w = .ok (.value v) w) (hS : S w)
    (h : wpAnyH P md ops Q S fuel (listed.setIfInBounds i true) (a.put (some k) v) w) : wpAnyH P md ops Q S (fuel + 1) listed a w :=
  h_take i hi hs hf hr (by rw [hd]; exact hQ) hw hv hS (by rw [hd]; exact h)
theorem d_call (i k : Nat) {oi : Oper} {f : FuncId} {args : Array Value} {v : Value} (hr : Region.ready md ops listed = [i]) (hi : ops[i]? = some oi) (hd : oi.dst = some k) (hw : Region.wanted oi (yielded ops a.tmps) = true) (hrun : (execOp a.eval oi).run P w = .ok (.enter f args) w)
    (hc : Calls P f args w fun e w'' => e = .returned v ∧ S w'') (h : ∀ w'', S w'' → wpAnyH P md ops Q S fuel (listed.setIfInBounds i true) (a.put (some k) v) w'') : wpAnyH P md ops Q S (fuel + 1) listed a w :=
  h_call i hr hi hw hrun hc (by rw [hd]; exact h)
theorem d_turn (i : Nat) {oi : Oper} {w' : World} (hr : Region.ready md ops listed = [i]) (hi : ops[i]? = some oi) (hd : oi.dst = none) (hw : Region.wanted oi (yielded ops a.tmps) = true) (hrun : (execOp a.eval oi).run P w = .ok .skip w')
    (hS : S w') (h : wpAnyH P md ops Q S fuel (listed.setIfInBounds i true) a w') : wpAnyH P md ops Q S (fuel + 1) listed a w :=
  h_turn i hr hi hw hrun hS (by rw [hd]; exact h)
end

section
variable {o : Oper} {a : Act} {w : World}
theorem er_f30_0 (x : Operand) (ho : o.op = .fieldAddr 30 x 0) (g : Nat) (hx : a.eval x = .pointer (some ⟨g, 0, none⟩)) : (execOp a.eval o).run Tryd.prog w = .ok (.value (.pointer (some ⟨g, 0, none⟩))) w := by simp only [execOp, ho, hx]; simp [go_sem]
theorem er_f30_1 (x : Operand) (ho : o.op = .fieldAddr 30 x 1) (g : Nat) (hx : a.eval x = .pointer (some ⟨g, 0, none⟩)) : (execOp a.eval o).run Tryd.prog w = .ok (.value (.pointer (some ⟨g, 1, none⟩))) w := by simp only [execOp, ho, hx]; simp [go_sem]
theorem er_f30_3 (x : Operand) (ho : o.op = .fieldAddr 30 x 3) (g : Nat) (hx : a.eval x = .pointer (some ⟨g, 0, none⟩)) : (execOp a.eval o).run Tryd.prog w = .ok (.value (.pointer (some ⟨g, 3, none⟩))) w := by simp only [execOp, ho, hx]; simp [go_sem]
theorem er_conv53 (x : Operand) (ho : o.op = .convert 5 3 x) (k : Nat) (hk : k < 256) (hx : a.eval x = .int .u8 k) : (execOp a.eval o).run Tryd.prog w = .ok (.value (.int .i64 k)) w := by
  have e : IntKind.i64.wrap (k : Int) = k := by rw [w64i, w6_id]; unfold I6; omega
  simp only [execOp, ho, hx]
  simp [go_sem, e]
theorem er_conv23 (x : Operand) (ho : o.op = .convert 2 3 x) (k : Int) (hk : I6 k) (hx : a.eval x = .int .i64 k) : (execOp a.eval o).run Tryd.prog w = .ok (.value (.int .i64 k)) w := by
  have e : IntKind.i64.wrap k = k := by rw [w64i, w6_id hk]
  simp only [execOp, ho, hx]
  simp [go_sem, e]
theorem er_index34 (x y : Operand) (ho : o.op = .indexAddr 34 x y) (b off n c d : Nat) (hd : d < n) (hn : n ≤ 9223372036854775807) (hx : a.eval x = .slice (some ⟨b, off, none⟩) n c) (hy : a.eval y = .int .i64 d) : (execOp a.eval o).run Tryd.prog w = .ok (.value (.pointer (some ⟨b, off + d, none⟩))) w := by
  simp only [execOp, ho, hx, hy]
  simp [go_sem, add_none]
  omega
theorem er_index25 (x y : Operand) (ho : o.op = .indexAddr 25 x y) (g d : Nat) (hd : d < 16) (hx : a.eval x = .pointer (some ⟨g, 0, none⟩)) (hy : a.eval y = .int .i64 d) : (execOp a.eval o).run Tryd.prog w = .ok (.value (.pointer (some ⟨g, d, none⟩))) w := by
  simp only [execOp, ho, hx, hy]
  simp [go_sem, add_none]
  omega
end

/-- what stands while a region draws: an instruction, registers, an effect; the result's cell -/
structure Hd (w0 w : World) (x : Ins) (R : Nat → Int) (q : Nat) (E : Ef) : Prop where
  bel : Below w0.heap.size w0 w
  ins : w.heap[w0.heap.size]? = some (.cells #[.int .u8 x.o, .int .u8 x.a, .int .u8 x.b, .int .u8 x.c, .int .i32 x.n] 30)
  reg : w.heap[w0.heap.size + 1]? = some (.cells (regC R) 25)
  res : ∃ cs, w.heap[w0.heap.size + 1 + 1]? = some (.cells cs 27) ∧ cs.size = 22
  eff : w.heap[q]? = some (.cells (effC E.R E.pc E.st E.ad E.va E.fa E.ca) 27)
namespace Hd
variable {w0 w w' : World} {x : Ins} {R : Nat → Int} {q : Nat} {E : Ef}
theorem of (h : Trb w0 w x R) (e : w.heap[q]? = some (.cells (effC E.R E.pc E.st E.ad E.va E.fa E.ca) 27)) : Hd w0 w x R q E := ⟨h.bel, h.ins, h.reg, ⟨_, h.res, rfl⟩, e⟩
theorem grow (h : Hd w0 w x R q E) (b : Below w.heap.size w w') : Hd w0 w' x R q E := by
  obtain ⟨cs, hr, hs⟩ := h.res
  exact ⟨h.bel.trans (b.mono h.bel.size), (b.block _ (heap_lt h.ins)).trans h.ins, (b.block _ (heap_lt h.reg)).trans h.reg, ⟨cs, (b.block _ (heap_lt hr)).trans hr, hs⟩, (b.block _ (heap_lt h.eff)).trans h.eff⟩
theorem drew (h : Hd w0 w x R q E) : Hd w0 w.drew x R q E := ⟨h.bel.drew, h.ins, h.reg, h.res, h.eff⟩
theorem store (h : Hd w0 w x R q E) (hq : w0.heap.size + 1 + 1 < q) (cs : Array Value) (hc : cs.size = 22) : Hd w0 (w.setRow (w0.heap.size + 1 + 1) cs) x R q E := by
  obtain ⟨cs0, hr, hs⟩ := h.res
  exact ⟨⟨h.bel.os, h.bel.tape, h.bel.output, by simpa [World.setRow] using h.bel.size, fun k hk => (setRow_other _ _ _ _ (by omega)).trans (h.bel.block k hk)⟩, (setRow_other _ _ _ _ (by omega)).trans h.ins, (setRow_other _ _ _ _ (by omega)).trans h.reg, ⟨cs, setRow_heap _ _ _ _ _ _ hr, hc⟩, (setRow_other _ _ _ _ (by omega)).trans h.eff⟩
end Hd

end Go.Proofs.YtijeaonldhccmaaDoor
