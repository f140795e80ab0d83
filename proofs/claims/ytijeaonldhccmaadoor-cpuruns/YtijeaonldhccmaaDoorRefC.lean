/-
  The document's effects: In, with, fault.
-/
import Derived.Test.YtijeaonldhccmaaDoorRefB
import Derived.Test.YtijeaonldhccmaaDoorRunP
import Derived.Test.YtijeaonldhccmaaDoorDoes
namespace Go.Proofs.YtijeaonldhccmaaDoor
open Go.RowKit
set_option linter.unusedVariables false

theorem refIn_any (c : Option Addr) (n k : Nat) (p : Int) (w : World) (hn : n ≤ 9223372036854775807) : Calls Tryd.prog 31 #[.slice c n k, .int .i64 p] w fun ex w' => ex = .returned (.int .i64 (bri p n)) ∧ w' = w := by
  unfold bri
  by_cases h1 : p < 0
  · rw [if_neg (by omega)]
    go_enter Tryd.func31, Tryd.ntmps31
    go_wp2
    go_ret
    exact ⟨rfl, rfl⟩
  · by_cases h2 : p > n
    · rw [if_neg (by omega)]
      go_enter Tryd.func31, Tryd.ntmps31
      go_wp2
      go_ret
      exact ⟨rfl, rfl⟩
    · rw [if_pos (by omega)]
      go_enter Tryd.func31, Tryd.ntmps31
      go_wp2
      go_ret
      exact ⟨rfl, rfl⟩

/-- two new blocks: an effect, the result's cell -/
structure Duo (w0 w : World) (E : Ef) : Prop where
  bel : Below w0.heap.size w0 w
  eff : w.heap[w0.heap.size]? = some (.cells (effC E.R E.pc E.st E.ad E.va E.fa E.ca) 27)
  res : w.heap[w0.heap.size + 1]? = some (.cells (effC zeroR 0 false 0 0 0 0) 27)
theorem duo_new (w : World) (E : Ef) : Duo w ((w.alloc (.cells (effC E.R E.pc E.st E.ad E.va E.fa E.ca) 27)).alloc (.cells (effC zeroR 0 false 0 0 0 0) 27)) E := by
  refine ⟨((Below.refl _ w).alloc (Nat.le_refl _) _).alloc (by simp) _, heap_second _ _ _, ?_⟩
  have := heap_alloc_last (w.alloc (.cells (effC E.R E.pc E.st E.ad E.va E.fa E.ca) 27)) (.cells (effC zeroR 0 false 0 0 0 0) 27)
  simpa using this
theorem Duo.setR {w0 w : World} {E : Ef} (h : Duo w0 w E) {k : Nat} (hk : k < 16) (v : Int) : Duo w0 (w.setCell ⟨w0.heap.size, k, none⟩ (.int .i64 v)) ⟨upd E.R k v, E.pc, E.st, E.ad, E.va, E.fa, E.ca⟩ :=
  ⟨h.bel.setCell (p := ⟨w0.heap.size, k, none⟩) (Nat.le_refl _) _, setR_eff h.eff hk v, (heap_setCell_ne _ _ _ _ (by show w0.heap.size + 1 ≠ w0.heap.size; omega)).trans h.res⟩
theorem Duo.outBel {w0 w : World} {E : Ef} (h : Duo w0 w E) (cs : Array Value) : Below w0.heap.size w0 (w.setRow (w0.heap.size + 1) cs) :=
  ⟨h.bel.os, h.bel.tape, h.bel.output, by simpa [World.setRow] using h.bel.size, fun k hk => (setRow_other _ _ _ _ (by omega)).trans (h.bel.block k hk)⟩

set_option maxHeartbeats 1000000 in
theorem refWith_any (E : Ef) (r : Nat) (hr : r < 16) (v : Int) (w : World) :
    Calls Tryd.prog 76 #[E.v, .int .u8 r, .int .i64 v] w fun ex w' => ex = .returned (Ef.v ⟨upd E.R r v, E.pc, E.st, E.ad, E.va, E.fa, E.ca⟩) ∧ Below w.heap.size w w' := by
  have D0 := duo_new w E
  go_enter Tryd.func76, Tryd.ntmps76
  go_upto_region 1 with (first
    | (refine wl_box27 _ rfl rfl E.R E.pc E.st E.ad E.va E.fa E.ca rfl ?_)
    | (refine wl_alloc27 rfl rfl ?_))
  generalize (w.alloc (.cells (effC E.R E.pc E.st E.ad E.va E.fa E.ca) 27)).alloc (.cells (effC zeroR 0 false 0 0 0 0) 27) = w1 at D0 ⊢
  have e0 := cR D0.eff hr
  have z0 := (c21 D0.eff).2.2.2.2.2.2 r
  have D1 := D0.setR hr v
  clear D0
  go_upto_region 2 with fail
  generalize w1.setCell ⟨w.heap.size, r, none⟩ (.int .i64 v) = w2 at D1 ⊢
  clear e0 z0
  go_wp2_with (first
    | (refine wl_load27 _ rfl rfl (upd E.R r v) E.pc E.st E.ad E.va E.fa E.ca w.heap.size rfl D1.eff ?_)
    | (refine wl_store27 _ _ rfl rfl (upd E.R r v) E.pc E.st E.ad E.va E.fa E.ca (w.heap.size + 1) _ rfl rfl D1.res rfl ?_))
  refine bodyPost_ret (results_cell_row rfl _ _ (w.heap.size + 1) 27 _ _ _ rfl (setRow_heap _ _ _ _ _ _ D1.res) Tryd.underlying27 rfl (by rw [effC_size]; exact info27)) rfl ?_
  exact ⟨rfl, D1.outBel _⟩

theorem run_build27c (R : Nat → Int) (pc fa : Int) (w : World) : (Instr.build 27 #[(0, regV R), (1, .int .i64 pc), (5, .int .i64 fa)]).run Tryd.prog w = .ok (effV R pc false 0 0 fa 0) w := by
  unfold regV regC effV effC
  simp [Instr.build, Instr.fill, Value.cells]
theorem wl_build27c {ops : Array Oper} {rest : List Oper} {op : Oper} {a : Act} {w : World} {Q : Exit → Act → World → Prop} (x y z : Operand) (ho : op.op = .build 27 #[(0, x), (1, y), (5, z)]) (hgd : op.guard = none) (R : Nat → Int) (pc fa : Int) (hx : a.eval x = regV R) (hy : a.eval y = .int .i64 pc) (hz : a.eval z = .int .i64 fa)
    (h : wpList Tryd.prog ops Q rest (a.put op.dst (effV R pc false 0 0 fa 0)) w) : wpList Tryd.prog ops Q (op :: rest) a w :=
  wpList_val hgd (by simp only [execOp, ho, List.map_toArray, List.map_cons, List.map_nil, hx, hy, hz]; rw [Sem.run_bind, run_build27c R pc fa w]; rfl) h
/-- registers in a box, the result's cell -/
structure Rgs (w0 w : World) (R : Nat → Int) : Prop where
  bel : Below w0.heap.size w0 w
  reg : w.heap[w0.heap.size]? = some (.cells (regC R) 25)
  res : w.heap[w0.heap.size + 1]? = some (.cells (effC zeroR 0 false 0 0 0 0) 27)
theorem rgs_new (w : World) (R : Nat → Int) : Rgs w ((w.alloc (.cells (regC R) 25)).alloc (.cells (effC zeroR 0 false 0 0 0 0) 27)) R := by
  refine ⟨((Below.refl _ w).alloc (Nat.le_refl _) _).alloc (by simp) _, heap_second _ _ _, ?_⟩
  have := heap_alloc_last (w.alloc (.cells (regC R) 25)) (.cells (effC zeroR 0 false 0 0 0 0) 27)
  simpa using this
theorem Rgs.outBel {w0 w : World} {R : Nat → Int} (h : Rgs w0 w R) (cs : Array Value) : Below w0.heap.size w0 (w.setRow (w0.heap.size + 1) cs) :=
  ⟨h.bel.os, h.bel.tape, h.bel.output, by simpa [World.setRow] using h.bel.size, fun k hk => (setRow_other _ _ _ _ (by omega)).trans (h.bel.block k hk)⟩

set_option maxHeartbeats 1000000 in
theorem refFault_any (R : Nat → Int) (pc : Nat) (hpc : (pc : Int) < 9223372036854775807) (fa : Int) (w : World) :
    Calls Tryd.prog 33 #[regV R, .int .i64 pc, .int .i64 fa] w fun ex w' => ex = .returned (Ef.v ⟨R, (pc : Int) + 1, false, 0, 0, fa, 0⟩) ∧ Below w.heap.size w w' := by
  have D0 := rgs_new w R
  have hpw : wrap64 ((pc : Int) + 1) = (pc : Int) + 1 := by unfold wrap64; omega
  go_enter Tryd.func33, Tryd.ntmps33
  go_upto_region 1 with (first
    | (refine wl_box25 _ rfl rfl R rfl ?_)
    | (refine wl_alloc27 rfl rfl ?_))
  generalize (w.alloc (.cells (regC R) 25)).alloc (.cells (effC zeroR 0 false 0 0 0 0) 27) = w1 at D0 ⊢
  go_wp2_with (first
    | (refine wl_load25 _ rfl rfl R w.heap.size rfl D0.reg ?_)
    | (refine wl_build27c _ _ _ rfl rfl R ((pc : Int) + 1) fa rfl rfl rfl ?_)
    | (refine wl_store27 _ _ rfl rfl R ((pc : Int) + 1) false 0 0 fa 0 (w.heap.size + 1) _ rfl rfl D0.res rfl ?_))
  refine bodyPost_ret (results_cell_row rfl _ _ (w.heap.size + 1) 27 _ _ _ rfl (setRow_heap _ _ _ _ _ _ D0.res) Tryd.underlying27 rfl (by rw [effC_size]; exact info27)) rfl ?_
  exact ⟨rfl, D0.outBel _⟩

end Go.Proofs.YtijeaonldhccmaaDoor
