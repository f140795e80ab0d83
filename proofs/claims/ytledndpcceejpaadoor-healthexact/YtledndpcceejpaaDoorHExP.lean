/-
  HealthExact: what its walk keeps.
-/
import Derived.Test.YtledndpcceejpaaDoorHValid
import Derived.Test.YtledndpcceejpaaDoorHIntact
import Derived.BigQuiet
import Derived.ChangeKeysEq
import Derived.DeepKeys
namespace Go.Proofs.YtledndpcceejpaaDoor
open Go.RowKit
set_option linter.unusedVariables false
set_option maxRecDepth 100000

theorem pnL_len (gi gc g N cap : Nat) (h : Int) (t : Nat → Int) : (pnL gi gc g N cap h t).length = 21 := rfl
theorem pnL_6 (gi gc g N cap : Nat) (h : Int) (t : Nat → Int) : (pnL gi gc g N cap h t)[6]? = some (.slice (some ⟨gi, 0, none⟩) 2 3) := rfl
theorem pnL_7 (gi gc g N cap : Nat) (h : Int) (t : Nat → Int) : (pnL gi gc g N cap h t)[7]? = some (.slice (some ⟨gc, 0, none⟩) 2 3) := rfl
theorem pnL_8 (gi gc g N cap : Nat) (h : Int) (t : Nat → Int) : (pnL gi gc g N cap h t)[8]? = some (.slice (some ⟨g, 0, none⟩) N cap) := rfl
theorem pnL_9 (gi gc g N cap : Nat) (h : Int) (t : Nat → Int) : (pnL gi gc g N cap h t)[9]? = some (.int .i64 h) := rfl
theorem pnL_t (gi gc g N cap : Nat) (h : Int) (t : Nat → Int) : ∀ j, j < 8 → (pnL gi gc g N cap h t)[10 + j]? = some (.int .i64 (t j))
  | 0, _ => rfl
  | 1, _ => rfl
  | 2, _ => rfl
  | 3, _ => rfl
  | 4, _ => rfl
  | 5, _ => rfl
  | 6, _ => rfl
  | 7, _ => rfl
  | j + 8, h => by omega
theorem pnL_one (gi gc g N cap : Nat) (h : Int) (t : Nat → Int) : (pnL gi gc g N cap h t).toArray.all (·.oneCell') = true := pn_one _ _ _ _ _ _ _ _ _ h t
theorem pnA_size (gi gc g N cap : Nat) (h : Int) (t : Nat → Int) : (pnL gi gc g N cap h t).toArray.size = 21 := rfl
theorem cs_ld {W : World} {b : Nat} {n h : Int} {t : Nat → Int} {k p : Int} {busy : Bool} (H : W.heap[b]? = some (.cells (csA n h t k p busy) 24)) : (Instr.loadAt 24 (.pointer (some ⟨b, 0, none⟩))).run Tryd.prog W = .ok (.agg (csA n h t k p busy)) W :=
  run_loadAt_mid W b 0 _ (csA n h t k p busy).toList _ (fun j v hv => by rw [Nat.zero_add]; exact cell_row H (by simpa using hv)) Tryd.underlying24 rfl (by kernel_rfl)
theorem er_c4 {w : World} {a : Act} {o : Oper} (x : Operand) (t : TypeId) (ho : o.op = .call { callee := .value (.func 4), args := #[x], argTypes := #[t] }) (v : Value) (hx : a.eval x = v) : (execOp a.eval o).run Tryd.prog w = .ok (.enter 4 #[v]) w := by
  subst hx
  simp [execOp, ho, go_sem, Act.eval]
theorem cs_t {W : World} {b : Nat} {n h : Int} {t : Nat → Int} {k p : Int} {busy : Bool} (H : W.heap[b]? = some (.cells (csA n h t k p busy) 24)) : ∀ j, j < 8 → W.cell? ⟨b, 2 + j, none⟩ = some (.int .i64 (t j))
  | 0, _ => cell_row H rfl
  | 1, _ => cell_row H rfl
  | 2, _ => cell_row H rfl
  | 3, _ => cell_row H rfl
  | 4, _ => cell_row H rfl
  | 5, _ => cell_row H rfl
  | 6, _ => cell_row H rfl
  | 7, _ => cell_row H rfl
  | j + 8, h => by omega

/-- what is handed in, as data -/
structure Dd where
  n : Int
  h : Int
  t : Nat → Int
  k : Int
  p : Int
  busy : Bool
  va : Int
  vp : Int
def Dd.cs (d : Dd) : Array Value := csA d.n d.h d.t d.k d.p d.busy
/-- the case, the verdict, the partition and its lists where they lie, all below M -/
structure Ew (w W : World) (d : Dd) (M pb gi gc g N cap : Nat) : Prop where
  hk : Kept No w W
  c : W.heap[w.heap.size]? = some (.cells d.cs 24)
  v : W.heap[w.heap.size + 1]? = some (.cells #[.int .i64 d.va, .int .i64 d.vp] 26)
  pn : W.heap[pb]? = some (.cells (pnL gi gc g N cap d.h d.t).toArray 36)
  pm : Pm W w.heap.size gi gc g N cap
  nm : Nm W
  lo : w.heap.size + 1 < M ∧ pb < M ∧ gi < M ∧ gc < M ∧ g < M ∧ 0 < M ∧ M ≤ W.heap.size
namespace Ew
variable {w W W' : World} {d : Dd} {M pb gi gc g N cap : Nat}
theorem keepF {F : Nat → Prop} (E : Ew w W d M pb gi gc g N cap) (k : Kept F W W') (hF : ∀ j, F j → M ≤ j) : Ew w W' d M pb gi gc g N cap := by
  have lo := E.lo
  have sz := k.size
  have nf : ∀ j, j < M → ¬ F j := fun j hj f => by have := hF j f; omega
  refine ⟨E.hk.trans k (fun j f => .inr (by have := hF j f; omega)), k.at' E.c (nf _ (by omega)), k.at' E.v (nf _ (by omega)), k.at' E.pn (nf _ (by omega)), ⟨k.at' E.pm.ci (nf _ (by omega)), k.at' E.pm.cc (nf _ (by omega)), k.owns E.pm.own (fun j hj f => ?_), E.pm.lo⟩, fun i hi => k.cell (E.nm i hi) (nf 0 (by omega)), by omega⟩
  simp [Value.ownBlock] at hj
  have := hF j f
  omega
theorem keep (E : Ew w W d M pb gi gc g N cap) (k : Kept No W W') : Ew w W' d M pb gi gc g N cap := E.keepF k (fun _ f => f.elim)
theorem ck (E : Ew w W d M pb gi gc g N cap) : W.cell? ⟨w.heap.size, 10, none⟩ = some (.int .i64 d.k) := cell_row E.c rfl
theorem cp (E : Ew w W d M pb gi gc g N cap) : W.cell? ⟨w.heap.size, 11, none⟩ = some (.int .i64 d.p) := cell_row E.c rfl
theorem cb (E : Ew w W d M pb gi gc g N cap) : W.cell? ⟨w.heap.size, 12, none⟩ = some (.bool d.busy) := cell_row E.c rfl
theorem v0 (E : Ew w W d M pb gi gc g N cap) : W.cell? ⟨w.heap.size + 1, 0, none⟩ = some (.int .i64 d.va) := cell_row E.v rfl
theorem v1 (E : Ew w W d M pb gi gc g N cap) : W.cell? ⟨w.heap.size + 1, 1, none⟩ = some (.int .i64 d.vp) := cell_row E.v rfl
theorem ld (E : Ew w W d M pb gi gc g N cap) : (Instr.loadAt 36 (.pointer (some ⟨pb, 0, none⟩))).run Tryd.prog W = .ok (.agg (pnL gi gc g N cap d.h d.t).toArray) W := ldPn E.pn rfl
theorem p8 (E : Ew w W d M pb gi gc g N cap) : W.cell? ⟨pb, 8, none⟩ = some (.slice (some ⟨g, 0, none⟩) N cap) := cell_row E.pn rfl
theorem intact (E : Ew w W d M pb gi gc g N cap) (hN : N ≤ 40) : Calls Tryd.prog 7 #[.agg (pnL gi gc g N cap d.h d.t).toArray] W fun e w' => e = .returned (.bool true) ∧ Kept No W w' :=
  intact_any _ w.heap.size gi gc g N cap (pnL_6 ..) (pnL_7 ..) (pnL_8 ..) W E.pm hN
end Ew
theorem ew_new {w w0 w1 : World} {d : Dd} {gi gc g N cap : Nat} (K0 : Kept No w w0) (B0 : w0.heap[w.heap.size]? = some (.cells d.cs 24)) (B1 : w0.heap[w.heap.size + 1]? = some (.cells #[.int .i64 d.va, .int .i64 d.vp] 26)) (S0 : w0.heap.size = w.heap.size + 2) (nm : Nm w0) (k1 : Kept No w0 w1) (pm : Pm w1 w0.heap.size gi gc g N cap) :
    Ew w ((w1.alloc (.cells Z21 36)).setRow w1.heap.size (pnL gi gc g N cap d.h d.t).toArray) d (w1.heap.size + 1) w1.heap.size gi gc g N cap := by
  have kr : Kept (fun j => j = w1.heap.size) w1 ((w1.alloc (.cells Z21 36)).setRow w1.heap.size (pnL gi gc g N cap d.h d.t).toArray) := ((Kept.refl (fun j => j = w1.heap.size) w1).alloc _).setRow (.inl rfl) _
  have s1 := k1.size
  have s2 := K0.size
  have l1 := heap_lt pm.ci
  have l2 := heap_lt pm.cc
  have l3 := (pm.own.lt g rfl).2
  have hz := heap_lt B0
  have sz : ((w1.alloc (.cells Z21 36)).setRow w1.heap.size (pnL gi gc g N cap d.h d.t).toArray).heap.size = w1.heap.size + 1 := by rw [size_setRow, World.size_alloc]
  refine ⟨(K0.trans k1 (fun _ e => .inl e)).trans kr (fun j e => .inr (by omega)), kr.at' (k1.at' B0 (fun e => e)) (by omega), kr.at' (k1.at' B1 (fun e => e)) (by omega), setRow_heap _ _ Z21 _ _ (0, 0) (heap_alloc_new _ _), ⟨kr.at' pm.ci (by omega), kr.at' pm.cc (by omega), mono_base (kr.owns pm.own (fun j hj e => ?_)) (show w.heap.size ≤ w0.heap.size by omega), by have := pm.lo; omega⟩, fun i hi => kr.cell (k1.cell (nm i hi) (fun e => e)) (by show ¬ 0 = _; omega), by omega⟩
  simp [Value.ownBlock] at hj
  omega
theorem vd_set {W : World} {b : Nat} {t : TypeId} {x y : Value} (h : W.heap[b]? = some (.cells #[x, y] t)) (u v : Value) : ((W.setCell ⟨b, 0, none⟩ u).setCell ⟨b, 1, none⟩ v).heap[b]? = some (.cells #[u, v] t) ∧ Kept (fun j => j = b) W ((W.setCell ⟨b, 0, none⟩ u).setCell ⟨b, 1, none⟩ v) :=
  ⟨by simp [World.setCell, Array.getElem?_modify, h], ((Kept.refl (fun j => j = b) W).setCell (p := ⟨b, 0, none⟩) (.inl rfl) _).setCell (p := ⟨b, 1, none⟩) (.inl rfl) _⟩
theorem vd_cells {W : World} {b : Nat} {t : TypeId} {x y : Value} (h : W.heap[b]? = some (.cells #[x, y] t)) : W.cell? ⟨b, 0, none⟩ = some x ∧ W.cell? ⟨b, 1, none⟩ = some y ∧ W.frozen? ⟨b, 0, none⟩ = false ∧ W.frozen? ⟨b, 1, none⟩ = false :=
  ⟨cell_row h rfl, cell_row h rfl, fzc h 0, fzc h 1⟩
section
variable {w : World} {a : Act} {o : Oper}
theorem er_f3 (x : Operand) (ho : o.op = .fieldAddr 24 x 3) (g : Nat) (hx : a.eval x = .pointer (some ⟨g, 0, none⟩)) : (execOp a.eval o).run Tryd.prog w = .ok (.value (.pointer (some ⟨g, 10, none⟩))) w := by simp only [execOp, ho, hx]; simp [go_sem, add_none]
theorem er_f4 (x : Operand) (ho : o.op = .fieldAddr 24 x 4) (g : Nat) (hx : a.eval x = .pointer (some ⟨g, 0, none⟩)) : (execOp a.eval o).run Tryd.prog w = .ok (.value (.pointer (some ⟨g, 11, none⟩))) w := by simp only [execOp, ho, hx]; simp [go_sem, add_none]
theorem er_cv (x : Operand) (t : TypeId) (ho : o.op = .call { callee := .value (.func 12), args := #[x], argTypes := #[t] }) (v : Value) (hx : a.eval x = v) : (execOp a.eval o).run Tryd.prog w = .ok (.enter 12 #[v]) w := by
  subst hx
  simp [execOp, ho, go_sem, Act.eval]
theorem er_cw (x : Operand) (t : TypeId) (ho : o.op = .call { callee := .value (.func 13), args := #[x], argTypes := #[t] }) (v : Value) (hx : a.eval x = v) : (execOp a.eval o).run Tryd.prog w = .ok (.enter 13 #[v]) w := by
  subst hx
  simp [execOp, ho, go_sem, Act.eval]
theorem er_ca (x y z : Operand) (t u s : TypeId) (ho : o.op = .call { callee := .value (.func 14), args := #[x, y, z], argTypes := #[t, u, s] }) (v1 v2 v3 : Value) (h1 : a.eval x = v1) (h2 : a.eval y = v2) (h3 : a.eval z = v3) : (execOp a.eval o).run Tryd.prog w = .ok (.enter 14 #[v1, v2, v3]) w := by
  subst h1 h2 h3
  simp [execOp, ho, go_sem, Act.eval]
theorem er_cb (x y z : Operand) (t u s : TypeId) (ho : o.op = .call { callee := .value (.func 15), args := #[x, y, z], argTypes := #[t, u, s] }) (v1 v2 v3 : Value) (h1 : a.eval x = v1) (h2 : a.eval y = v2) (h3 : a.eval z = v3) : (execOp a.eval o).run Tryd.prog w = .ok (.enter 15 #[v1, v2, v3]) w := by
  subst h1 h2 h3
  simp [execOp, ho, go_sem, Act.eval]
theorem co_i64 : Tryd.prog.cellsOf 2 = 1 := by kernel_rfl
theorem eqA3 (x y z : Int) (w : World) : (Op.equalIn 10000 48 (.agg #[.int .i64 x, .int .i64 y, .int .i64 z]) (.agg #[.int .i64 x, .int .i64 y, .int .i64 z])).run Tryd.prog w = .ok true w := by
  obtain ⟨i, hi⟩ : ∃ i, Tryd.prog.info? 2 = some i := by
    cases h : Tryd.prog.info? 2 with
    | none => exact absurd h (by decide +kernel)
    | some i => exact ⟨i, rfl⟩
  rw [show (10000 : Nat) = 9999 + 1 from rfl, run_equalIn_array w 9999 _ _ Tryd.underlying48 hi]
  simp [Op.eqItems, List.range, List.range.loop, co_i64, go_sem]
theorem er_eq3 (p q : Operand) (ho : o.op = .binOp .eql 48 p q 48) (x y z : Int) (hx : a.eval p = .agg #[.int .i64 x, .int .i64 y, .int .i64 z]) (hy : a.eval q = .agg #[.int .i64 x, .int .i64 y, .int .i64 z]) : (execOp a.eval o).run Tryd.prog w = .ok (.value (.bool true)) w := by
  have hm : Tryd.prog.eqGuardType Tryd.prog.depth 48 = false := by kernel_rfl
  simp only [execOp, ho, hx, hy]
  simp [run_eqGuard_agg w _ _ _ _ _ _ hm, eqA3, go_sem]
end
section
theorem wp_region_kept {id : Nat} {Q : Exit → Act → World → Prop} {a : Act} {w : World} {l : List Oper} (w0 : World) (hm : Tryd.prog.follows .mixedOrders = true) (hB : Region.lexB .any l.toArray = true) (hw : Kept No w0 w)
    (h : wpQuiet Tryd.prog l.toArray (fun w' => Kept No w0 w') (fun a' => ∀ w', Kept No w0 w' → Q .normal a' w') l a) : (Code.region id l.toArray true).wp Tryd.prog Q a w :=
  wp_region_quiet (C := fun w' => Kept No w0 w') hm hB (hw.drewN 1) (by simpa using h)
variable {C : World → Prop} {a : Act} {o : Oper} {K : Act → Prop}
theorem quiet_val' {v : Value} (h : ∀ w, C w → (execOp a.eval o).run Tryd.prog w = .ok (.value v) w) (hk : K (a.put o.dst v)) : o.quiet Tryd.prog a C K :=
  ⟨v, fun w hw => by unfold Oper.quietAt; rw [h w hw]; exact ⟨rfl, rfl⟩, hk⟩
theorem quiet_call' {f : FuncId} {args : Array Value} {v : Value} (hrun : ∀ w, (execOp a.eval o).run Tryd.prog w = .ok (.enter f args) w) (hc : ∀ w, C w → Calls Tryd.prog f args w fun e w'' => e = .returned v ∧ C w'') (hk : K (a.put o.dst v)) : o.quiet Tryd.prog a C K :=
  ⟨v, fun w hw => by unfold Oper.quietAt; rw [hrun w]; exact ⟨rfl, hc w hw⟩, hk⟩
end
end Go.Proofs.YtledndpcceejpaaDoor
