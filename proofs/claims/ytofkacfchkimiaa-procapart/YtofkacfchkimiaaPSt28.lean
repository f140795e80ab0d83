/-
  States that are told: one read out of the list, laid into a variable; registers compared.
-/
import Derived.Test.YtofkacfchkimiaaPStates
import Derived.Test.YtofkacfchkimiaaPSet
import Derived.ChangeKeysEq
import Derived.DeepKeys
import Derived.Deep.MidRow
namespace Go.Proofs.Ytofkacfchkimiaa
open Go.RowKit
set_option linter.unusedVariables false
set_option linter.unusedSimpArgs false
set_option maxRecDepth 100000

theorem hid {p : Prop} (h : p) : Hid p := h
theorem cell_row {w : World} {g : Nat} {cs : Array Value} {t : TypeId} {fr : Nat × Nat} {v : Value} (h : w.heap[g]? = some (.cells cs t fr)) {k : Nat} (hv : cs[k]? = some v) : w.cell? ⟨g, k, none⟩ = some v := by
  simp [World.cell?, h, hv]
theorem Kept.range {F : Nat → Prop} {w w' : World} (k : Kept F w w') {b o : Nat} {cs : List Value} (h : w.rangeAt b o cs) (hF : ¬ F b) : w'.rangeAt b o cs := fun j v hv => k.cell (h j v hv) hF
theorem StL.row {w W : World} {T : Tt} {n : Nat} {va : Option Addr} {vc : Nat} {ds : Nat → Value} (h : StL w W T n (.slice va n vc) ds) {k : Nat} (hk : k < n) : ∃ g, va = some ⟨g, 0, none⟩ ∧ w.heap.size ≤ g ∧ W.rangeAt g (k * 28) ((T.ps k).val (ds k)).toList := by
  have ho := h.1
  rcases ho.2 with ⟨e, e0⟩ | ⟨g, cap, cur, hv, hb, hg, r⟩
  · omega
  · injection hv with e1 e2 e3
    subst e1 e3
    refine ⟨g, rfl, hb, fun j u hu => ?_⟩
    have hj : j < 28 := by have := (List.getElem?_eq_some_iff.1 hu).1; exact this
    have := ho.cells (g := g) rfl (k * 28 + j) u ((sL_at T ds n k j hk hj).trans (by simpa using hu))
    rw [add_none, Nat.zero_add] at this
    exact this
theorem StL.cap {w W : World} {T : Tt} {n : Nat} {va : Option Addr} {vc : Nat} {ds : Nat → Value} (h : StL w W T n (.slice va n vc) ds) : n ≤ vc ∧ vc ≤ maxLen := by
  rcases h.1.2 with ⟨e, e0⟩ | ⟨g, cap, cur, hv, hb, hg, h1, h2, _⟩
  · injection e with _ e2 e3; subst e3; exact ⟨by omega, Nat.zero_le _⟩
  · injection hv with _ _ e3; subst e3; exact ⟨h1, h2⟩
theorem ldSt {w : World} {b o : Nat} {A : Array Value} (h : w.rangeAt b o A.toList) (hl : A.size = 28) : (Instr.loadAt 48 (.pointer (some ⟨b, o, none⟩))).run Try.prog w = .ok (.agg A) w := by
  have := run_loadAt_mid (P := Try.prog) w b o _ A.toList _ h Try.underlying48 rfl (by rw [Array.length_toList, hl]; exact Try.info48)
  simpa using this
theorem er_ld {w : World} {a : Act} {o : Oper} (t : TypeId) (x : Operand) (ho : o.op = .load t x) (pv v : Value) (hx : a.eval x = pv) (hr : (Instr.loadAt t pv).run Try.prog w = .ok v w) : (execOp a.eval o).run Try.prog w = .ok (.value v) w := by
  simp only [execOp, ho, hx, Sem.run_bind, hr]; rfl
theorem er_alS {w : World} {a : Act} {o : Oper} (ho : o.op = .alloc 48) : (execOp a.eval o).run Try.prog w = .ok (.value (.pointer (some ⟨w.heap.size, 0, none⟩))) (w.alloc (.cells Z28 48)) := by
  simp only [execOp, ho]
  simp [go_sem]
  rfl
theorem list_make {P : Program} {ops : Array Oper} {Q : Exit → Act → World → Prop} {rest : List Oper} {o : Oper} {a : Act} {w : World} (hg : o.guard = none) (k : Nat) {v : Value} {w' : World} (hd : o.dst = some k) (hr : (execOp a.eval o).run P w = .ok (.value v) w') (h : wpList P ops Q rest (a.put (some k) v) w') : wpList P ops Q (o :: rest) a w :=
  wg_val (by simp [Region.wanted, hg]) hr (by rw [hd]; exact h)
/-- a state laid into a variable -/
def put28 (w : World) (A : Array Value) : World := (w.alloc (.cells Z28 48)).setRow w.heap.size A
theorem put28_at (w : World) (A : Array Value) : (put28 w A).heap[w.heap.size]? = some (.cells A 48) := setRow_heap _ _ Z28 _ _ (0, 0) (alloc_new _ _)
theorem put28_kept (w : World) (A : Array Value) : Kept No w (put28 w A) := ((Kept.refl No w).alloc _).setRow (.inr (Nat.le_refl _)) _
theorem co_i64 : Try.prog.cellsOf 2 = 1 := by kernel_rfl
theorem eq16 (f : Nat → Int) (w : World) : (Op.equalIn 10000 46 (.agg (rg16 f)) (.agg (rg16 f))).run Try.prog w = .ok true w := by
  obtain ⟨i, hi⟩ : ∃ i, Try.prog.info? 2 = some i := by
    cases h : Try.prog.info? 2 with
    | none => exact absurd h (by decide +kernel)
    | some i => exact ⟨i, rfl⟩
  rw [show (10000 : Nat) = 9999 + 1 from rfl, run_equalIn_array w 9999 _ _ Try.underlying46 hi]
  simp [Op.eqItems, List.range, List.range.loop, co_i64, go_sem, rg16]
theorem ld16 {w : World} {b : Nat} {p : Pr} {v : Value} (h : w.heap[b]? = some (.cells (p.val v) 48)) : (Instr.loadAt 46 (.pointer (some ⟨b, 3, none⟩))).run Try.prog w = .ok (.agg (rg16 p.rg)) w :=
  run_loadAt_mid (P := Try.prog) w b 3 _ (rg16 p.rg).toList _ (fun j u hu => by
    match j, hu with
    | 0, hu => cases hu; exact cell_row h rfl
    | 1, hu => cases hu; exact cell_row h rfl
    | 2, hu => cases hu; exact cell_row h rfl
    | 3, hu => cases hu; exact cell_row h rfl
    | 4, hu => cases hu; exact cell_row h rfl
    | 5, hu => cases hu; exact cell_row h rfl
    | 6, hu => cases hu; exact cell_row h rfl
    | 7, hu => cases hu; exact cell_row h rfl
    | 8, hu => cases hu; exact cell_row h rfl
    | 9, hu => cases hu; exact cell_row h rfl
    | 10, hu => cases hu; exact cell_row h rfl
    | 11, hu => cases hu; exact cell_row h rfl
    | 12, hu => cases hu; exact cell_row h rfl
    | 13, hu => cases hu; exact cell_row h rfl
    | 14, hu => cases hu; exact cell_row h rfl
    | 15, hu => cases hu; exact cell_row h rfl
    | j + 16, hu => simp [rg16] at hu) Try.underlying46 rfl (by kernel_rfl)
end Go.Proofs.Ytofkacfchkimiaa
