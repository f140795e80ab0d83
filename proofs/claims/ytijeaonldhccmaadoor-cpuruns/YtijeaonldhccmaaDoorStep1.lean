/-
  Step: what the walks share.
-/
import Derived.Test.YtijeaonldhccmaaDoorStep0
import Derived.Test.YtijeaonldhccmaaDoorTab2
import Derived.Deep.RegionHeld
namespace Go.Proofs.YtijeaonldhccmaaDoor
open Go.RowKit
set_option linter.unusedVariables false

/-- the instruction where it lies -/
def Here (w : World) (p : Option Addr) (pc : Nat) (o a b c N : Int) : Prop :=
  ∃ cb co, p = some ⟨cb, co, none⟩ ∧ w.cell? ⟨cb, co + pc * 5, none⟩ = some (.int .u8 o) ∧ w.cell? ⟨cb, co + pc * 5 + 1, none⟩ = some (.int .u8 a) ∧ w.cell? ⟨cb, co + pc * 5 + 2, none⟩ = some (.int .u8 b) ∧ w.cell? ⟨cb, co + pc * 5 + 3, none⟩ = some (.int .u8 c) ∧ w.cell? ⟨cb, co + pc * 5 + 4, none⟩ = some (.int .i32 N)
theorem cellsX {w : World} {q : Nat} {o a b c n : Value} (h : w.heap[q]? = some (.cells #[o, a, b, c, n] 30)) : w.cell? ⟨q, 0, none⟩ = some o ∧ w.cell? ⟨q, 1, none⟩ = some a ∧ w.cell? ⟨q, 2, none⟩ = some b ∧ w.cell? ⟨q, 3, none⟩ = some c ∧ w.cell? ⟨q, 4, none⟩ = some n := ⟨cell_of_row _ _ _ _ _ _ h, cell_of_row _ _ _ _ _ _ h, cell_of_row _ _ _ _ _ _ h, cell_of_row _ _ _ _ _ _ h, cell_of_row _ _ _ _ _ _ h⟩
theorem cellsT {w : World} {q : Nat} {a b c d e f g : Value} (h : w.heap[q]? = some (.cells #[a, b, c, d, e, f, g] 55)) : w.cell? ⟨q, 0, none⟩ = some a ∧ w.cell? ⟨q, 1, none⟩ = some b ∧ w.cell? ⟨q, 2, none⟩ = some c ∧ w.cell? ⟨q, 3, none⟩ = some d ∧ w.cell? ⟨q, 4, none⟩ = some e ∧ w.cell? ⟨q, 5, none⟩ = some f ∧ w.cell? ⟨q, 6, none⟩ = some g := ⟨cell_of_row _ _ _ _ _ _ h, cell_of_row _ _ _ _ _ _ h, cell_of_row _ _ _ _ _ _ h, cell_of_row _ _ _ _ _ _ h, cell_of_row _ _ _ _ _ _ h, cell_of_row _ _ _ _ _ _ h, cell_of_row _ _ _ _ _ _ h⟩
theorem cellsO {w : World} {q : Nat} {a b c d : Value} (h : w.heap[q]? = some (.cells #[a, b, c, d] 60)) : w.cell? ⟨q, 0, none⟩ = some a ∧ w.cell? ⟨q, 1, none⟩ = some b ∧ w.cell? ⟨q, 2, none⟩ = some c ∧ w.cell? ⟨q, 3, none⟩ = some d := ⟨cell_of_row _ _ _ _ _ _ h, cell_of_row _ _ _ _ _ _ h, cell_of_row _ _ _ _ _ _ h, cell_of_row _ _ _ _ _ _ h⟩
theorem run_index61 (o : Nat) (ho : o < 28) (cs : Array Value) (hrow : tabC.extract (o * 4) (o * 4 + 4) = cs) (w : World) : (Instr.index 61 (.agg tabC) (.int .u8 (o : Int))).run Tryd.prog w = .ok (.agg cs) w := by
  simp [Instr.index, asIntOf, part, hrow]
  omega
theorem nn56 (w : World) : (binOp .neq 56 .nilFunc .nilFunc).run Tryd.prog w = .ok (.bool false) w := by kernel_rfl
theorem nn57 (w : World) : (binOp .neq 57 .nilFunc .nilFunc).run Tryd.prog w = .ok (.bool false) w := by kernel_rfl
theorem nn58 (w : World) : (binOp .neq 58 .nilFunc .nilFunc).run Tryd.prog w = .ok (.bool false) w := by kernel_rfl
theorem nf56 (k : Nat) (w : World) : (binOp .neq 56 (fnV k) .nilFunc).run Tryd.prog w = .ok (.bool true) w := by kernel_rfl
theorem nf57 (k : Nat) (w : World) : (binOp .neq 57 (fnV k) .nilFunc).run Tryd.prog w = .ok (.bool true) w := by kernel_rfl
theorem nf58 (k : Nat) (w : World) : (binOp .neq 58 (fnV k) .nilFunc).run Tryd.prog w = .ok (.bool true) w := by kernel_rfl
theorem new_lt (w : World) (o : Obj) : w.heap.size < (w.alloc o).drew.heap.size := by simp
theorem o_facts {W w6 : World} {B g : Nat} {x y z t : Value} (b : Below B W w6) (hg : g < B) (h : W.heap[g]? = some (.cells #[x, y, z, t] 60)) :
    w6.cell? ⟨g, 0, none⟩ = some x ∧ w6.cell? ⟨g, 1, none⟩ = some y ∧ w6.cell? ⟨g, 2, none⟩ = some z ∧ w6.cell? ⟨g, 3, none⟩ = some t ∧ (∀ i, w6.frozen? ⟨g, i, none⟩ = false) ∧ w6.heap[g]? = some (.cells #[x, y, z, t] 60) := by
  have h6 := (b.block g hg).trans h
  obtain ⟨h0, h1, h2, h3⟩ := cellsO h6
  exact ⟨h0, h1, h2, h3, fun i => by simp [World.frozen?, h6], h6⟩
theorem Fr.lt2 {w0 w : World} {R0 R : Nat → Int} {pc : Int} {st : Bool} {ad va fa ca : Int} (h : Fr w0 w R0 R pc st ad va fa ca) : w0.heap.size + 1 + 1 < w.heap.size := (Array.getElem?_eq_some_iff.1 h.eff).1

section
variable {w w5 w6 : World} {R : Nat → Int} {pc : Int} {q q2 : Nat} {ox ot : Obj}
theorem cut_rel1 (r : Array Value) (F : Fr w w5 R R pc false 0 0 0 0) (X : w5.heap[q]? = some ox) (T : w5.heap[q2]? = some ot) (b6 : Below w5.drew.heap.size w5.drew w6) :
    ∃ q3, Value.pointer (some ⟨w6.heap.size, 0, none⟩) = Value.pointer (some ⟨q3, 0, none⟩) ∧ w.heap.size + 1 + 1 < q3 ∧ Fr w (w6.alloc (.cells r 60)) R R pc false 0 0 0 0 ∧ (w6.alloc (.cells r 60)).heap[q]? = some ox ∧ (w6.alloc (.cells r 60)).heap[q2]? = some ot ∧ (w6.alloc (.cells r 60)).heap[q3]? = some (.cells r 60) := by
  have b7 : Below w5.heap.size w5 w6 := (Below.refl w5.heap.size w5).drew.trans b6
  have b8 : Below w5.heap.size w5 (w6.alloc (.cells r 60)) := b7.alloc b7.size _
  exact ⟨_, rfl, Nat.lt_of_lt_of_le F.lt2 b7.size, F.grow b8 F.lt2, (b8.block q (heap_lt X)).trans X, (b8.block q2 (heap_lt T)).trans T, heap_alloc_last _ _⟩
theorem cut_rel2 {x y z t x' y' z' t' : Value} (F : Fr w w5 R R pc false 0 0 0 0) (X : w5.heap[q]? = some ox) (T : w5.heap[q2]? = some ot) (b6 : Below (w5.alloc (.cells #[x, y, z, t] 60)).drew.heap.size (w5.alloc (.cells #[x, y, z, t] 60)).drew w6) (h6 : w6.heap[w5.heap.size]? = some (.cells #[x, y, z, t] 60)) :
    ∃ q3, Value.pointer (some ⟨w5.heap.size, 0, none⟩) = Value.pointer (some ⟨q3, 0, none⟩) ∧ w.heap.size + 1 + 1 < q3 ∧ Fr w ((((w6.setCell ⟨w5.heap.size, 0, none⟩ x').setCell ⟨w5.heap.size, 1, none⟩ y').setCell ⟨w5.heap.size, 2, none⟩ z').setCell ⟨w5.heap.size, 3, none⟩ t') R R pc false 0 0 0 0 ∧ ((((w6.setCell ⟨w5.heap.size, 0, none⟩ x').setCell ⟨w5.heap.size, 1, none⟩ y').setCell ⟨w5.heap.size, 2, none⟩ z').setCell ⟨w5.heap.size, 3, none⟩ t').heap[q]? = some ox ∧ ((((w6.setCell ⟨w5.heap.size, 0, none⟩ x').setCell ⟨w5.heap.size, 1, none⟩ y').setCell ⟨w5.heap.size, 2, none⟩ z').setCell ⟨w5.heap.size, 3, none⟩ t').heap[q2]? = some ot ∧ ((((w6.setCell ⟨w5.heap.size, 0, none⟩ x').setCell ⟨w5.heap.size, 1, none⟩ y').setCell ⟨w5.heap.size, 2, none⟩ z').setCell ⟨w5.heap.size, 3, none⟩ t').heap[q3]? = some (.cells #[x', y', z', t'] 60) := by
  have b7 : Below w5.heap.size w5 w6 := (((Below.refl w5.heap.size w5).alloc (Nat.le_refl _) _).drew).trans (b6.mono (by simp))
  have b8 : Below w5.heap.size w5 ((((w6.setCell ⟨w5.heap.size, 0, none⟩ x').setCell ⟨w5.heap.size, 1, none⟩ y').setCell ⟨w5.heap.size, 2, none⟩ z').setCell ⟨w5.heap.size, 3, none⟩ t') :=
    (((b7.setCell (p := ⟨w5.heap.size, 0, none⟩) (Nat.le_refl _) _).setCell (p := ⟨w5.heap.size, 1, none⟩) (Nat.le_refl _) _).setCell (p := ⟨w5.heap.size, 2, none⟩) (Nat.le_refl _) _).setCell (p := ⟨w5.heap.size, 3, none⟩) (Nat.le_refl _) _
  exact ⟨_, rfl, F.lt2, F.grow b8 F.lt2, (b8.block q (heap_lt X)).trans X, (b8.block q2 (heap_lt T)).trans T, heap_setCell_eq (heap_setCell_eq (heap_setCell_eq (heap_setCell_eq h6 _) _) _) _⟩
end

end Go.Proofs.YtijeaonldhccmaaDoor
