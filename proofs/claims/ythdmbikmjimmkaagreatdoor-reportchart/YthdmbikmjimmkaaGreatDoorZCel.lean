/-
  A made row of numbers that may be written.
-/
import Derived.Test.YthdmbikmjimmkaaGreatDoorCHyp2
import Derived.RangeFuncRecord
namespace Go.Proofs.YthdmbikmjimmkaaGreatDoor
open Go.RowKit Plain
set_option linter.unusedVariables false
set_option linter.unusedSimpArgs false
set_option maxRecDepth 100000

/-- block g holds m numbers, none of them frozen -/
structure Cw (w : World) (g m : Nat) (f : Nat → Int) : Prop where
  at' : ∀ i, i < m → w.cell? ⟨g, i, none⟩ = some (.int .i64 (f i))
  fz : ∀ i, w.frozen? ⟨g, i, none⟩ = false
  blk : g < w.heap.size
theorem Cw.kept {w w' : World} {G : Nat → Prop} {g m : Nat} {f : Nat → Int} (h : Cw w g m f) (k : Kept G w w') (hg : ¬ G g) : Cw w' g m f :=
  ⟨fun i hi => k.cell (h.at' i hi) hg, fun i => by
    have := h.fz i
    simp only [World.frozen?, k.block g h.blk hg] at this ⊢
    exact this, Nat.lt_of_lt_of_le h.blk k.size⟩
theorem Cw.keep {w w' : World} {g m : Nat} {f : Nat → Int} (h : Cw w g m f) (k : Kept No w w') : Cw w' g m f := h.kept k (fun h => h)
def upI (f : Nat → Int) (k : Nat) (v : Int) : Nat → Int := fun i => if i = k then v else f i
theorem upI_same (f : Nat → Int) (k : Nat) (v : Int) : upI f k v k = v := if_pos rfl
theorem upI_oth (f : Nat → Int) {k i : Nat} (v : Int) (h : i ≠ k) : upI f k v i = f i := if_neg h
theorem cell_setc {w : World} {g i j : Nat} {v u : Value} (h : w.cell? ⟨g, i, none⟩ = some u) : (w.setCell ⟨g, j, none⟩ v).cell? ⟨g, i, none⟩ = some (if i = j then v else u) := by
  by_cases e : i = j
  · subst e
    rw [if_pos rfl]
    exact World.cell?_setCell_same' _ _ _ (by rw [h]; rfl)
  · rw [if_neg e]
    have hne : (⟨g, j, none⟩ : Addr) ≠ ⟨g, i, none⟩ := fun h' => e (by injection h' with _ h1 _; exact h1.symm)
    rw [World.cell?_setCell_other _ _ _ _ hne]
    exact h
theorem frozen_setc {w : World} {g : Nat} {p : Addr} {v : Value} (h : ∀ i, w.frozen? ⟨g, i, none⟩ = false) : ∀ i, (w.setCell p v).frozen? ⟨g, i, none⟩ = false := fun i => by
  rw [World.frozen?_setCell]; exact h i
theorem Cw.set {w : World} {g m : Nat} {f : Nat → Int} (h : Cw w g m f) (k : Nat) (v : Int) : Cw (w.setCell ⟨g, k, none⟩ (.int .i64 v)) g m (upI f k v) :=
  ⟨fun i hi => by
    rw [cell_setc (h.at' i hi)]
    by_cases e : i = k
    · rw [if_pos e, upI, if_pos e]
    · rw [if_neg e, upI, if_neg e], frozen_setc h.fz, by have := h.blk; simpa using this⟩
theorem Cw.congr' {w : World} {g m : Nat} {f f' : Nat → Int} (h : Cw w g m f) (e : ∀ j, j < m → f j = f' j) : Cw w g m f' := ⟨fun i hi => by rw [← e i hi]; exact h.at' i hi, h.fz, h.blk⟩
theorem kept_set {w : World} {g k : Nat} {v : Value} : Kept (fun b => b = g) w (w.setCell ⟨g, k, none⟩ v) := Kept.setCell (Kept.refl (fun b => b = g) w) (p := ⟨g, k, none⟩) (Or.inl rfl) _
theorem make_row (w : World) (n : Nat) (hn : n ≤ 1000) : ∃ w1, (Instr.makeSlice 43 (.int .i64 n) (.int .i64 n)).run Tryz.prog w = .ok (.slice (some ⟨w.heap.size, 0, none⟩) n n) w1 ∧ Cw w1 w.heap.size n (fun _ => 0) ∧ Kept No w w1 ∧ w1.heap.size = w.heap.size + 1 := by
  obtain ⟨i0, hi, hz0, hz1, hz2⟩ := info_parts Tryz.infoI
  have hr := run_make (P := Tryz.prog) w 43 3 i0 _ Tryz.underlying43 hi hz0 .i64 .i64 n n (by omega) (Int.le_refl _) (by rw [hz2]; omega) (by omega)
  simp only [Int.toNat_natCast] at hr
  rw [hz1, Nat.mul_one] at hr
  refine ⟨_, hr, ⟨fun i hi => ?_, fun i => ?_, by simp⟩, (Kept.refl No w).alloc _, by simp⟩
  · have hb := World.alloc_heap_new w (.cells (madeCells (Value.int .i64 0).cells n) 3)
    have e : (madeCells (Value.int .i64 0).cells n)[i]? = some (.int .i64 0) := by
      rw [show (Value.int .i64 0).cells = #[Value.int .i64 0] from rfl, ← Array.getElem?_toList, toList_madeCells_one, List.getElem?_replicate, if_pos hi]
    simp only [World.cell?]
    rw [hb]
    simpa using e
  · have hb := World.alloc_heap_new w (.cells (madeCells (Value.int .i64 0).cells n) 3)
    simp only [World.frozen?]
    rw [hb]
    rfl
end Go.Proofs.YthdmbikmjimmkaaGreatDoor
