/-
  Supply: how many ticks of a span a partition occupies.
-/
import Derived.Test.YtahhkkkgaoekcaaGreatDoorOTakAll
import Derived.Test.YtahhkkkgaoekcaaGreatDoorOAt
namespace Go.Proofs.YtahhkkkgaoekcaaGreatDoor
open Go.RowKit Go.Shelf Plain
set_option linter.unusedVariables false
set_option maxRecDepth 100000

theorem Tryz.infoSpn : (Tryz.prog.info? 46).map (fun i => (i.zero, i.size, i.bytes)) = some (some (.agg #[.int .i64 0, .int .i64 0]), 2, 16) := by kernel_rfl
/-- a made row of spans, that may be written -/
structure Sw (w : World) (g n : Nat) (sf sb : Nat → Nat) : Prop where
  sp : Sp w g n sf sb
  fz : ∀ i, w.frozen? ⟨g, i, none⟩ = false
theorem Sw.keep {w w' : World} {g n : Nat} {sf sb : Nat → Nat} (h : Sw w g n sf sb) (hk : Kept No w w') : Sw w' g n sf sb :=
  ⟨h.sp.keep hk, fun i => by
    have e := hk.block g h.sp.lt (fun h => h)
    have := h.fz i
    simp only [World.frozen?] at this ⊢
    rw [e]; exact this⟩
theorem Sw.set {w : World} {g n : Nat} {sf sb : Nat → Nat} (h : Sw w g n sf sb) (k u v : Nat) : Sw ((w.setCell ⟨g, k * 2, none⟩ (.int .i64 u)).setCell ⟨g, k * 2 + 1, none⟩ (.int .i64 v)) g n (Rule.up sf k u) (Rule.up sb k v) := by
  refine ⟨⟨fun i hi => ?_, by simpa [World.setCell] using h.sp.lt⟩, fun i => by rw [World.frozen?_setCell, World.frozen?_setCell]; exact h.fz i⟩
  obtain ⟨c0, c1⟩ := h.sp.at' i hi
  constructor
  · rw [cell_set (cell_set c0), if_neg (by omega)]
    by_cases e : i = k
    · subst e; rw [if_pos rfl, Rule.up_same]
    · rw [if_neg (by omega), Rule.up_other _ _ e]
  · rw [cell_set (cell_set c1)]
    by_cases e : i = k
    · subst e; rw [if_pos rfl, Rule.up_same]
    · rw [if_neg (by omega), if_neg (by omega), Rule.up_other _ _ e]
theorem make_spans (w : World) (n : Nat) (hn : n ≤ 32) : ∃ w1, (Instr.makeSlice 53 (.int .i64 n) (.int .i64 n)).run Tryz.prog w = .ok (.slice (some ⟨w.heap.size, 0, none⟩) n n) w1 ∧ Sw w1 w.heap.size n (fun _ => 0) (fun _ => 0) ∧ Kept No w w1 ∧ w1.heap.size = w.heap.size + 1 := by
  obtain ⟨i0, hi, hz0, hz1, hz2⟩ := info_parts Tryz.infoSpn
  have hr := run_make (P := Tryz.prog) w 53 46 i0 _ Tryz.underlying53 hi hz0 .i64 .i64 n n (by omega) (Int.le_refl _) (by rw [hz2]; omega) (by omega)
  simp only [Int.toNat_natCast] at hr
  rw [hz1] at hr
  have hb := World.alloc_heap_new w (.cells (madeCells (Value.agg #[.int .i64 0, .int .i64 0]).cells (n * 2)) 46)
  have e : ∀ i, i < n * 2 → (madeCells (Value.agg #[.int .i64 0, .int .i64 0]).cells (n * 2))[i]? = some (.int .i64 0) := fun i hi => by
    unfold madeCells
    rw [Array.getElem?_map, Array.getElem?_range, if_pos hi]
    have : i % 2 = 0 ∨ i % 2 = 1 := by omega
    show some (#[Value.int .i64 0, Value.int .i64 0][i % 2]!) = _
    rcases this with h | h <;> rw [h] <;> rfl
  have cell : ∀ i, i < n * 2 → (w.alloc (.cells (madeCells (Value.agg #[.int .i64 0, .int .i64 0]).cells (n * 2)) 46)).cell? ⟨w.heap.size, i, none⟩ = some (.int .i64 0) := fun i hi => by
    simp only [World.cell?]
    rw [hb]
    simpa using e i hi
  refine ⟨_, hr, ⟨⟨fun i hi => ⟨cell _ (by omega), cell _ (by omega)⟩, by simp⟩, fun i => ?_⟩, (Kept.refl No w).alloc _, by simp⟩
  simp only [World.frozen?]
  rw [hb]
  rfl

end Go.Proofs.YtahhkkkgaoekcaaGreatDoor
