/-
  The document's effects: jumped, one way.
-/
import Derived.Test.YtijeaonldhccmaaDoorRefJ
namespace Go.Proofs.YtijeaonldhccmaaDoor
open Go.RowKit
set_option linter.unusedVariables false

set_option maxHeartbeats 1000000 in
set_option maxRecDepth 100000 in
theorem refJ23n (p : Option Addr) (n cc : Nat) (hn : n ≤ 9223372036854775807) (a b c : Nat) (ha : a < 16) (N : Int) (hN : -2147483648 ≤ N ∧ N ≤ 2147483647) (R : Nat → Int) (hz : (R a == 0) = false) (hz2 : (R a != 0) = true) (pc : Nat) (hpc : (pc : Int) < 9223372036854775807) (w : World) :
    Calls Tryd.prog 81 #[.slice p n cc, insV 23 a b c N, regV R, .int .i64 pc] w fun ex w' => ex = .returned (effV R ((pc : Int) + 1) false 0 0 0 0) ∧ Below w.heap.size w w' := by
  have T0 := trb_new w ⟨23, a, b, c, N⟩ R
  have hpw : wrap64 ((pc : Int) + 1) = (pc : Int) + 1 := by unfold wrap64; omega
  have hNi : IntKind.i64.wrap N = N := by rw [w64i, w6_id]; unfold I6; omega
  have hNi2 : wrap64 N = N := by rw [w6_id]; unfold I6; omega
  unfold insV
  go_enter Tryd.func81, Tryd.ntmps81
  go_upto_region 1 with (first
    | (refine wl_box25 _ rfl rfl R rfl ?_)
    | (refine wl_alloc27 rfl rfl ?_))
  have T0 : Trb w (((w.alloc (.cells #[.int .u8 23, .int .u8 a, .int .u8 b, .int .u8 c, .int .i32 N] 30)).alloc (.cells (regC R) 25)).alloc (.cells (effC zeroR 0 false 0 0 0 0) 27)) ⟨23, a, b, c, N⟩ R := T0
  generalize (((w.alloc (.cells #[.int .u8 23, .int .u8 a, .int .u8 b, .int .u8 c, .int .i32 N] 30)).alloc (.cells (regC R) 25)).alloc (.cells (effC zeroR 0 false 0 0 0 0) 27)) = w1 at T0 ⊢
  simp only [World.size_alloc]
  obtain ⟨x0, x1, x2, x3, x4⟩ := cellsX T0.ins
  dsimp only at x0 x1 x2 x3 x4
  have ra := T0.regAt ha
  have T3 := T0.grow ((Below.refl w1.heap.size w1).alloc (Nat.le_refl _) (.cells (effC R ((pc : Int) + 1) false 0 0 0 0) 27))
  have E3 := heap_alloc_last w1 (.cells (effC R ((pc : Int) + 1) false 0 0 0 0) 27)
  have hq := T0.lt
  go_upto_region 3 with (first
    | (refine wl_load25 _ rfl rfl R (w.heap.size + 1) rfl T0.reg ?_)
    | (refine wl_build27b _ _ rfl rfl R ((pc : Int) + 1) rfl rfl ?_)
    | (refine wl_alloc27 rfl rfl ?_)
    | (refine wl_store27 _ _ rfl rfl R ((pc : Int) + 1) false 0 0 0 0 _ _ rfl rfl (heap_alloc_last _ _) rfl ?_; rw [new_store]))
  clear x0 x1 x2 x3 x4 ra T0
  generalize w1.alloc (.cells (effC R ((pc : Int) + 1) false 0 0 0 0) 27) = w3 at T3 E3 ⊢
  generalize w1.heap.size = q at E3 hq ⊢
  obtain ⟨x0, x1, x2, x3, x4⟩ := cellsX T3.ins
  dsimp only at x1 x2 x3 x4
  have x0 : w3.cell? ⟨w.heap.size, 0, none⟩ = some (.int .u8 23) := x0
  have e16 := (c21 E3).1
  have z16 := (c21 E3).2.2.2.2.2.2 16
  go_upto_region 7 with fail
  go_wp2_with (first
    | (refine wl_load27 _ rfl rfl R ((pc : Int) + 1) false 0 0 0 0 q rfl E3 ?_)
    | (refine wl_store27 _ _ rfl rfl R ((pc : Int) + 1) false 0 0 0 0 (w.heap.size + 1 + 1) _ rfl rfl T3.res rfl ?_))
  refine bodyPost_ret (results_cell_row rfl _ _ (w.heap.size + 1 + 1) 27 _ _ _ rfl (setRow_heap _ _ _ _ _ _ T3.res) Tryd.underlying27 rfl (by rw [effC_size]; exact info27)) rfl ?_
  exact ⟨rfl, T3.outBel _⟩

end Go.Proofs.YtijeaonldhccmaaDoor
