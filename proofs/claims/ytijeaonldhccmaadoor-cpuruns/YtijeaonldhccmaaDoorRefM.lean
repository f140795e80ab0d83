/-
  The document's effects: memory.
-/
import Derived.Test.YtijeaonldhccmaaDoorRefD
import Derived.Test.YtijeaonldhccmaaDoorHeld2
import Derived.BigQuiet
import Derived.Deep.QuietTactic
namespace Go.Proofs.YtijeaonldhccmaaDoor
open Go.RowKit
set_option linter.unusedVariables false

theorem Trb.drewN {w0 w : World} {x : Ins} {R : Nat → Int} (h : Trb w0 w x R) (k : Nat) : Trb w0 (w.drewN k) x R := ⟨below_drewN h.bel k, h.ins, h.reg, h.res⟩

set_option maxHeartbeats 2000000 in
set_option maxRecDepth 100000 in
theorem refM5lo (m : Option Addr) (mn mc : Nat) (hmn : mn ≤ 9223372036854775807) (fx : Int) (a b c : Nat) (ha : a < 16) (hb : b < 16) (N : Int) (hN : -2147483648 ≤ N ∧ N ≤ 2147483647) (R : Nat → Int) (h1 : wrap64 (R b + N) < 0) (pc : Nat) (hpc : (pc : Int) < 9223372036854775807) (w : World) :
    Calls Tryd.prog 78 #[insV 5 a b c N, .slice m mn mc, .int .i64 fx, regV R, .int .i64 pc] w fun ex w' => ex = .returned (effV R ((pc : Int) + 1) false 0 0 2 0) ∧ Below w.heap.size w w' := by
  have T0 := trb_new w ⟨5, a, b, c, N⟩ R
  have hpw : wrap64 ((pc : Int) + 1) = (pc : Int) + 1 := by unfold wrap64; omega
  have hNi : IntKind.i64.wrap N = N := by rw [w64i, w6_id]; unfold I6; omega
  have hNi2 : wrap64 N = N := by rw [w6_id]; unfold I6; omega
  unfold insV
  go_enter Tryd.func78, Tryd.ntmps78
  go_upto_region 1 with (first
    | (refine wl_box25 _ rfl rfl R rfl ?_)
    | (refine wl_alloc27 rfl rfl ?_))
  have T0 : Trb w (((w.alloc (.cells #[.int .u8 5, .int .u8 a, .int .u8 b, .int .u8 c, .int .i32 N] 30)).alloc (.cells (regC R) 25)).alloc (.cells (effC zeroR 0 false 0 0 0 0) 27)) ⟨5, a, b, c, N⟩ R := T0
  generalize (((w.alloc (.cells #[.int .u8 5, .int .u8 a, .int .u8 b, .int .u8 c, .int .i32 N] 30)).alloc (.cells (regC R) 25)).alloc (.cells (effC zeroR 0 false 0 0 0 0) 27)) = w0 at T0 ⊢
  simp only [World.size_alloc]
  obtain ⟨x0, x1, x2, x3, x4⟩ := cellsX T0.ins
  dsimp only at x0 x1 x2 x3 x4
  have rb := T0.regAt hb
  try simp only [Act.put, List.setIfInBounds_toArray, List.set_cons_zero, List.set_cons_succ]
  go_quiet (fail)
  have T0 := T0.drewN nq
  generalize w0.drewN nq = w1 at T0 ⊢
  clear x0 x1 x2 x3 x4 rb
  obtain ⟨x0, x1, x2, x3, x4⟩ := cellsX T0.ins
  dsimp only at x1 x2 x3 x4
  have x0 : w1.cell? ⟨w.heap.size, 0, none⟩ = some (.int .u8 5) := x0
  have cF := refFault_any R pc hpc 2 w1
  unfold Ef.v at cF
  dsimp only at cF
  go_upto_region 3 with fail
  go_wp2_with (first
    | (refine wl_load25 _ rfl rfl R (w.heap.size + 1) rfl T0.reg ?_)
    | (go_at_call 33; refine cF.mono ?_; rintro ex w2 ⟨rfl, b2⟩; have T2 := T0.grow b2)
    | (refine wl_store27 _ _ rfl rfl R ((pc : Int) + 1) false 0 0 2 0 (w.heap.size + 1 + 1) _ rfl rfl T2.res rfl ?_))
  refine bodyPost_ret (results_cell_row rfl _ _ (w.heap.size + 1 + 1) 27 _ _ _ rfl (setRow_heap _ _ _ _ _ _ T2.res) Tryd.underlying27 rfl (by rw [effC_size]; exact info27)) rfl ?_
  exact ⟨rfl, T2.outBel _⟩

set_option maxHeartbeats 2000000 in
set_option maxRecDepth 100000 in
theorem refM5hi (m : Option Addr) (mn mc : Nat) (hmn : mn ≤ 9223372036854775807) (fx : Int) (a b c : Nat) (ha : a < 16) (hb : b < 16) (N : Int) (hN : -2147483648 ≤ N ∧ N ≤ 2147483647) (R : Nat → Int) (h1 : ¬ wrap64 (R b + N) < 0) (h2 : wrap64 (R b + N) ≥ mn) (pc : Nat) (hpc : (pc : Int) < 9223372036854775807) (w : World) :
    Calls Tryd.prog 78 #[insV 5 a b c N, .slice m mn mc, .int .i64 fx, regV R, .int .i64 pc] w fun ex w' => ex = .returned (effV R ((pc : Int) + 1) false 0 0 2 0) ∧ Below w.heap.size w w' := by
  have T0 := trb_new w ⟨5, a, b, c, N⟩ R
  have hpw : wrap64 ((pc : Int) + 1) = (pc : Int) + 1 := by unfold wrap64; omega
  have hNi : IntKind.i64.wrap N = N := by rw [w64i, w6_id]; unfold I6; omega
  have hNi2 : wrap64 N = N := by rw [w6_id]; unfold I6; omega
  unfold insV
  go_enter Tryd.func78, Tryd.ntmps78
  go_upto_region 1 with (first
    | (refine wl_box25 _ rfl rfl R rfl ?_)
    | (refine wl_alloc27 rfl rfl ?_))
  have T0 : Trb w (((w.alloc (.cells #[.int .u8 5, .int .u8 a, .int .u8 b, .int .u8 c, .int .i32 N] 30)).alloc (.cells (regC R) 25)).alloc (.cells (effC zeroR 0 false 0 0 0 0) 27)) ⟨5, a, b, c, N⟩ R := T0
  generalize (((w.alloc (.cells #[.int .u8 5, .int .u8 a, .int .u8 b, .int .u8 c, .int .i32 N] 30)).alloc (.cells (regC R) 25)).alloc (.cells (effC zeroR 0 false 0 0 0 0) 27)) = w0 at T0 ⊢
  simp only [World.size_alloc]
  obtain ⟨x0, x1, x2, x3, x4⟩ := cellsX T0.ins
  dsimp only at x0 x1 x2 x3 x4
  have rb := T0.regAt hb
  try simp only [Act.put, List.setIfInBounds_toArray, List.set_cons_zero, List.set_cons_succ]
  go_quiet (fail)
  have T0 := T0.drewN nq
  generalize w0.drewN nq = w1 at T0 ⊢
  clear x0 x1 x2 x3 x4 rb
  obtain ⟨x0, x1, x2, x3, x4⟩ := cellsX T0.ins
  dsimp only at x1 x2 x3 x4
  have x0 : w1.cell? ⟨w.heap.size, 0, none⟩ = some (.int .u8 5) := x0
  have cF := refFault_any R pc hpc 2 w1
  unfold Ef.v at cF
  dsimp only at cF
  go_upto_region 3 with fail
  go_wp2_with (first
    | (refine wl_load25 _ rfl rfl R (w.heap.size + 1) rfl T0.reg ?_)
    | (go_at_call 33; refine cF.mono ?_; rintro ex w2 ⟨rfl, b2⟩; have T2 := T0.grow b2)
    | (refine wl_store27 _ _ rfl rfl R ((pc : Int) + 1) false 0 0 2 0 (w.heap.size + 1 + 1) _ rfl rfl T2.res rfl ?_))
  refine bodyPost_ret (results_cell_row rfl _ _ (w.heap.size + 1 + 1) 27 _ _ _ rfl (setRow_heap _ _ _ _ _ _ T2.res) Tryd.underlying27 rfl (by rw [effC_size]; exact info27)) rfl ?_
  exact ⟨rfl, T2.outBel _⟩

set_option maxHeartbeats 2000000 in
set_option maxRecDepth 100000 in
theorem refM6lo (m : Option Addr) (mn mc : Nat) (hmn : mn ≤ 9223372036854775807) (fx : Int) (a b c : Nat) (ha : a < 16) (hb : b < 16) (N : Int) (hN : -2147483648 ≤ N ∧ N ≤ 2147483647) (R : Nat → Int) (h1 : wrap64 (R b + N) < 0) (pc : Nat) (hpc : (pc : Int) < 9223372036854775807) (w : World) :
    Calls Tryd.prog 78 #[insV 6 a b c N, .slice m mn mc, .int .i64 fx, regV R, .int .i64 pc] w fun ex w' => ex = .returned (effV R ((pc : Int) + 1) false 0 0 2 0) ∧ Below w.heap.size w w' := by
  have T0 := trb_new w ⟨6, a, b, c, N⟩ R
  have hpw : wrap64 ((pc : Int) + 1) = (pc : Int) + 1 := by unfold wrap64; omega
  have hNi : IntKind.i64.wrap N = N := by rw [w64i, w6_id]; unfold I6; omega
  have hNi2 : wrap64 N = N := by rw [w6_id]; unfold I6; omega
  unfold insV
  go_enter Tryd.func78, Tryd.ntmps78
  go_upto_region 1 with (first
    | (refine wl_box25 _ rfl rfl R rfl ?_)
    | (refine wl_alloc27 rfl rfl ?_))
  have T0 : Trb w (((w.alloc (.cells #[.int .u8 6, .int .u8 a, .int .u8 b, .int .u8 c, .int .i32 N] 30)).alloc (.cells (regC R) 25)).alloc (.cells (effC zeroR 0 false 0 0 0 0) 27)) ⟨6, a, b, c, N⟩ R := T0
  generalize (((w.alloc (.cells #[.int .u8 6, .int .u8 a, .int .u8 b, .int .u8 c, .int .i32 N] 30)).alloc (.cells (regC R) 25)).alloc (.cells (effC zeroR 0 false 0 0 0 0) 27)) = w0 at T0 ⊢
  simp only [World.size_alloc]
  obtain ⟨x0, x1, x2, x3, x4⟩ := cellsX T0.ins
  dsimp only at x0 x1 x2 x3 x4
  have rb := T0.regAt hb
  try simp only [Act.put, List.setIfInBounds_toArray, List.set_cons_zero, List.set_cons_succ]
  go_quiet (fail)
  have T0 := T0.drewN nq
  generalize w0.drewN nq = w1 at T0 ⊢
  clear x0 x1 x2 x3 x4 rb
  obtain ⟨x0, x1, x2, x3, x4⟩ := cellsX T0.ins
  dsimp only at x1 x2 x3 x4
  have x0 : w1.cell? ⟨w.heap.size, 0, none⟩ = some (.int .u8 6) := x0
  have cF := refFault_any R pc hpc 2 w1
  unfold Ef.v at cF
  dsimp only at cF
  go_upto_region 3 with fail
  go_wp2_with (first
    | (refine wl_load25 _ rfl rfl R (w.heap.size + 1) rfl T0.reg ?_)
    | (go_at_call 33; refine cF.mono ?_; rintro ex w2 ⟨rfl, b2⟩; have T2 := T0.grow b2)
    | (refine wl_store27 _ _ rfl rfl R ((pc : Int) + 1) false 0 0 2 0 (w.heap.size + 1 + 1) _ rfl rfl T2.res rfl ?_))
  refine bodyPost_ret (results_cell_row rfl _ _ (w.heap.size + 1 + 1) 27 _ _ _ rfl (setRow_heap _ _ _ _ _ _ T2.res) Tryd.underlying27 rfl (by rw [effC_size]; exact info27)) rfl ?_
  exact ⟨rfl, T2.outBel _⟩

set_option maxHeartbeats 2000000 in
set_option maxRecDepth 100000 in
theorem refM6hi (m : Option Addr) (mn mc : Nat) (hmn : mn ≤ 9223372036854775807) (fx : Int) (a b c : Nat) (ha : a < 16) (hb : b < 16) (N : Int) (hN : -2147483648 ≤ N ∧ N ≤ 2147483647) (R : Nat → Int) (h1 : ¬ wrap64 (R b + N) < 0) (h2 : wrap64 (R b + N) ≥ mn) (pc : Nat) (hpc : (pc : Int) < 9223372036854775807) (w : World) :
    Calls Tryd.prog 78 #[insV 6 a b c N, .slice m mn mc, .int .i64 fx, regV R, .int .i64 pc] w fun ex w' => ex = .returned (effV R ((pc : Int) + 1) false 0 0 2 0) ∧ Below w.heap.size w w' := by
  have T0 := trb_new w ⟨6, a, b, c, N⟩ R
  have hpw : wrap64 ((pc : Int) + 1) = (pc : Int) + 1 := by unfold wrap64; omega
  have hNi : IntKind.i64.wrap N = N := by rw [w64i, w6_id]; unfold I6; omega
  have hNi2 : wrap64 N = N := by rw [w6_id]; unfold I6; omega
  unfold insV
  go_enter Tryd.func78, Tryd.ntmps78
  go_upto_region 1 with (first
    | (refine wl_box25 _ rfl rfl R rfl ?_)
    | (refine wl_alloc27 rfl rfl ?_))
  have T0 : Trb w (((w.alloc (.cells #[.int .u8 6, .int .u8 a, .int .u8 b, .int .u8 c, .int .i32 N] 30)).alloc (.cells (regC R) 25)).alloc (.cells (effC zeroR 0 false 0 0 0 0) 27)) ⟨6, a, b, c, N⟩ R := T0
  generalize (((w.alloc (.cells #[.int .u8 6, .int .u8 a, .int .u8 b, .int .u8 c, .int .i32 N] 30)).alloc (.cells (regC R) 25)).alloc (.cells (effC zeroR 0 false 0 0 0 0) 27)) = w0 at T0 ⊢
  simp only [World.size_alloc]
  obtain ⟨x0, x1, x2, x3, x4⟩ := cellsX T0.ins
  dsimp only at x0 x1 x2 x3 x4
  have rb := T0.regAt hb
  try simp only [Act.put, List.setIfInBounds_toArray, List.set_cons_zero, List.set_cons_succ]
  go_quiet (fail)
  have T0 := T0.drewN nq
  generalize w0.drewN nq = w1 at T0 ⊢
  clear x0 x1 x2 x3 x4 rb
  obtain ⟨x0, x1, x2, x3, x4⟩ := cellsX T0.ins
  dsimp only at x1 x2 x3 x4
  have x0 : w1.cell? ⟨w.heap.size, 0, none⟩ = some (.int .u8 6) := x0
  have cF := refFault_any R pc hpc 2 w1
  unfold Ef.v at cF
  dsimp only at cF
  go_upto_region 3 with fail
  go_wp2_with (first
    | (refine wl_load25 _ rfl rfl R (w.heap.size + 1) rfl T0.reg ?_)
    | (go_at_call 33; refine cF.mono ?_; rintro ex w2 ⟨rfl, b2⟩; have T2 := T0.grow b2)
    | (refine wl_store27 _ _ rfl rfl R ((pc : Int) + 1) false 0 0 2 0 (w.heap.size + 1 + 1) _ rfl rfl T2.res rfl ?_))
  refine bodyPost_ret (results_cell_row rfl _ _ (w.heap.size + 1 + 1) 27 _ _ _ rfl (setRow_heap _ _ _ _ _ _ T2.res) Tryd.underlying27 rfl (by rw [effC_size]; exact info27)) rfl ?_
  exact ⟨rfl, T2.outBel _⟩

set_option maxHeartbeats 2000000 in
set_option maxRecDepth 100000 in
theorem refM6fx (m : Option Addr) (mn mc : Nat) (hmn : mn ≤ 9223372036854775807) (fx : Int) (a b c : Nat) (ha : a < 16) (hb : b < 16) (N : Int) (hN : -2147483648 ≤ N ∧ N ≤ 2147483647) (R : Nat → Int) (h1 : ¬ wrap64 (R b + N) < 0) (h2 : ¬ wrap64 (R b + N) ≥ mn) (h3 : wrap64 (R b + N) < fx) (pc : Nat) (hpc : (pc : Int) < 9223372036854775807) (w : World) :
    Calls Tryd.prog 78 #[insV 6 a b c N, .slice m mn mc, .int .i64 fx, regV R, .int .i64 pc] w fun ex w' => ex = .returned (effV R ((pc : Int) + 1) false 0 0 2 0) ∧ Below w.heap.size w w' := by
  have T0 := trb_new w ⟨6, a, b, c, N⟩ R
  have hpw : wrap64 ((pc : Int) + 1) = (pc : Int) + 1 := by unfold wrap64; omega
  have hNi : IntKind.i64.wrap N = N := by rw [w64i, w6_id]; unfold I6; omega
  have hNi2 : wrap64 N = N := by rw [w6_id]; unfold I6; omega
  unfold insV
  go_enter Tryd.func78, Tryd.ntmps78
  go_upto_region 1 with (first
    | (refine wl_box25 _ rfl rfl R rfl ?_)
    | (refine wl_alloc27 rfl rfl ?_))
  have T0 : Trb w (((w.alloc (.cells #[.int .u8 6, .int .u8 a, .int .u8 b, .int .u8 c, .int .i32 N] 30)).alloc (.cells (regC R) 25)).alloc (.cells (effC zeroR 0 false 0 0 0 0) 27)) ⟨6, a, b, c, N⟩ R := T0
  generalize (((w.alloc (.cells #[.int .u8 6, .int .u8 a, .int .u8 b, .int .u8 c, .int .i32 N] 30)).alloc (.cells (regC R) 25)).alloc (.cells (effC zeroR 0 false 0 0 0 0) 27)) = w0 at T0 ⊢
  simp only [World.size_alloc]
  obtain ⟨x0, x1, x2, x3, x4⟩ := cellsX T0.ins
  dsimp only at x0 x1 x2 x3 x4
  have rb := T0.regAt hb
  try simp only [Act.put, List.setIfInBounds_toArray, List.set_cons_zero, List.set_cons_succ]
  go_quiet (fail)
  have T0 := T0.drewN nq
  generalize w0.drewN nq = w1 at T0 ⊢
  clear x0 x1 x2 x3 x4 rb
  obtain ⟨x0, x1, x2, x3, x4⟩ := cellsX T0.ins
  dsimp only at x1 x2 x3 x4
  have x0 : w1.cell? ⟨w.heap.size, 0, none⟩ = some (.int .u8 6) := x0
  have cF := refFault_any R pc hpc 2 w1
  unfold Ef.v at cF
  dsimp only at cF
  go_upto_region 3 with fail
  go_wp2_with (first
    | (refine wl_load25 _ rfl rfl R (w.heap.size + 1) rfl T0.reg ?_)
    | (go_at_call 33; refine cF.mono ?_; rintro ex w2 ⟨rfl, b2⟩; have T2 := T0.grow b2)
    | (refine wl_store27 _ _ rfl rfl R ((pc : Int) + 1) false 0 0 2 0 (w.heap.size + 1 + 1) _ rfl rfl T2.res rfl ?_))
  refine bodyPost_ret (results_cell_row rfl _ _ (w.heap.size + 1 + 1) 27 _ _ _ rfl (setRow_heap _ _ _ _ _ _ T2.res) Tryd.underlying27 rfl (by rw [effC_size]; exact info27)) rfl ?_
  exact ⟨rfl, T2.outBel _⟩

set_option maxHeartbeats 2000000 in
set_option maxRecDepth 100000 in
theorem refM6ok (m : Option Addr) (mn mc : Nat) (hmn : mn ≤ 9223372036854775807) (fx : Int) (a b c : Nat) (ha : a < 16) (hb : b < 16) (N : Int) (hN : -2147483648 ≤ N ∧ N ≤ 2147483647) (R : Nat → Int) (A : Int) (hA : wrap64 (R b + N) = A) (h1 : ¬ A < 0) (h2 : ¬ A ≥ mn) (h3 : ¬ A < fx) (pc : Nat) (hpc : (pc : Int) < 9223372036854775807) (w : World) :
    Calls Tryd.prog 78 #[insV 6 a b c N, .slice m mn mc, .int .i64 fx, regV R, .int .i64 pc] w fun ex w' => ex = .returned (effV R ((pc : Int) + 1) true A (R a) 0 0) ∧ Below w.heap.size w w' := by
  have T0 := trb_new w ⟨6, a, b, c, N⟩ R
  have hpw : wrap64 ((pc : Int) + 1) = (pc : Int) + 1 := by unfold wrap64; omega
  have hNi : IntKind.i64.wrap N = N := by rw [w64i, w6_id]; unfold I6; omega
  have hNi2 : wrap64 N = N := by rw [w6_id]; unfold I6; omega
  unfold insV
  go_enter Tryd.func78, Tryd.ntmps78
  go_upto_region 1 with (first
    | (refine wl_box25 _ rfl rfl R rfl ?_)
    | (refine wl_alloc27 rfl rfl ?_))
  have T0 : Trb w (((w.alloc (.cells #[.int .u8 6, .int .u8 a, .int .u8 b, .int .u8 c, .int .i32 N] 30)).alloc (.cells (regC R) 25)).alloc (.cells (effC zeroR 0 false 0 0 0 0) 27)) ⟨6, a, b, c, N⟩ R := T0
  generalize (((w.alloc (.cells #[.int .u8 6, .int .u8 a, .int .u8 b, .int .u8 c, .int .i32 N] 30)).alloc (.cells (regC R) 25)).alloc (.cells (effC zeroR 0 false 0 0 0 0) 27)) = w0 at T0 ⊢
  simp only [World.size_alloc]
  obtain ⟨x0, x1, x2, x3, x4⟩ := cellsX T0.ins
  dsimp only at x0 x1 x2 x3 x4
  have rb := T0.regAt hb
  try simp only [Act.put, List.setIfInBounds_toArray, List.set_cons_zero, List.set_cons_succ]
  go_quiet (fail)
  have T0 := T0.drewN nq
  generalize w0.drewN nq = w1 at T0 ⊢
  clear x0 x1 x2 x3 x4 rb
  obtain ⟨x0, x1, x2, x3, x4⟩ := cellsX T0.ins
  dsimp only at x1 x2 x3 x4
  have x0 : w1.cell? ⟨w.heap.size, 0, none⟩ = some (.int .u8 6) := x0
  have T3 := T0.grow ((Below.refl w1.heap.size w1).alloc (Nat.le_refl _) (.cells (effC R ((pc : Int) + 1) false 0 0 0 0) 27))
  have E3 := heap_alloc_last w1 (.cells (effC R ((pc : Int) + 1) false 0 0 0 0) 27)
  have hq := T0.lt
  go_upto_region 4 with fail
  go_upto_region 5 with (first
    | (refine wl_load25 _ rfl rfl R (w.heap.size + 1) rfl T0.reg ?_)
    | (refine wl_build27b _ _ rfl rfl R ((pc : Int) + 1) rfl rfl ?_)
    | (refine wl_alloc27 rfl rfl ?_)
    | (refine wl_store27 _ _ rfl rfl R ((pc : Int) + 1) false 0 0 0 0 _ _ rfl rfl (heap_alloc_last _ _) rfl ?_; rw [new_store]))
  have hq1 : Below w1.heap.size w1 (w1.alloc (.cells (effC R ((pc : Int) + 1) false 0 0 0 0) 27)) := (Below.refl w1.heap.size w1).alloc (Nat.le_refl _) _
  clear x0 x1 x2 x3 x4
  generalize w1.alloc (.cells (effC R ((pc : Int) + 1) false 0 0 0 0) 27) = w3 at T3 E3 hq1 ⊢
  generalize w1.heap.size = q at E3 hq ⊢
  obtain ⟨x0, x1, x2, x3, x4⟩ := cellsX T3.ins
  dsimp only at x1 x2 x3 x4
  have x0 : w3.cell? ⟨w.heap.size, 0, none⟩ = some (.int .u8 6) := x0
  obtain ⟨e16, e17, e18, e19, e20, e21, z⟩ := c21 E3
  have ra := T3.regAt ha
  have z17 := z 17
  have z18 := z 18
  have z19 := z 19
  have E4 : ((((w3.setCell ⟨q, 17, none⟩ (.bool true)).setCell ⟨q, 18, none⟩ (.int .i64 A)).setCell ⟨q, 19, none⟩ (.int .i64 (R a)))).heap[q]? = some (.cells (effC R ((pc : Int) + 1) true A (R a) 0 0) 27) := heap_setCell_eq (heap_setCell_eq (heap_setCell_eq E3 _) _) _
  have T4 : Trb w (((w3.setCell ⟨q, 17, none⟩ (.bool true)).setCell ⟨q, 18, none⟩ (.int .i64 A)).setCell ⟨q, 19, none⟩ (.int .i64 (R a))) ⟨6, a, b, c, N⟩ R :=
    ((T3.turn (G := fun k => k = q) (Kept.setCell (p := ⟨q, 17, none⟩) (Kept.refl (fun k => k = q) w3) (.inl rfl) (.bool true)) (fun g hg => by subst hg; exact hq)).turn (G := fun k => k = q) (Kept.setCell (p := ⟨q, 18, none⟩) (Kept.refl (fun k => k = q) _) (.inl rfl) (.int .i64 A)) (fun g hg => by subst hg; exact hq)).turn (G := fun k => k = q) (Kept.setCell (p := ⟨q, 19, none⟩) (Kept.refl (fun k => k = q) _) (.inl rfl) (.int .i64 (R a))) (fun g hg => by subst hg; exact hq)
  have nq1 : ¬ w.heap.size = q := by omega
  have nq2 : ¬ w.heap.size + 1 = q := by omega
  have nq3 : ¬ q = w.heap.size := by omega
  have nq4 : ¬ q = w.heap.size + 1 := by omega
  go_upto_region 10 with fail
  generalize ((w3.setCell ⟨q, 17, none⟩ (.bool true)).setCell ⟨q, 18, none⟩ (.int .i64 A)).setCell ⟨q, 19, none⟩ (.int .i64 (R a)) = w5 at E4 T4 ⊢
  clear x0 x1 x2 x3 x4 e16 e17 e18 e19 e20 e21 z z17 z18 z19 T3 E3 ra
  go_wp2_with (first
    | (refine wl_load27 _ rfl rfl R ((pc : Int) + 1) true A (R a) 0 0 q rfl E4 ?_)
    | (refine wl_store27 _ _ rfl rfl R ((pc : Int) + 1) true A (R a) 0 0 (w.heap.size + 1 + 1) _ rfl rfl T4.res rfl ?_))
  refine bodyPost_ret (results_cell_row rfl _ _ (w.heap.size + 1 + 1) 27 _ _ _ rfl (setRow_heap _ _ _ _ _ _ T4.res) Tryd.underlying27 rfl (by rw [effC_size]; exact info27)) rfl ?_
  exact ⟨rfl, T4.outBel _⟩

end Go.Proofs.YtijeaonldhccmaaDoor
