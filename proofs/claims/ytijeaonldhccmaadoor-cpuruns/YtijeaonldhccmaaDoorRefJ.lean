/-
  The document's effects: jumped.
-/
import Derived.Test.YtijeaonldhccmaaDoorRefD
namespace Go.Proofs.YtijeaonldhccmaaDoor
open Go.RowKit
set_option linter.unusedVariables false

theorem set16 {w : World} {g : Nat} {R : Nat → Int} {pc : Int} {st : Bool} {ad va fa ca : Int} (h : w.heap[g]? = some (.cells (effC R pc st ad va fa ca) 27)) (v : Int) : (w.setCell ⟨g, 16, none⟩ (.int .i64 v)).heap[g]? = some (.cells (effC R v st ad va fa ca) 27) := heap_setCell_eq h _
theorem kept_setCell (w : World) (p : Addr) (v : Value) : Kept (fun k => k = p.block) w (w.setCell p v) := Kept.setCell (p := p) (Kept.refl (fun k => k = p.block) w) (.inl rfl) v

set_option maxHeartbeats 1000000 in
set_option maxRecDepth 100000 in
theorem refJ22 (p : Option Addr) (n cc : Nat) (hn : n ≤ 9223372036854775807) (a b c : Nat) (ha : a < 16) (N : Int) (hN : -2147483648 ≤ N ∧ N ≤ 2147483647) (R : Nat → Int) (pc : Nat) (hpc : (pc : Int) < 9223372036854775807) (w : World) :
    Calls Tryd.prog 81 #[.slice p n cc, insV 22 a b c N, regV R, .int .i64 pc] w fun ex w' => ex = .returned (effV R (bri N n) false 0 0 0 0) ∧ Below w.heap.size w w' := by
  have cI := fun w0 => refIn_any p n cc N w0 hn
  generalize bri N n = BV at *
  have T0 := trb_new w ⟨22, a, b, c, N⟩ R
  have hpw : wrap64 ((pc : Int) + 1) = (pc : Int) + 1 := by unfold wrap64; omega
  have hNi : IntKind.i64.wrap N = N := by rw [w64i, w6_id]; unfold I6; omega
  have hNi2 : wrap64 N = N := by rw [w6_id]; unfold I6; omega
  unfold insV
  go_enter Tryd.func81, Tryd.ntmps81
  go_upto_region 1 with (first
    | (refine wl_box25 _ rfl rfl R rfl ?_)
    | (refine wl_alloc27 rfl rfl ?_))
  have T0 : Trb w (((w.alloc (.cells #[.int .u8 22, .int .u8 a, .int .u8 b, .int .u8 c, .int .i32 N] 30)).alloc (.cells (regC R) 25)).alloc (.cells (effC zeroR 0 false 0 0 0 0) 27)) ⟨22, a, b, c, N⟩ R := T0
  generalize (((w.alloc (.cells #[.int .u8 22, .int .u8 a, .int .u8 b, .int .u8 c, .int .i32 N] 30)).alloc (.cells (regC R) 25)).alloc (.cells (effC zeroR 0 false 0 0 0 0) 27)) = w1 at T0 ⊢
  simp only [World.size_alloc]
  obtain ⟨x0, x1, x2, x3, x4⟩ := cellsX T0.ins
  dsimp only at x0 x1 x2 x3 x4
  have ra := T0.regAt ha
  have T3 := T0.grow ((Below.refl w1.heap.size w1).alloc (Nat.le_refl _) (.cells (effC R ((pc : Int) + 1) false 0 0 0 0) 27))
  have E3 := heap_alloc_last w1 (.cells (effC R ((pc : Int) + 1) false 0 0 0 0) 27)
  have hq := T0.lt
  go_upto_region 3 with (first
    | (refine wl_load25 _ rfl rfl R (w.heap.size + 1) rfl T0.reg ?_)
    | (refine wl_build27b _ _ rfl rfl R ((pc : Int) + 1) rfl rfl ?_)
    | (refine wl_alloc27 rfl rfl ?_)
    | (refine wl_store27 _ _ rfl rfl R ((pc : Int) + 1) false 0 0 0 0 _ _ rfl rfl (heap_alloc_last _ _) rfl ?_; rw [new_store]))
  clear x0 x1 x2 x3 x4 ra T0
  generalize w1.alloc (.cells (effC R ((pc : Int) + 1) false 0 0 0 0) 27) = w3 at T3 E3 ⊢
  generalize w1.heap.size = q at E3 hq ⊢
  obtain ⟨x0, x1, x2, x3, x4⟩ := cellsX T3.ins
  dsimp only at x1 x2 x3 x4
  have x0 : w3.cell? ⟨w.heap.size, 0, none⟩ = some (.int .u8 22) := x0
  have e16 := (c21 E3).1
  have z16 := (c21 E3).2.2.2.2.2.2 16
  have E4 := set16 E3 BV
  have T4 := T3.turn (kept_setCell w3 ⟨q, 16, none⟩ (.int .i64 BV)) (fun g hg => by subst hg; exact hq)
  go_upto_region 9 with (go_at_call 31; refine (cI _).mono ?_; rintro ex w4 ⟨rfl, hw⟩; obtain rfl := hw.symm)
  generalize w3.setCell ⟨q, 16, none⟩ (.int .i64 BV) = w5 at E4 T4 ⊢
  clear x0 x1 x2 x3 x4 e16 z16 T3 E3 cI
  obtain ⟨x0, x1, x2, x3, x4⟩ := cellsX T4.ins
  have x0 : w5.cell? ⟨w.heap.size, 0, none⟩ = some (.int .u8 22) := x0
  go_wp2_with (first
    | (refine wl_load27 _ rfl rfl R BV false 0 0 0 0 q rfl E4 ?_)
    | (refine wl_store27 _ _ rfl rfl R BV false 0 0 0 0 (w.heap.size + 1 + 1) _ rfl rfl T4.res rfl ?_))
  refine bodyPost_ret (results_cell_row rfl _ _ (w.heap.size + 1 + 1) 27 _ _ _ rfl (setRow_heap _ _ _ _ _ _ T4.res) Tryd.underlying27 rfl (by rw [effC_size]; exact info27)) rfl ?_
  exact ⟨rfl, T4.outBel _⟩

set_option maxHeartbeats 1000000 in
set_option maxRecDepth 100000 in
theorem refJ23y (p : Option Addr) (n cc : Nat) (hn : n ≤ 9223372036854775807) (a b c : Nat) (ha : a < 16) (N : Int) (hN : -2147483648 ≤ N ∧ N ≤ 2147483647) (R : Nat → Int) (hz : (R a == 0) = true) (hz2 : (R a != 0) = false) (pc : Nat) (hpc : (pc : Int) < 9223372036854775807) (w : World) :
    Calls Tryd.prog 81 #[.slice p n cc, insV 23 a b c N, regV R, .int .i64 pc] w fun ex w' => ex = .returned (effV R (bri N n) false 0 0 0 0) ∧ Below w.heap.size w w' := by
  have cI := fun w0 => refIn_any p n cc N w0 hn
  generalize bri N n = BV at *
  have T0 := trb_new w ⟨23, a, b, c, N⟩ R
  have hpw : wrap64 ((pc : Int) + 1) = (pc : Int) + 1 := by unfold wrap64; omega
  have hNi : IntKind.i64.wrap N = N := by rw [w64i, w6_id]; unfold I6; omega
  have hNi2 : wrap64 N = N := by rw [w6_id]; unfold I6; omega
  unfold insV
  go_enter Tryd.func81, Tryd.ntmps81
  go_upto_region 1 with (first
    | (refine wl_box25 _ rfl rfl R rfl ?_)
    | (refine wl_alloc27 rfl rfl ?_))
  have T0 : Trb w (((w.alloc (.cells #[.int .u8 23, .int .u8 a, .int .u8 b, .int .u8 c, .int .i32 N] 30)).alloc (.cells (regC R) 25)).alloc (.cells (effC zeroR 0 false 0 0 0 0) 27)) ⟨23, a, b, c, N⟩ R := T0
  generalize (((w.alloc (.cells #[.int .u8 23, .int .u8 a, .int .u8 b, .int .u8 c, .int .i32 N] 30)).alloc (.cells (regC R) 25)).alloc (.cells (effC zeroR 0 false 0 0 0 0) 27)) = w1 at T0 ⊢
  simp only [World.size_alloc]
  obtain ⟨x0, x1, x2, x3, x4⟩ := cellsX T0.ins
  dsimp only at x0 x1 x2 x3 x4
  have ra := T0.regAt ha
  have T3 := T0.grow ((Below.refl w1.heap.size w1).alloc (Nat.le_refl _) (.cells (effC R ((pc : Int) + 1) false 0 0 0 0) 27))
  have E3 := heap_alloc_last w1 (.cells (effC R ((pc : Int) + 1) false 0 0 0 0) 27)
  have hq := T0.lt
  go_upto_region 3 with (first
    | (refine wl_load25 _ rfl rfl R (w.heap.size + 1) rfl T0.reg ?_)
    | (refine wl_build27b _ _ rfl rfl R ((pc : Int) + 1) rfl rfl ?_)
    | (refine wl_alloc27 rfl rfl ?_)
    | (refine wl_store27 _ _ rfl rfl R ((pc : Int) + 1) false 0 0 0 0 _ _ rfl rfl (heap_alloc_last _ _) rfl ?_; rw [new_store]))
  clear x0 x1 x2 x3 x4 ra T0
  generalize w1.alloc (.cells (effC R ((pc : Int) + 1) false 0 0 0 0) 27) = w3 at T3 E3 ⊢
  generalize w1.heap.size = q at E3 hq ⊢
  obtain ⟨x0, x1, x2, x3, x4⟩ := cellsX T3.ins
  dsimp only at x1 x2 x3 x4
  have x0 : w3.cell? ⟨w.heap.size, 0, none⟩ = some (.int .u8 23) := x0
  have e16 := (c21 E3).1
  have z16 := (c21 E3).2.2.2.2.2.2 16
  have E4 := set16 E3 BV
  have T4 := T3.turn (kept_setCell w3 ⟨q, 16, none⟩ (.int .i64 BV)) (fun g hg => by subst hg; exact hq)
  go_upto_region 9 with (go_at_call 31; refine (cI _).mono ?_; rintro ex w4 ⟨rfl, hw⟩; obtain rfl := hw.symm)
  generalize w3.setCell ⟨q, 16, none⟩ (.int .i64 BV) = w5 at E4 T4 ⊢
  clear x0 x1 x2 x3 x4 e16 z16 T3 E3 cI
  obtain ⟨x0, x1, x2, x3, x4⟩ := cellsX T4.ins
  have x0 : w5.cell? ⟨w.heap.size, 0, none⟩ = some (.int .u8 23) := x0
  go_wp2_with (first
    | (refine wl_load27 _ rfl rfl R BV false 0 0 0 0 q rfl E4 ?_)
    | (refine wl_store27 _ _ rfl rfl R BV false 0 0 0 0 (w.heap.size + 1 + 1) _ rfl rfl T4.res rfl ?_))
  refine bodyPost_ret (results_cell_row rfl _ _ (w.heap.size + 1 + 1) 27 _ _ _ rfl (setRow_heap _ _ _ _ _ _ T4.res) Tryd.underlying27 rfl (by rw [effC_size]; exact info27)) rfl ?_
  exact ⟨rfl, T4.outBel _⟩

set_option maxHeartbeats 1000000 in
set_option maxRecDepth 100000 in
theorem refJ24n (p : Option Addr) (n cc : Nat) (hn : n ≤ 9223372036854775807) (a b c : Nat) (ha : a < 16) (N : Int) (hN : -2147483648 ≤ N ∧ N ≤ 2147483647) (R : Nat → Int) (hz : (R a == 0) = false) (hz2 : (R a != 0) = true) (pc : Nat) (hpc : (pc : Int) < 9223372036854775807) (w : World) :
    Calls Tryd.prog 81 #[.slice p n cc, insV 24 a b c N, regV R, .int .i64 pc] w fun ex w' => ex = .returned (effV R (bri N n) false 0 0 0 0) ∧ Below w.heap.size w w' := by
  have cI := fun w0 => refIn_any p n cc N w0 hn
  generalize bri N n = BV at *
  have T0 := trb_new w ⟨24, a, b, c, N⟩ R
  have hpw : wrap64 ((pc : Int) + 1) = (pc : Int) + 1 := by unfold wrap64; omega
  have hNi : IntKind.i64.wrap N = N := by rw [w64i, w6_id]; unfold I6; omega
  have hNi2 : wrap64 N = N := by rw [w6_id]; unfold I6; omega
  unfold insV
  go_enter Tryd.func81, Tryd.ntmps81
  go_upto_region 1 with (first
    | (refine wl_box25 _ rfl rfl R rfl ?_)
    | (refine wl_alloc27 rfl rfl ?_))
  have T0 : Trb w (((w.alloc (.cells #[.int .u8 24, .int .u8 a, .int .u8 b, .int .u8 c, .int .i32 N] 30)).alloc (.cells (regC R) 25)).alloc (.cells (effC zeroR 0 false 0 0 0 0) 27)) ⟨24, a, b, c, N⟩ R := T0
  generalize (((w.alloc (.cells #[.int .u8 24, .int .u8 a, .int .u8 b, .int .u8 c, .int .i32 N] 30)).alloc (.cells (regC R) 25)).alloc (.cells (effC zeroR 0 false 0 0 0 0) 27)) = w1 at T0 ⊢
  simp only [World.size_alloc]
  obtain ⟨x0, x1, x2, x3, x4⟩ := cellsX T0.ins
  dsimp only at x0 x1 x2 x3 x4
  have ra := T0.regAt ha
  have T3 := T0.grow ((Below.refl w1.heap.size w1).alloc (Nat.le_refl _) (.cells (effC R ((pc : Int) + 1) false 0 0 0 0) 27))
  have E3 := heap_alloc_last w1 (.cells (effC R ((pc : Int) + 1) false 0 0 0 0) 27)
  have hq := T0.lt
  go_upto_region 3 with (first
    | (refine wl_load25 _ rfl rfl R (w.heap.size + 1) rfl T0.reg ?_)
    | (refine wl_build27b _ _ rfl rfl R ((pc : Int) + 1) rfl rfl ?_)
    | (refine wl_alloc27 rfl rfl ?_)
    | (refine wl_store27 _ _ rfl rfl R ((pc : Int) + 1) false 0 0 0 0 _ _ rfl rfl (heap_alloc_last _ _) rfl ?_; rw [new_store]))
  clear x0 x1 x2 x3 x4 ra T0
  generalize w1.alloc (.cells (effC R ((pc : Int) + 1) false 0 0 0 0) 27) = w3 at T3 E3 ⊢
  generalize w1.heap.size = q at E3 hq ⊢
  obtain ⟨x0, x1, x2, x3, x4⟩ := cellsX T3.ins
  dsimp only at x1 x2 x3 x4
  have x0 : w3.cell? ⟨w.heap.size, 0, none⟩ = some (.int .u8 24) := x0
  have e16 := (c21 E3).1
  have z16 := (c21 E3).2.2.2.2.2.2 16
  have E4 := set16 E3 BV
  have T4 := T3.turn (kept_setCell w3 ⟨q, 16, none⟩ (.int .i64 BV)) (fun g hg => by subst hg; exact hq)
  go_upto_region 9 with (go_at_call 31; refine (cI _).mono ?_; rintro ex w4 ⟨rfl, hw⟩; obtain rfl := hw.symm)
  generalize w3.setCell ⟨q, 16, none⟩ (.int .i64 BV) = w5 at E4 T4 ⊢
  clear x0 x1 x2 x3 x4 e16 z16 T3 E3 cI
  obtain ⟨x0, x1, x2, x3, x4⟩ := cellsX T4.ins
  have x0 : w5.cell? ⟨w.heap.size, 0, none⟩ = some (.int .u8 24) := x0
  go_wp2_with (first
    | (refine wl_load27 _ rfl rfl R BV false 0 0 0 0 q rfl E4 ?_)
    | (refine wl_store27 _ _ rfl rfl R BV false 0 0 0 0 (w.heap.size + 1 + 1) _ rfl rfl T4.res rfl ?_))
  refine bodyPost_ret (results_cell_row rfl _ _ (w.heap.size + 1 + 1) 27 _ _ _ rfl (setRow_heap _ _ _ _ _ _ T4.res) Tryd.underlying27 rfl (by rw [effC_size]; exact info27)) rfl ?_
  exact ⟨rfl, T4.outBel _⟩

set_option maxHeartbeats 1000000 in
set_option maxRecDepth 100000 in
theorem refJ24y (p : Option Addr) (n cc : Nat) (hn : n ≤ 9223372036854775807) (a b c : Nat) (ha : a < 16) (N : Int) (hN : -2147483648 ≤ N ∧ N ≤ 2147483647) (R : Nat → Int) (hz : (R a == 0) = true) (hz2 : (R a != 0) = false) (pc : Nat) (hpc : (pc : Int) < 9223372036854775807) (w : World) :
    Calls Tryd.prog 81 #[.slice p n cc, insV 24 a b c N, regV R, .int .i64 pc] w fun ex w' => ex = .returned (effV R ((pc : Int) + 1) false 0 0 0 0) ∧ Below w.heap.size w w' := by
  have T0 := trb_new w ⟨24, a, b, c, N⟩ R
  have hpw : wrap64 ((pc : Int) + 1) = (pc : Int) + 1 := by unfold wrap64; omega
  have hNi : IntKind.i64.wrap N = N := by rw [w64i, w6_id]; unfold I6; omega
  have hNi2 : wrap64 N = N := by rw [w6_id]; unfold I6; omega
  unfold insV
  go_enter Tryd.func81, Tryd.ntmps81
  go_upto_region 1 with (first
    | (refine wl_box25 _ rfl rfl R rfl ?_)
    | (refine wl_alloc27 rfl rfl ?_))
  have T0 : Trb w (((w.alloc (.cells #[.int .u8 24, .int .u8 a, .int .u8 b, .int .u8 c, .int .i32 N] 30)).alloc (.cells (regC R) 25)).alloc (.cells (effC zeroR 0 false 0 0 0 0) 27)) ⟨24, a, b, c, N⟩ R := T0
  generalize (((w.alloc (.cells #[.int .u8 24, .int .u8 a, .int .u8 b, .int .u8 c, .int .i32 N] 30)).alloc (.cells (regC R) 25)).alloc (.cells (effC zeroR 0 false 0 0 0 0) 27)) = w1 at T0 ⊢
  simp only [World.size_alloc]
  obtain ⟨x0, x1, x2, x3, x4⟩ := cellsX T0.ins
  dsimp only at x0 x1 x2 x3 x4
  have ra := T0.regAt ha
  have T3 := T0.grow ((Below.refl w1.heap.size w1).alloc (Nat.le_refl _) (.cells (effC R ((pc : Int) + 1) false 0 0 0 0) 27))
  have E3 := heap_alloc_last w1 (.cells (effC R ((pc : Int) + 1) false 0 0 0 0) 27)
  have hq := T0.lt
  go_upto_region 3 with (first
    | (refine wl_load25 _ rfl rfl R (w.heap.size + 1) rfl T0.reg ?_)
    | (refine wl_build27b _ _ rfl rfl R ((pc : Int) + 1) rfl rfl ?_)
    | (refine wl_alloc27 rfl rfl ?_)
    | (refine wl_store27 _ _ rfl rfl R ((pc : Int) + 1) false 0 0 0 0 _ _ rfl rfl (heap_alloc_last _ _) rfl ?_; rw [new_store]))
  clear x0 x1 x2 x3 x4 ra T0
  generalize w1.alloc (.cells (effC R ((pc : Int) + 1) false 0 0 0 0) 27) = w3 at T3 E3 ⊢
  generalize w1.heap.size = q at E3 hq ⊢
  obtain ⟨x0, x1, x2, x3, x4⟩ := cellsX T3.ins
  dsimp only at x1 x2 x3 x4
  have x0 : w3.cell? ⟨w.heap.size, 0, none⟩ = some (.int .u8 24) := x0
  have e16 := (c21 E3).1
  have z16 := (c21 E3).2.2.2.2.2.2 16
  go_wp2_with (first
    | (refine wl_load27 _ rfl rfl R ((pc : Int) + 1) false 0 0 0 0 q rfl E3 ?_)
    | (refine wl_store27 _ _ rfl rfl R ((pc : Int) + 1) false 0 0 0 0 (w.heap.size + 1 + 1) _ rfl rfl T3.res rfl ?_))
  refine bodyPost_ret (results_cell_row rfl _ _ (w.heap.size + 1 + 1) 27 _ _ _ rfl (setRow_heap _ _ _ _ _ _ T3.res) Tryd.underlying27 rfl (by rw [effC_size]; exact info27)) rfl ?_
  exact ⟨rfl, T3.outBel _⟩

set_option maxHeartbeats 1000000 in
set_option maxRecDepth 100000 in
theorem refJ25 (p : Option Addr) (n cc : Nat) (hn : n ≤ 9223372036854775807) (a b c : Nat) (ha : a < 16) (N : Int) (hN : -2147483648 ≤ N ∧ N ≤ 2147483647) (R : Nat → Int) (pc : Nat) (hpc : (pc : Int) < 9223372036854775807) (w : World) :
    Calls Tryd.prog 81 #[.slice p n cc, insV 25 a b c N, regV R, .int .i64 pc] w fun ex w' => ex = .returned (effV R (bri (R a) n) false 0 0 0 0) ∧ Below w.heap.size w w' := by
  have cI := fun w0 => refIn_any p n cc (R a) w0 hn
  generalize bri (R a) n = BV at *
  have T0 := trb_new w ⟨25, a, b, c, N⟩ R
  have hpw : wrap64 ((pc : Int) + 1) = (pc : Int) + 1 := by unfold wrap64; omega
  have hNi : IntKind.i64.wrap N = N := by rw [w64i, w6_id]; unfold I6; omega
  have hNi2 : wrap64 N = N := by rw [w6_id]; unfold I6; omega
  unfold insV
  go_enter Tryd.func81, Tryd.ntmps81
  go_upto_region 1 with (first
    | (refine wl_box25 _ rfl rfl R rfl ?_)
    | (refine wl_alloc27 rfl rfl ?_))
  have T0 : Trb w (((w.alloc (.cells #[.int .u8 25, .int .u8 a, .int .u8 b, .int .u8 c, .int .i32 N] 30)).alloc (.cells (regC R) 25)).alloc (.cells (effC zeroR 0 false 0 0 0 0) 27)) ⟨25, a, b, c, N⟩ R := T0
  generalize (((w.alloc (.cells #[.int .u8 25, .int .u8 a, .int .u8 b, .int .u8 c, .int .i32 N] 30)).alloc (.cells (regC R) 25)).alloc (.cells (effC zeroR 0 false 0 0 0 0) 27)) = w1 at T0 ⊢
  simp only [World.size_alloc]
  obtain ⟨x0, x1, x2, x3, x4⟩ := cellsX T0.ins
  dsimp only at x0 x1 x2 x3 x4
  have ra := T0.regAt ha
  have T3 := T0.grow ((Below.refl w1.heap.size w1).alloc (Nat.le_refl _) (.cells (effC R ((pc : Int) + 1) false 0 0 0 0) 27))
  have E3 := heap_alloc_last w1 (.cells (effC R ((pc : Int) + 1) false 0 0 0 0) 27)
  have hq := T0.lt
  go_upto_region 3 with (first
    | (refine wl_load25 _ rfl rfl R (w.heap.size + 1) rfl T0.reg ?_)
    | (refine wl_build27b _ _ rfl rfl R ((pc : Int) + 1) rfl rfl ?_)
    | (refine wl_alloc27 rfl rfl ?_)
    | (refine wl_store27 _ _ rfl rfl R ((pc : Int) + 1) false 0 0 0 0 _ _ rfl rfl (heap_alloc_last _ _) rfl ?_; rw [new_store]))
  clear x0 x1 x2 x3 x4 ra T0
  generalize w1.alloc (.cells (effC R ((pc : Int) + 1) false 0 0 0 0) 27) = w3 at T3 E3 ⊢
  generalize w1.heap.size = q at E3 hq ⊢
  obtain ⟨x0, x1, x2, x3, x4⟩ := cellsX T3.ins
  dsimp only at x1 x2 x3 x4
  have x0 : w3.cell? ⟨w.heap.size, 0, none⟩ = some (.int .u8 25) := x0
  have e16 := (c21 E3).1
  have z16 := (c21 E3).2.2.2.2.2.2 16
  have E4 := set16 E3 BV
  have T4 := T3.turn (kept_setCell w3 ⟨q, 16, none⟩ (.int .i64 BV)) (fun g hg => by subst hg; exact hq)
  go_upto_region 5 with (go_at_call 31; refine (cI _).mono ?_; rintro ex w4 ⟨rfl, hw⟩; obtain rfl := hw.symm)
  generalize w3.setCell ⟨q, 16, none⟩ (.int .i64 BV) = w5 at E4 T4 ⊢
  clear x0 x1 x2 x3 x4 e16 z16 T3 E3 cI
  obtain ⟨x0, x1, x2, x3, x4⟩ := cellsX T4.ins
  have x0 : w5.cell? ⟨w.heap.size, 0, none⟩ = some (.int .u8 25) := x0
  go_wp2_with (first
    | (refine wl_load27 _ rfl rfl R BV false 0 0 0 0 q rfl E4 ?_)
    | (refine wl_store27 _ _ rfl rfl R BV false 0 0 0 0 (w.heap.size + 1 + 1) _ rfl rfl T4.res rfl ?_))
  refine bodyPost_ret (results_cell_row rfl _ _ (w.heap.size + 1 + 1) 27 _ _ _ rfl (setRow_heap _ _ _ _ _ _ T4.res) Tryd.underlying27 rfl (by rw [effC_size]; exact info27)) rfl ?_
  exact ⟨rfl, T4.outBel _⟩

set_option maxHeartbeats 1000000 in
set_option maxRecDepth 100000 in
theorem refJ26 (p : Option Addr) (n cc : Nat) (hn : n ≤ 9223372036854775807) (a b c : Nat) (ha : a < 16) (N : Int) (hN : -2147483648 ≤ N ∧ N ≤ 2147483647) (R : Nat → Int) (pc : Nat) (hpc : (pc : Int) < 9223372036854775807) (w : World) :
    Calls Tryd.prog 81 #[.slice p n cc, insV 26 a b c N, regV R, .int .i64 pc] w fun ex w' => ex = .returned (effV (upd R 14 ((pc : Int) + 1)) (bri N n) false 0 0 0 0) ∧ Below w.heap.size w w' := by
  have cI := fun w0 => refIn_any p n cc N w0 hn
  generalize bri N n = BV at *
  have T0 := trb_new w ⟨26, a, b, c, N⟩ R
  have hpw : wrap64 ((pc : Int) + 1) = (pc : Int) + 1 := by unfold wrap64; omega
  have hNi : IntKind.i64.wrap N = N := by rw [w64i, w6_id]; unfold I6; omega
  have hNi2 : wrap64 N = N := by rw [w6_id]; unfold I6; omega
  unfold insV
  go_enter Tryd.func81, Tryd.ntmps81
  go_upto_region 1 with (first
    | (refine wl_box25 _ rfl rfl R rfl ?_)
    | (refine wl_alloc27 rfl rfl ?_))
  have T0 : Trb w (((w.alloc (.cells #[.int .u8 26, .int .u8 a, .int .u8 b, .int .u8 c, .int .i32 N] 30)).alloc (.cells (regC R) 25)).alloc (.cells (effC zeroR 0 false 0 0 0 0) 27)) ⟨26, a, b, c, N⟩ R := T0
  generalize (((w.alloc (.cells #[.int .u8 26, .int .u8 a, .int .u8 b, .int .u8 c, .int .i32 N] 30)).alloc (.cells (regC R) 25)).alloc (.cells (effC zeroR 0 false 0 0 0 0) 27)) = w1 at T0 ⊢
  simp only [World.size_alloc]
  obtain ⟨x0, x1, x2, x3, x4⟩ := cellsX T0.ins
  dsimp only at x0 x1 x2 x3 x4
  have ra := T0.regAt ha
  have T3 := T0.grow ((Below.refl w1.heap.size w1).alloc (Nat.le_refl _) (.cells (effC R ((pc : Int) + 1) false 0 0 0 0) 27))
  have E3 := heap_alloc_last w1 (.cells (effC R ((pc : Int) + 1) false 0 0 0 0) 27)
  have hq := T0.lt
  go_upto_region 3 with (first
    | (refine wl_load25 _ rfl rfl R (w.heap.size + 1) rfl T0.reg ?_)
    | (refine wl_build27b _ _ rfl rfl R ((pc : Int) + 1) rfl rfl ?_)
    | (refine wl_alloc27 rfl rfl ?_)
    | (refine wl_store27 _ _ rfl rfl R ((pc : Int) + 1) false 0 0 0 0 _ _ rfl rfl (heap_alloc_last _ _) rfl ?_; rw [new_store]))
  clear x0 x1 x2 x3 x4 ra T0
  generalize w1.alloc (.cells (effC R ((pc : Int) + 1) false 0 0 0 0) 27) = w3 at T3 E3 ⊢
  generalize w1.heap.size = q at E3 hq ⊢
  obtain ⟨x0, x1, x2, x3, x4⟩ := cellsX T3.ins
  dsimp only at x1 x2 x3 x4
  have x0 : w3.cell? ⟨w.heap.size, 0, none⟩ = some (.int .u8 26) := x0
  have e16 := (c21 E3).1
  have z16 := (c21 E3).2.2.2.2.2.2 16
  have E4 := set16 E3 BV
  have T4 := T3.turn (kept_setCell w3 ⟨q, 16, none⟩ (.int .i64 BV)) (fun g hg => by subst hg; exact hq)
  go_upto_region 9 with (go_at_call 31; refine (cI _).mono ?_; rintro ex w4 ⟨rfl, hw⟩; obtain rfl := hw.symm)
  generalize w3.setCell ⟨q, 16, none⟩ (.int .i64 BV) = w5 at E4 T4 ⊢
  clear x0 x1 x2 x3 x4 e16 z16 T3 E3 cI
  obtain ⟨x0, x1, x2, x3, x4⟩ := cellsX T4.ins
  have x0 : w5.cell? ⟨w.heap.size, 0, none⟩ = some (.int .u8 26) := x0
  have cW := refWith_any ⟨R, BV, false, 0, 0, 0, 0⟩ 14 (by decide) ((pc : Int) + 1) w5
  unfold Ef.v at cW
  dsimp only at cW
  go_wp2_with (first
    | (refine wl_load27 _ rfl rfl R BV false 0 0 0 0 q rfl E4 ?_)
    | (go_at_call 76; refine cW.mono ?_; rintro ex w6 ⟨rfl, b6⟩; have T6 := T4.grow b6)
    | (refine wl_store27 _ _ rfl rfl (upd R 14 ((pc : Int) + 1)) BV false 0 0 0 0 (w.heap.size + 1 + 1) _ rfl rfl T6.res rfl ?_))
  refine bodyPost_ret (results_cell_row rfl _ _ (w.heap.size + 1 + 1) 27 _ _ _ rfl (setRow_heap _ _ _ _ _ _ T6.res) Tryd.underlying27 rfl (by rw [effC_size]; exact info27)) rfl ?_
  exact ⟨rfl, T6.outBel _⟩

end Go.Proofs.YtijeaonldhccmaaDoor
