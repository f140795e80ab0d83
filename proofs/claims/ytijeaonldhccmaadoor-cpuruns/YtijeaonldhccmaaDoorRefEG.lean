/-
  One text: RefE1, RefE2, RefE3, RefE4, RefE5, RefF, RefG.
-/
import Derived.Test.YtijeaonldhccmaaDoorRefM5
import Derived.Test.YtijeaonldhccmaaDoorRefJ2
import Derived.Test.YtijeaonldhccmaaDoorSure
import Derived.Test.YtijeaonldhccmaaDoorKeeps
import Derived.Test.YtijeaonldhccmaaDoorRefLegal
import Derived.Test.YtijeaonldhccmaaDoorCodeRow
namespace Go.Proofs.YtijeaonldhccmaaDoor
open Go.RowKit
set_option linter.unusedVariables false

theorem and_low (k l : Nat) (h : l < 4294967296) : (k * 4294967296) &&& l = 0 := by
  have h1 := Nat.and_mod_two_pow (a := k * 4294967296) (b := l) (n := 32)
  have h2 := Nat.and_div_two_pow (a := k * 4294967296) (b := l) (n := 32)
  rw [show (2 : Nat) ^ 32 = 4294967296 by decide] at h1 h2
  rw [Nat.mul_mod_left, Nat.zero_and] at h1
  rw [Nat.div_eq_of_lt h, Nat.and_zero] at h2
  omega
theorem ldh_sum (A N : Int) : wrap64 (wrap64 (N * 4294967296) + rm A 4294967296) = ldh A N := by
  unfold ldh rm
  rw [bits_or]
  have e1 : ∃ k : Nat, un (wrap64 (N * 4294967296)) = k * 4294967296 := ⟨(N % 4294967296).toNat, by unfold un wrap64; omega⟩
  obtain ⟨k, hk⟩ := e1
  have e2 : un (A % 4294967296) < 4294967296 := by unfold un; omega
  have e3 : (un (A % 4294967296) : Int) = A % 4294967296 := by unfold un; omega
  have h := (nat_bits (un (wrap64 (N * 4294967296))) (un (A % 4294967296))).2
  rw [hk, and_low k _ e2] at h
  rw [hk]
  obtain ⟨j, hj⟩ := un_eq (wrap64 (N * 4294967296))
  rw [hk] at hj
  refine (w6_eq j ?_).symm
  omega

set_option maxHeartbeats 2000000 in
set_option maxRecDepth 100000 in
theorem refD1 (p m : Option Addr) (n cc mn mc : Nat) (fx : Int) (a b c : Nat) (ha : a < 16) (hb : b < 16) (N : Int) (hN : -2147483648 ≤ N ∧ N ≤ 2147483647) (R : Nat → Int) (pc : Nat) (hpc : (pc : Int) < 9223372036854775807) (w : World) :
    Calls Tryd.prog 34 #[.slice p n cc, insV 1 a b c N, .slice m mn mc, .int .i64 fx, regV R, .int .i64 pc] w fun ex w' => ex = .returned (effV R ((pc : Int) + 1) false 0 0 0 0) ∧ Below w.heap.size w w' := by
  have T0 := trb_new w ⟨1, a, b, c, N⟩ R
  have hpw : wrap64 ((pc : Int) + 1) = (pc : Int) + 1 := by unfold wrap64; omega
  have hNi : IntKind.i64.wrap N = N := by rw [w64i, w6_id]; unfold I6; omega
  have hNi2 : wrap64 N = N := by rw [w6_id]; unfold I6; omega
  unfold insV
  go_enter Tryd.func34, Tryd.ntmps34
  go_upto_region 1 with (first
    | (refine wl_box25 _ rfl rfl R rfl ?_)
    | (refine wl_alloc27 rfl rfl ?_))
  have T0 : Trb w (((w.alloc (.cells #[.int .u8 1, .int .u8 a, .int .u8 b, .int .u8 c, .int .i32 N] 30)).alloc (.cells (regC R) 25)).alloc (.cells (effC zeroR 0 false 0 0 0 0) 27)) ⟨1, a, b, c, N⟩ R := T0
  generalize (((w.alloc (.cells #[.int .u8 1, .int .u8 a, .int .u8 b, .int .u8 c, .int .i32 N] 30)).alloc (.cells (regC R) 25)).alloc (.cells (effC zeroR 0 false 0 0 0 0) 27)) = w1 at T0 ⊢
  simp only [World.size_alloc]
  have T3 := T0.grow ((Below.refl w1.heap.size w1).alloc (Nat.le_refl _) (.cells (effC R ((pc : Int) + 1) false 0 0 0 0) 27))
  have E3 := heap_alloc_last w1 (.cells (effC R ((pc : Int) + 1) false 0 0 0 0) 27)
  have hq := T0.lt
  go_upto_region 2 with (first
    | (refine wl_load25 _ rfl rfl R (w.heap.size + 1) rfl T0.reg ?_)
    | (refine wl_build27b _ _ rfl rfl R ((pc : Int) + 1) rfl rfl ?_)
    | (refine wl_alloc27 rfl rfl ?_)
    | (refine wl_store27 _ _ rfl rfl R ((pc : Int) + 1) false 0 0 0 0 _ _ rfl rfl (heap_alloc_last _ _) rfl ?_; rw [new_store]))
  clear T0
  generalize w1.alloc (.cells (effC R ((pc : Int) + 1) false 0 0 0 0) 27) = w3 at T3 E3 ⊢
  generalize w1.heap.size = q at E3 hq ⊢
  obtain ⟨x0, x1, x2, x3, x4⟩ := cellsX T3.ins
  dsimp only at x1 x2 x3 x4
  have x0 : w3.cell? ⟨w.heap.size, 0, none⟩ = some (.int .u8 1) := x0
  have rb := T3.regAt hb
  try simp only [Act.put, List.setIfInBounds_toArray, List.set_cons_zero, List.set_cons_succ]
  go_upto_region 6 with fail
  go_wp2_with (first
    | (refine wl_load27 _ rfl rfl R ((pc : Int) + 1) false 0 0 0 0 q rfl E3 ?_)
    | (refine wl_store27 _ _ rfl rfl R ((pc : Int) + 1) false 0 0 0 0 (w.heap.size + 1 + 1) _ rfl rfl T3.res rfl ?_))
  refine bodyPost_ret (results_cell_row rfl _ _ (w.heap.size + 1 + 1) 27 _ _ _ rfl (setRow_heap _ _ _ _ _ _ T3.res) Tryd.underlying27 rfl (by rw [effC_size]; exact info27)) rfl ?_
  exact ⟨rfl, T3.outBel _⟩

set_option maxHeartbeats 2000000 in
set_option maxRecDepth 100000 in
theorem refD2 (p m : Option Addr) (n cc mn mc : Nat) (fx : Int) (a b c : Nat) (ha : a < 16) (hb : b < 16) (N : Int) (hN : -2147483648 ≤ N ∧ N ≤ 2147483647) (R : Nat → Int) (pc : Nat) (hpc : (pc : Int) < 9223372036854775807) (w : World) :
    Calls Tryd.prog 34 #[.slice p n cc, insV 2 a b c N, .slice m mn mc, .int .i64 fx, regV R, .int .i64 pc] w fun ex w' => ex = .returned (effV (upd R a N) ((pc : Int) + 1) false 0 0 0 0) ∧ Below w.heap.size w w' := by
  have T0 := trb_new w ⟨2, a, b, c, N⟩ R
  have hpw : wrap64 ((pc : Int) + 1) = (pc : Int) + 1 := by unfold wrap64; omega
  have hNi : IntKind.i64.wrap N = N := by rw [w64i, w6_id]; unfold I6; omega
  have hNi2 : wrap64 N = N := by rw [w6_id]; unfold I6; omega
  unfold insV
  go_enter Tryd.func34, Tryd.ntmps34
  go_upto_region 1 with (first
    | (refine wl_box25 _ rfl rfl R rfl ?_)
    | (refine wl_alloc27 rfl rfl ?_))
  have T0 : Trb w (((w.alloc (.cells #[.int .u8 2, .int .u8 a, .int .u8 b, .int .u8 c, .int .i32 N] 30)).alloc (.cells (regC R) 25)).alloc (.cells (effC zeroR 0 false 0 0 0 0) 27)) ⟨2, a, b, c, N⟩ R := T0
  generalize (((w.alloc (.cells #[.int .u8 2, .int .u8 a, .int .u8 b, .int .u8 c, .int .i32 N] 30)).alloc (.cells (regC R) 25)).alloc (.cells (effC zeroR 0 false 0 0 0 0) 27)) = w1 at T0 ⊢
  simp only [World.size_alloc]
  have T3 := T0.grow ((Below.refl w1.heap.size w1).alloc (Nat.le_refl _) (.cells (effC R ((pc : Int) + 1) false 0 0 0 0) 27))
  have E3 := heap_alloc_last w1 (.cells (effC R ((pc : Int) + 1) false 0 0 0 0) 27)
  have hq := T0.lt
  go_upto_region 2 with (first
    | (refine wl_load25 _ rfl rfl R (w.heap.size + 1) rfl T0.reg ?_)
    | (refine wl_build27b _ _ rfl rfl R ((pc : Int) + 1) rfl rfl ?_)
    | (refine wl_alloc27 rfl rfl ?_)
    | (refine wl_store27 _ _ rfl rfl R ((pc : Int) + 1) false 0 0 0 0 _ _ rfl rfl (heap_alloc_last _ _) rfl ?_; rw [new_store]))
  clear T0
  generalize w1.alloc (.cells (effC R ((pc : Int) + 1) false 0 0 0 0) 27) = w3 at T3 E3 ⊢
  generalize w1.heap.size = q at E3 hq ⊢
  obtain ⟨x0, x1, x2, x3, x4⟩ := cellsX T3.ins
  dsimp only at x1 x2 x3 x4
  have x0 : w3.cell? ⟨w.heap.size, 0, none⟩ = some (.int .u8 2) := x0
  have rb := T3.regAt hb
  try simp only [Act.put, List.setIfInBounds_toArray, List.set_cons_zero, List.set_cons_succ]
  go_upto_region 8 with fail
  have cW := refWith_any ⟨R, (pc : Int) + 1, false, 0, 0, 0, 0⟩ a ha (N) w3
  unfold Ef.v at cW
  dsimp only at cW
  go_wp2_with (first
    | (refine wl_load27 _ rfl rfl R ((pc : Int) + 1) false 0 0 0 0 q rfl E3 ?_)
    | (go_at_call 76; refine cW.mono ?_; rintro ex w4 ⟨rfl, b4⟩; have T4 := T3.grow b4)
    | (refine wl_store27 _ _ rfl rfl (upd R a (N)) ((pc : Int) + 1) false 0 0 0 0 (w.heap.size + 1 + 1) _ rfl rfl T4.res rfl ?_))
  refine bodyPost_ret (results_cell_row rfl _ _ (w.heap.size + 1 + 1) 27 _ _ _ rfl (setRow_heap _ _ _ _ _ _ T4.res) Tryd.underlying27 rfl (by rw [effC_size]; exact info27)) rfl ?_
  exact ⟨rfl, T4.outBel _⟩

set_option maxHeartbeats 2000000 in
set_option maxRecDepth 100000 in
theorem refD4 (p m : Option Addr) (n cc mn mc : Nat) (fx : Int) (a b c : Nat) (ha : a < 16) (hb : b < 16) (N : Int) (hN : -2147483648 ≤ N ∧ N ≤ 2147483647) (R : Nat → Int) (pc : Nat) (hpc : (pc : Int) < 9223372036854775807) (w : World) :
    Calls Tryd.prog 34 #[.slice p n cc, insV 4 a b c N, .slice m mn mc, .int .i64 fx, regV R, .int .i64 pc] w fun ex w' => ex = .returned (effV (upd R a (R b)) ((pc : Int) + 1) false 0 0 0 0) ∧ Below w.heap.size w w' := by
  have T0 := trb_new w ⟨4, a, b, c, N⟩ R
  have hpw : wrap64 ((pc : Int) + 1) = (pc : Int) + 1 := by unfold wrap64; omega
  have hNi : IntKind.i64.wrap N = N := by rw [w64i, w6_id]; unfold I6; omega
  have hNi2 : wrap64 N = N := by rw [w6_id]; unfold I6; omega
  unfold insV
  go_enter Tryd.func34, Tryd.ntmps34
  go_upto_region 1 with (first
    | (refine wl_box25 _ rfl rfl R rfl ?_)
    | (refine wl_alloc27 rfl rfl ?_))
  have T0 : Trb w (((w.alloc (.cells #[.int .u8 4, .int .u8 a, .int .u8 b, .int .u8 c, .int .i32 N] 30)).alloc (.cells (regC R) 25)).alloc (.cells (effC zeroR 0 false 0 0 0 0) 27)) ⟨4, a, b, c, N⟩ R := T0
  generalize (((w.alloc (.cells #[.int .u8 4, .int .u8 a, .int .u8 b, .int .u8 c, .int .i32 N] 30)).alloc (.cells (regC R) 25)).alloc (.cells (effC zeroR 0 false 0 0 0 0) 27)) = w1 at T0 ⊢
  simp only [World.size_alloc]
  have T3 := T0.grow ((Below.refl w1.heap.size w1).alloc (Nat.le_refl _) (.cells (effC R ((pc : Int) + 1) false 0 0 0 0) 27))
  have E3 := heap_alloc_last w1 (.cells (effC R ((pc : Int) + 1) false 0 0 0 0) 27)
  have hq := T0.lt
  go_upto_region 2 with (first
    | (refine wl_load25 _ rfl rfl R (w.heap.size + 1) rfl T0.reg ?_)
    | (refine wl_build27b _ _ rfl rfl R ((pc : Int) + 1) rfl rfl ?_)
    | (refine wl_alloc27 rfl rfl ?_)
    | (refine wl_store27 _ _ rfl rfl R ((pc : Int) + 1) false 0 0 0 0 _ _ rfl rfl (heap_alloc_last _ _) rfl ?_; rw [new_store]))
  clear T0
  generalize w1.alloc (.cells (effC R ((pc : Int) + 1) false 0 0 0 0) 27) = w3 at T3 E3 ⊢
  generalize w1.heap.size = q at E3 hq ⊢
  obtain ⟨x0, x1, x2, x3, x4⟩ := cellsX T3.ins
  dsimp only at x1 x2 x3 x4
  have x0 : w3.cell? ⟨w.heap.size, 0, none⟩ = some (.int .u8 4) := x0
  have rb := T3.regAt hb
  try simp only [Act.put, List.setIfInBounds_toArray, List.set_cons_zero, List.set_cons_succ]
  go_upto_region 13 with fail
  have cW := refWith_any ⟨R, (pc : Int) + 1, false, 0, 0, 0, 0⟩ a ha (R b) w3
  unfold Ef.v at cW
  dsimp only at cW
  go_wp2_with (first
    | (refine wl_load27 _ rfl rfl R ((pc : Int) + 1) false 0 0 0 0 q rfl E3 ?_)
    | (go_at_call 76; refine cW.mono ?_; rintro ex w4 ⟨rfl, b4⟩; have T4 := T3.grow b4)
    | (refine wl_store27 _ _ rfl rfl (upd R a (R b)) ((pc : Int) + 1) false 0 0 0 0 (w.heap.size + 1 + 1) _ rfl rfl T4.res rfl ?_))
  refine bodyPost_ret (results_cell_row rfl _ _ (w.heap.size + 1 + 1) 27 _ _ _ rfl (setRow_heap _ _ _ _ _ _ T4.res) Tryd.underlying27 rfl (by rw [effC_size]; exact info27)) rfl ?_
  exact ⟨rfl, T4.outBel _⟩

set_option maxHeartbeats 2000000 in
set_option maxRecDepth 100000 in
theorem refD3 (p m : Option Addr) (n cc mn mc : Nat) (fx : Int) (a b c : Nat) (ha : a < 16) (hb : b < 16) (N : Int) (hN : -2147483648 ≤ N ∧ N ≤ 2147483647) (R : Nat → Int) (RV QV : Int) (cQ : ∀ w0, Calls Tryd.prog 77 #[.int .i64 (R a), .int .i64 4294967296] w0 fun ex w' => ex = .returned (.tuple #[.int .i64 QV, .int .i64 RV]) ∧ w' = w0) (pc : Nat) (hpc : (pc : Int) < 9223372036854775807) (w : World) :
    Calls Tryd.prog 34 #[.slice p n cc, insV 3 a b c N, .slice m mn mc, .int .i64 fx, regV R, .int .i64 pc] w fun ex w' => ex = .returned (effV (upd R a (wrap64 (wrap64 (N * 4294967296) + RV))) ((pc : Int) + 1) false 0 0 0 0) ∧ Below w.heap.size w w' := by
  have T0 := trb_new w ⟨3, a, b, c, N⟩ R
  have hpw : wrap64 ((pc : Int) + 1) = (pc : Int) + 1 := by unfold wrap64; omega
  have hNi : IntKind.i64.wrap N = N := by rw [w64i, w6_id]; unfold I6; omega
  have hNi2 : wrap64 N = N := by rw [w6_id]; unfold I6; omega
  unfold insV
  go_enter Tryd.func34, Tryd.ntmps34
  go_upto_region 1 with (first
    | (refine wl_box25 _ rfl rfl R rfl ?_)
    | (refine wl_alloc27 rfl rfl ?_))
  have T0 : Trb w (((w.alloc (.cells #[.int .u8 3, .int .u8 a, .int .u8 b, .int .u8 c, .int .i32 N] 30)).alloc (.cells (regC R) 25)).alloc (.cells (effC zeroR 0 false 0 0 0 0) 27)) ⟨3, a, b, c, N⟩ R := T0
  generalize (((w.alloc (.cells #[.int .u8 3, .int .u8 a, .int .u8 b, .int .u8 c, .int .i32 N] 30)).alloc (.cells (regC R) 25)).alloc (.cells (effC zeroR 0 false 0 0 0 0) 27)) = w1 at T0 ⊢
  simp only [World.size_alloc]
  have T3 := T0.grow ((Below.refl w1.heap.size w1).alloc (Nat.le_refl _) (.cells (effC R ((pc : Int) + 1) false 0 0 0 0) 27))
  have E3 := heap_alloc_last w1 (.cells (effC R ((pc : Int) + 1) false 0 0 0 0) 27)
  have hq := T0.lt
  go_upto_region 2 with (first
    | (refine wl_load25 _ rfl rfl R (w.heap.size + 1) rfl T0.reg ?_)
    | (refine wl_build27b _ _ rfl rfl R ((pc : Int) + 1) rfl rfl ?_)
    | (refine wl_alloc27 rfl rfl ?_)
    | (refine wl_store27 _ _ rfl rfl R ((pc : Int) + 1) false 0 0 0 0 _ _ rfl rfl (heap_alloc_last _ _) rfl ?_; rw [new_store]))
  clear T0
  generalize w1.alloc (.cells (effC R ((pc : Int) + 1) false 0 0 0 0) 27) = w3 at T3 E3 ⊢
  generalize w1.heap.size = q at E3 hq ⊢
  obtain ⟨x0, x1, x2, x3, x4⟩ := cellsX T3.ins
  dsimp only at x1 x2 x3 x4
  have x0 : w3.cell? ⟨w.heap.size, 0, none⟩ = some (.int .u8 3) := x0
  have rb := T3.regAt hb
  try simp only [Act.put, List.setIfInBounds_toArray, List.set_cons_zero, List.set_cons_succ]
  have ra := T3.regAt ha
  go_upto_region 11 with (go_at_call 77; refine (cQ _).mono ?_; rintro ex w4 ⟨rfl, hw⟩; obtain rfl := hw.symm)
  have cW := refWith_any ⟨R, (pc : Int) + 1, false, 0, 0, 0, 0⟩ a ha (wrap64 (wrap64 (N * 4294967296) + RV)) w3
  have hmul : wrap64 (N * 4294967296) = N * 4294967296 ∨ True := .inr trivial
  unfold Ef.v at cW
  dsimp only at cW
  generalize hS : wrap64 (wrap64 (N * 4294967296) + RV) = SV at *
  have hS2 : wrap64 (N * 4294967296 + RV) = SV := by rw [← hS, w6_addl]
  clear hmul
  go_wp2_with (first
    | (refine wl_load27 _ rfl rfl R ((pc : Int) + 1) false 0 0 0 0 q rfl E3 ?_)
    | (go_at_call 76; refine cW.mono ?_; rintro ex w4 ⟨rfl, b4⟩; have T4 := T3.grow b4)
    | (refine wl_store27 _ _ rfl rfl (upd R a SV) ((pc : Int) + 1) false 0 0 0 0 (w.heap.size + 1 + 1) _ rfl rfl T4.res rfl ?_))
  refine bodyPost_ret (results_cell_row rfl _ _ (w.heap.size + 1 + 1) 27 _ _ _ rfl (setRow_heap _ _ _ _ _ _ T4.res) Tryd.underlying27 rfl (by rw [effC_size]; exact info27)) rfl ?_
  exact ⟨by rw [hS]; rfl, T4.outBel _⟩

end Go.Proofs.YtijeaonldhccmaaDoor

namespace Go.Proofs.YtijeaonldhccmaaDoor
open Go.RowKit
set_option linter.unusedVariables false

set_option maxHeartbeats 2000000 in
set_option maxRecDepth 100000 in
theorem refD5 (p m : Option Addr) (n cc mn mc : Nat) (fx : Int) (a b c : Nat) (ha : a < 16) (hb : b < 16) (N : Int) (hN : -2147483648 ≤ N ∧ N ≤ 2147483647) (R : Nat → Int) (E' : Ef) (pc : Nat) (hpc : (pc : Int) < 9223372036854775807) (w : World) (hc : ∀ w0, Below w.heap.size w w0 → Calls Tryd.prog 78 #[insV 5 a b c N, .slice m mn mc, .int .i64 fx, regV R, .int .i64 pc] w0 fun ex w' => ex = .returned E'.v ∧ Below w0.heap.size w0 w') :
    Calls Tryd.prog 34 #[.slice p n cc, insV 5 a b c N, .slice m mn mc, .int .i64 fx, regV R, .int .i64 pc] w fun ex w' => ex = .returned (E'.v) ∧ Below w.heap.size w w' := by
  have T0 := trb_new w ⟨5, a, b, c, N⟩ R
  have hpw : wrap64 ((pc : Int) + 1) = (pc : Int) + 1 := by unfold wrap64; omega
  have hNi : IntKind.i64.wrap N = N := by rw [w64i, w6_id]; unfold I6; omega
  have hNi2 : wrap64 N = N := by rw [w6_id]; unfold I6; omega
  unfold insV
  go_enter Tryd.func34, Tryd.ntmps34
  go_upto_region 1 with (first
    | (refine wl_box25 _ rfl rfl R rfl ?_)
    | (refine wl_alloc27 rfl rfl ?_))
  have T0 : Trb w (((w.alloc (.cells #[.int .u8 5, .int .u8 a, .int .u8 b, .int .u8 c, .int .i32 N] 30)).alloc (.cells (regC R) 25)).alloc (.cells (effC zeroR 0 false 0 0 0 0) 27)) ⟨5, a, b, c, N⟩ R := T0
  generalize (((w.alloc (.cells #[.int .u8 5, .int .u8 a, .int .u8 b, .int .u8 c, .int .i32 N] 30)).alloc (.cells (regC R) 25)).alloc (.cells (effC zeroR 0 false 0 0 0 0) 27)) = w1 at T0 ⊢
  simp only [World.size_alloc]
  have T3 := T0.grow ((Below.refl w1.heap.size w1).alloc (Nat.le_refl _) (.cells (effC R ((pc : Int) + 1) false 0 0 0 0) 27))
  have E3 := heap_alloc_last w1 (.cells (effC R ((pc : Int) + 1) false 0 0 0 0) 27)
  have hq := T0.lt
  go_upto_region 2 with (first
    | (refine wl_load25 _ rfl rfl R (w.heap.size + 1) rfl T0.reg ?_)
    | (refine wl_build27b _ _ rfl rfl R ((pc : Int) + 1) rfl rfl ?_)
    | (refine wl_alloc27 rfl rfl ?_)
    | (refine wl_store27 _ _ rfl rfl R ((pc : Int) + 1) false 0 0 0 0 _ _ rfl rfl (heap_alloc_last _ _) rfl ?_; rw [new_store]))
  clear T0
  generalize w1.alloc (.cells (effC R ((pc : Int) + 1) false 0 0 0 0) 27) = w3 at T3 E3 ⊢
  generalize w1.heap.size = q at E3 hq ⊢
  obtain ⟨x0, x1, x2, x3, x4⟩ := cellsX T3.ins
  dsimp only at x1 x2 x3 x4
  have x0 : w3.cell? ⟨w.heap.size, 0, none⟩ = some (.int .u8 5) := x0
  have rb := T3.regAt hb
  try simp only [Act.put, List.setIfInBounds_toArray, List.set_cons_zero, List.set_cons_succ]
  go_upto_region 16 with fail
  have hC := hc w3 T3.bel
  unfold insV at hC
  go_wp2_with (first
    | (refine wl_load25 _ rfl rfl R (w.heap.size + 1) rfl T3.reg ?_)
    | (go_at_call 78; refine hC.mono ?_; rintro ex w4 ⟨rfl, b4⟩; have T4 := T3.grow b4)
    | (refine wl_store27 _ _ rfl rfl E'.R E'.pc E'.st E'.ad E'.va E'.fa E'.ca (w.heap.size + 1 + 1) _ rfl rfl T4.res rfl ?_))
  refine bodyPost_ret (results_cell_row rfl _ _ (w.heap.size + 1 + 1) 27 _ _ _ rfl (setRow_heap _ _ _ _ _ _ T4.res) Tryd.underlying27 rfl (by rw [effC_size]; exact info27)) rfl ?_
  exact ⟨rfl, T4.outBel _⟩

set_option maxHeartbeats 2000000 in
set_option maxRecDepth 100000 in
theorem refD6 (p m : Option Addr) (n cc mn mc : Nat) (fx : Int) (a b c : Nat) (ha : a < 16) (hb : b < 16) (N : Int) (hN : -2147483648 ≤ N ∧ N ≤ 2147483647) (R : Nat → Int) (E' : Ef) (pc : Nat) (hpc : (pc : Int) < 9223372036854775807) (w : World) (hc : ∀ w0, Below w.heap.size w w0 → Calls Tryd.prog 78 #[insV 6 a b c N, .slice m mn mc, .int .i64 fx, regV R, .int .i64 pc] w0 fun ex w' => ex = .returned E'.v ∧ Below w0.heap.size w0 w') :
    Calls Tryd.prog 34 #[.slice p n cc, insV 6 a b c N, .slice m mn mc, .int .i64 fx, regV R, .int .i64 pc] w fun ex w' => ex = .returned (E'.v) ∧ Below w.heap.size w w' := by
  have T0 := trb_new w ⟨6, a, b, c, N⟩ R
  have hpw : wrap64 ((pc : Int) + 1) = (pc : Int) + 1 := by unfold wrap64; omega
  have hNi : IntKind.i64.wrap N = N := by rw [w64i, w6_id]; unfold I6; omega
  have hNi2 : wrap64 N = N := by rw [w6_id]; unfold I6; omega
  unfold insV
  go_enter Tryd.func34, Tryd.ntmps34
  go_upto_region 1 with (first
    | (refine wl_box25 _ rfl rfl R rfl ?_)
    | (refine wl_alloc27 rfl rfl ?_))
  have T0 : Trb w (((w.alloc (.cells #[.int .u8 6, .int .u8 a, .int .u8 b, .int .u8 c, .int .i32 N] 30)).alloc (.cells (regC R) 25)).alloc (.cells (effC zeroR 0 false 0 0 0 0) 27)) ⟨6, a, b, c, N⟩ R := T0
  generalize (((w.alloc (.cells #[.int .u8 6, .int .u8 a, .int .u8 b, .int .u8 c, .int .i32 N] 30)).alloc (.cells (regC R) 25)).alloc (.cells (effC zeroR 0 false 0 0 0 0) 27)) = w1 at T0 ⊢
  simp only [World.size_alloc]
  have T3 := T0.grow ((Below.refl w1.heap.size w1).alloc (Nat.le_refl _) (.cells (effC R ((pc : Int) + 1) false 0 0 0 0) 27))
  have E3 := heap_alloc_last w1 (.cells (effC R ((pc : Int) + 1) false 0 0 0 0) 27)
  have hq := T0.lt
  go_upto_region 2 with (first
    | (refine wl_load25 _ rfl rfl R (w.heap.size + 1) rfl T0.reg ?_)
    | (refine wl_build27b _ _ rfl rfl R ((pc : Int) + 1) rfl rfl ?_)
    | (refine wl_alloc27 rfl rfl ?_)
    | (refine wl_store27 _ _ rfl rfl R ((pc : Int) + 1) false 0 0 0 0 _ _ rfl rfl (heap_alloc_last _ _) rfl ?_; rw [new_store]))
  clear T0
  generalize w1.alloc (.cells (effC R ((pc : Int) + 1) false 0 0 0 0) 27) = w3 at T3 E3 ⊢
  generalize w1.heap.size = q at E3 hq ⊢
  obtain ⟨x0, x1, x2, x3, x4⟩ := cellsX T3.ins
  dsimp only at x1 x2 x3 x4
  have x0 : w3.cell? ⟨w.heap.size, 0, none⟩ = some (.int .u8 6) := x0
  have rb := T3.regAt hb
  try simp only [Act.put, List.setIfInBounds_toArray, List.set_cons_zero, List.set_cons_succ]
  go_upto_region 16 with fail
  have hC := hc w3 T3.bel
  unfold insV at hC
  go_wp2_with (first
    | (refine wl_load25 _ rfl rfl R (w.heap.size + 1) rfl T3.reg ?_)
    | (go_at_call 78; refine hC.mono ?_; rintro ex w4 ⟨rfl, b4⟩; have T4 := T3.grow b4)
    | (refine wl_store27 _ _ rfl rfl E'.R E'.pc E'.st E'.ad E'.va E'.fa E'.ca (w.heap.size + 1 + 1) _ rfl rfl T4.res rfl ?_))
  refine bodyPost_ret (results_cell_row rfl _ _ (w.heap.size + 1 + 1) 27 _ _ _ rfl (setRow_heap _ _ _ _ _ _ T4.res) Tryd.underlying27 rfl (by rw [effC_size]; exact info27)) rfl ?_
  exact ⟨rfl, T4.outBel _⟩

set_option maxHeartbeats 2000000 in
set_option maxRecDepth 100000 in
theorem refD10 (p m : Option Addr) (n cc mn mc : Nat) (fx : Int) (a b c : Nat) (ha : a < 16) (hb : b < 16) (N : Int) (hN : -2147483648 ≤ N ∧ N ≤ 2147483647) (R : Nat → Int) (E' : Ef) (pc : Nat) (hpc : (pc : Int) < 9223372036854775807) (w : World) (hc : ∀ w0, Below w.heap.size w w0 → Calls Tryd.prog 79 #[insV 10 a b c N, regV R, .int .i64 pc] w0 fun ex w' => ex = .returned E'.v ∧ Below w0.heap.size w0 w') :
    Calls Tryd.prog 34 #[.slice p n cc, insV 10 a b c N, .slice m mn mc, .int .i64 fx, regV R, .int .i64 pc] w fun ex w' => ex = .returned (E'.v) ∧ Below w.heap.size w w' := by
  have T0 := trb_new w ⟨10, a, b, c, N⟩ R
  have hpw : wrap64 ((pc : Int) + 1) = (pc : Int) + 1 := by unfold wrap64; omega
  have hNi : IntKind.i64.wrap N = N := by rw [w64i, w6_id]; unfold I6; omega
  have hNi2 : wrap64 N = N := by rw [w6_id]; unfold I6; omega
  unfold insV
  go_enter Tryd.func34, Tryd.ntmps34
  go_upto_region 1 with (first
    | (refine wl_box25 _ rfl rfl R rfl ?_)
    | (refine wl_alloc27 rfl rfl ?_))
  have T0 : Trb w (((w.alloc (.cells #[.int .u8 10, .int .u8 a, .int .u8 b, .int .u8 c, .int .i32 N] 30)).alloc (.cells (regC R) 25)).alloc (.cells (effC zeroR 0 false 0 0 0 0) 27)) ⟨10, a, b, c, N⟩ R := T0
  generalize (((w.alloc (.cells #[.int .u8 10, .int .u8 a, .int .u8 b, .int .u8 c, .int .i32 N] 30)).alloc (.cells (regC R) 25)).alloc (.cells (effC zeroR 0 false 0 0 0 0) 27)) = w1 at T0 ⊢
  simp only [World.size_alloc]
  have T3 := T0.grow ((Below.refl w1.heap.size w1).alloc (Nat.le_refl _) (.cells (effC R ((pc : Int) + 1) false 0 0 0 0) 27))
  have E3 := heap_alloc_last w1 (.cells (effC R ((pc : Int) + 1) false 0 0 0 0) 27)
  have hq := T0.lt
  go_upto_region 2 with (first
    | (refine wl_load25 _ rfl rfl R (w.heap.size + 1) rfl T0.reg ?_)
    | (refine wl_build27b _ _ rfl rfl R ((pc : Int) + 1) rfl rfl ?_)
    | (refine wl_alloc27 rfl rfl ?_)
    | (refine wl_store27 _ _ rfl rfl R ((pc : Int) + 1) false 0 0 0 0 _ _ rfl rfl (heap_alloc_last _ _) rfl ?_; rw [new_store]))
  clear T0
  generalize w1.alloc (.cells (effC R ((pc : Int) + 1) false 0 0 0 0) 27) = w3 at T3 E3 ⊢
  generalize w1.heap.size = q at E3 hq ⊢
  obtain ⟨x0, x1, x2, x3, x4⟩ := cellsX T3.ins
  dsimp only at x1 x2 x3 x4
  have x0 : w3.cell? ⟨w.heap.size, 0, none⟩ = some (.int .u8 10) := x0
  have rb := T3.regAt hb
  try simp only [Act.put, List.setIfInBounds_toArray, List.set_cons_zero, List.set_cons_succ]
  go_upto_region 19 with fail
  have hC := hc w3 T3.bel
  unfold insV at hC
  go_wp2_with (first
    | (refine wl_load25 _ rfl rfl R (w.heap.size + 1) rfl T3.reg ?_)
    | (go_at_call 79; refine hC.mono ?_; rintro ex w4 ⟨rfl, b4⟩; have T4 := T3.grow b4)
    | (refine wl_store27 _ _ rfl rfl E'.R E'.pc E'.st E'.ad E'.va E'.fa E'.ca (w.heap.size + 1 + 1) _ rfl rfl T4.res rfl ?_))
  refine bodyPost_ret (results_cell_row rfl _ _ (w.heap.size + 1 + 1) 27 _ _ _ rfl (setRow_heap _ _ _ _ _ _ T4.res) Tryd.underlying27 rfl (by rw [effC_size]; exact info27)) rfl ?_
  exact ⟨rfl, T4.outBel _⟩

set_option maxHeartbeats 2000000 in
set_option maxRecDepth 100000 in
theorem refD11 (p m : Option Addr) (n cc mn mc : Nat) (fx : Int) (a b c : Nat) (ha : a < 16) (hb : b < 16) (N : Int) (hN : -2147483648 ≤ N ∧ N ≤ 2147483647) (R : Nat → Int) (E' : Ef) (pc : Nat) (hpc : (pc : Int) < 9223372036854775807) (w : World) (hc : ∀ w0, Below w.heap.size w w0 → Calls Tryd.prog 79 #[insV 11 a b c N, regV R, .int .i64 pc] w0 fun ex w' => ex = .returned E'.v ∧ Below w0.heap.size w0 w') :
    Calls Tryd.prog 34 #[.slice p n cc, insV 11 a b c N, .slice m mn mc, .int .i64 fx, regV R, .int .i64 pc] w fun ex w' => ex = .returned (E'.v) ∧ Below w.heap.size w w' := by
  have T0 := trb_new w ⟨11, a, b, c, N⟩ R
  have hpw : wrap64 ((pc : Int) + 1) = (pc : Int) + 1 := by unfold wrap64; omega
  have hNi : IntKind.i64.wrap N = N := by rw [w64i, w6_id]; unfold I6; omega
  have hNi2 : wrap64 N = N := by rw [w6_id]; unfold I6; omega
  unfold insV
  go_enter Tryd.func34, Tryd.ntmps34
  go_upto_region 1 with (first
    | (refine wl_box25 _ rfl rfl R rfl ?_)
    | (refine wl_alloc27 rfl rfl ?_))
  have T0 : Trb w (((w.alloc (.cells #[.int .u8 11, .int .u8 a, .int .u8 b, .int .u8 c, .int .i32 N] 30)).alloc (.cells (regC R) 25)).alloc (.cells (effC zeroR 0 false 0 0 0 0) 27)) ⟨11, a, b, c, N⟩ R := T0
  generalize (((w.alloc (.cells #[.int .u8 11, .int .u8 a, .int .u8 b, .int .u8 c, .int .i32 N] 30)).alloc (.cells (regC R) 25)).alloc (.cells (effC zeroR 0 false 0 0 0 0) 27)) = w1 at T0 ⊢
  simp only [World.size_alloc]
  have T3 := T0.grow ((Below.refl w1.heap.size w1).alloc (Nat.le_refl _) (.cells (effC R ((pc : Int) + 1) false 0 0 0 0) 27))
  have E3 := heap_alloc_last w1 (.cells (effC R ((pc : Int) + 1) false 0 0 0 0) 27)
  have hq := T0.lt
  go_upto_region 2 with (first
    | (refine wl_load25 _ rfl rfl R (w.heap.size + 1) rfl T0.reg ?_)
    | (refine wl_build27b _ _ rfl rfl R ((pc : Int) + 1) rfl rfl ?_)
    | (refine wl_alloc27 rfl rfl ?_)
    | (refine wl_store27 _ _ rfl rfl R ((pc : Int) + 1) false 0 0 0 0 _ _ rfl rfl (heap_alloc_last _ _) rfl ?_; rw [new_store]))
  clear T0
  generalize w1.alloc (.cells (effC R ((pc : Int) + 1) false 0 0 0 0) 27) = w3 at T3 E3 ⊢
  generalize w1.heap.size = q at E3 hq ⊢
  obtain ⟨x0, x1, x2, x3, x4⟩ := cellsX T3.ins
  dsimp only at x1 x2 x3 x4
  have x0 : w3.cell? ⟨w.heap.size, 0, none⟩ = some (.int .u8 11) := x0
  have rb := T3.regAt hb
  try simp only [Act.put, List.setIfInBounds_toArray, List.set_cons_zero, List.set_cons_succ]
  go_upto_region 19 with fail
  have hC := hc w3 T3.bel
  unfold insV at hC
  go_wp2_with (first
    | (refine wl_load25 _ rfl rfl R (w.heap.size + 1) rfl T3.reg ?_)
    | (go_at_call 79; refine hC.mono ?_; rintro ex w4 ⟨rfl, b4⟩; have T4 := T3.grow b4)
    | (refine wl_store27 _ _ rfl rfl E'.R E'.pc E'.st E'.ad E'.va E'.fa E'.ca (w.heap.size + 1 + 1) _ rfl rfl T4.res rfl ?_))
  refine bodyPost_ret (results_cell_row rfl _ _ (w.heap.size + 1 + 1) 27 _ _ _ rfl (setRow_heap _ _ _ _ _ _ T4.res) Tryd.underlying27 rfl (by rw [effC_size]; exact info27)) rfl ?_
  exact ⟨rfl, T4.outBel _⟩

end Go.Proofs.YtijeaonldhccmaaDoor

namespace Go.Proofs.YtijeaonldhccmaaDoor
open Go.RowKit
set_option linter.unusedVariables false

set_option maxHeartbeats 2000000 in
set_option maxRecDepth 100000 in
theorem refD22 (p m : Option Addr) (n cc mn mc : Nat) (fx : Int) (a b c : Nat) (ha : a < 16) (hb : b < 16) (N : Int) (hN : -2147483648 ≤ N ∧ N ≤ 2147483647) (R : Nat → Int) (E' : Ef) (pc : Nat) (hpc : (pc : Int) < 9223372036854775807) (w : World) (hc : ∀ w0, Below w.heap.size w w0 → Calls Tryd.prog 81 #[.slice p n cc, insV 22 a b c N, regV R, .int .i64 pc] w0 fun ex w' => ex = .returned E'.v ∧ Below w0.heap.size w0 w') :
    Calls Tryd.prog 34 #[.slice p n cc, insV 22 a b c N, .slice m mn mc, .int .i64 fx, regV R, .int .i64 pc] w fun ex w' => ex = .returned (E'.v) ∧ Below w.heap.size w w' := by
  have T0 := trb_new w ⟨22, a, b, c, N⟩ R
  have hpw : wrap64 ((pc : Int) + 1) = (pc : Int) + 1 := by unfold wrap64; omega
  have hNi : IntKind.i64.wrap N = N := by rw [w64i, w6_id]; unfold I6; omega
  have hNi2 : wrap64 N = N := by rw [w6_id]; unfold I6; omega
  unfold insV
  go_enter Tryd.func34, Tryd.ntmps34
  go_upto_region 1 with (first
    | (refine wl_box25 _ rfl rfl R rfl ?_)
    | (refine wl_alloc27 rfl rfl ?_))
  have T0 : Trb w (((w.alloc (.cells #[.int .u8 22, .int .u8 a, .int .u8 b, .int .u8 c, .int .i32 N] 30)).alloc (.cells (regC R) 25)).alloc (.cells (effC zeroR 0 false 0 0 0 0) 27)) ⟨22, a, b, c, N⟩ R := T0
  generalize (((w.alloc (.cells #[.int .u8 22, .int .u8 a, .int .u8 b, .int .u8 c, .int .i32 N] 30)).alloc (.cells (regC R) 25)).alloc (.cells (effC zeroR 0 false 0 0 0 0) 27)) = w1 at T0 ⊢
  simp only [World.size_alloc]
  have T3 := T0.grow ((Below.refl w1.heap.size w1).alloc (Nat.le_refl _) (.cells (effC R ((pc : Int) + 1) false 0 0 0 0) 27))
  have E3 := heap_alloc_last w1 (.cells (effC R ((pc : Int) + 1) false 0 0 0 0) 27)
  have hq := T0.lt
  go_upto_region 2 with (first
    | (refine wl_load25 _ rfl rfl R (w.heap.size + 1) rfl T0.reg ?_)
    | (refine wl_build27b _ _ rfl rfl R ((pc : Int) + 1) rfl rfl ?_)
    | (refine wl_alloc27 rfl rfl ?_)
    | (refine wl_store27 _ _ rfl rfl R ((pc : Int) + 1) false 0 0 0 0 _ _ rfl rfl (heap_alloc_last _ _) rfl ?_; rw [new_store]))
  clear T0
  generalize w1.alloc (.cells (effC R ((pc : Int) + 1) false 0 0 0 0) 27) = w3 at T3 E3 ⊢
  generalize w1.heap.size = q at E3 hq ⊢
  obtain ⟨x0, x1, x2, x3, x4⟩ := cellsX T3.ins
  dsimp only at x1 x2 x3 x4
  have x0 : w3.cell? ⟨w.heap.size, 0, none⟩ = some (.int .u8 22) := x0
  have rb := T3.regAt hb
  try simp only [Act.put, List.setIfInBounds_toArray, List.set_cons_zero, List.set_cons_succ]
  go_upto_region 27 with fail
  have hC := hc w3 T3.bel
  unfold insV at hC
  go_wp2_with (first
    | (refine wl_load25 _ rfl rfl R (w.heap.size + 1) rfl T3.reg ?_)
    | (go_at_call 81; refine hC.mono ?_; rintro ex w4 ⟨rfl, b4⟩; have T4 := T3.grow b4)
    | (refine wl_store27 _ _ rfl rfl E'.R E'.pc E'.st E'.ad E'.va E'.fa E'.ca (w.heap.size + 1 + 1) _ rfl rfl T4.res rfl ?_))
  refine bodyPost_ret (results_cell_row rfl _ _ (w.heap.size + 1 + 1) 27 _ _ _ rfl (setRow_heap _ _ _ _ _ _ T4.res) Tryd.underlying27 rfl (by rw [effC_size]; exact info27)) rfl ?_
  exact ⟨rfl, T4.outBel _⟩

set_option maxHeartbeats 2000000 in
set_option maxRecDepth 100000 in
theorem refD23 (p m : Option Addr) (n cc mn mc : Nat) (fx : Int) (a b c : Nat) (ha : a < 16) (hb : b < 16) (N : Int) (hN : -2147483648 ≤ N ∧ N ≤ 2147483647) (R : Nat → Int) (E' : Ef) (pc : Nat) (hpc : (pc : Int) < 9223372036854775807) (w : World) (hc : ∀ w0, Below w.heap.size w w0 → Calls Tryd.prog 81 #[.slice p n cc, insV 23 a b c N, regV R, .int .i64 pc] w0 fun ex w' => ex = .returned E'.v ∧ Below w0.heap.size w0 w') :
    Calls Tryd.prog 34 #[.slice p n cc, insV 23 a b c N, .slice m mn mc, .int .i64 fx, regV R, .int .i64 pc] w fun ex w' => ex = .returned (E'.v) ∧ Below w.heap.size w w' := by
  have T0 := trb_new w ⟨23, a, b, c, N⟩ R
  have hpw : wrap64 ((pc : Int) + 1) = (pc : Int) + 1 := by unfold wrap64; omega
  have hNi : IntKind.i64.wrap N = N := by rw [w64i, w6_id]; unfold I6; omega
  have hNi2 : wrap64 N = N := by rw [w6_id]; unfold I6; omega
  unfold insV
  go_enter Tryd.func34, Tryd.ntmps34
  go_upto_region 1 with (first
    | (refine wl_box25 _ rfl rfl R rfl ?_)
    | (refine wl_alloc27 rfl rfl ?_))
  have T0 : Trb w (((w.alloc (.cells #[.int .u8 23, .int .u8 a, .int .u8 b, .int .u8 c, .int .i32 N] 30)).alloc (.cells (regC R) 25)).alloc (.cells (effC zeroR 0 false 0 0 0 0) 27)) ⟨23, a, b, c, N⟩ R := T0
  generalize (((w.alloc (.cells #[.int .u8 23, .int .u8 a, .int .u8 b, .int .u8 c, .int .i32 N] 30)).alloc (.cells (regC R) 25)).alloc (.cells (effC zeroR 0 false 0 0 0 0) 27)) = w1 at T0 ⊢
  simp only [World.size_alloc]
  have T3 := T0.grow ((Below.refl w1.heap.size w1).alloc (Nat.le_refl _) (.cells (effC R ((pc : Int) + 1) false 0 0 0 0) 27))
  have E3 := heap_alloc_last w1 (.cells (effC R ((pc : Int) + 1) false 0 0 0 0) 27)
  have hq := T0.lt
  go_upto_region 2 with (first
    | (refine wl_load25 _ rfl rfl R (w.heap.size + 1) rfl T0.reg ?_)
    | (refine wl_build27b _ _ rfl rfl R ((pc : Int) + 1) rfl rfl ?_)
    | (refine wl_alloc27 rfl rfl ?_)
    | (refine wl_store27 _ _ rfl rfl R ((pc : Int) + 1) false 0 0 0 0 _ _ rfl rfl (heap_alloc_last _ _) rfl ?_; rw [new_store]))
  clear T0
  generalize w1.alloc (.cells (effC R ((pc : Int) + 1) false 0 0 0 0) 27) = w3 at T3 E3 ⊢
  generalize w1.heap.size = q at E3 hq ⊢
  obtain ⟨x0, x1, x2, x3, x4⟩ := cellsX T3.ins
  dsimp only at x1 x2 x3 x4
  have x0 : w3.cell? ⟨w.heap.size, 0, none⟩ = some (.int .u8 23) := x0
  have rb := T3.regAt hb
  try simp only [Act.put, List.setIfInBounds_toArray, List.set_cons_zero, List.set_cons_succ]
  go_upto_region 27 with fail
  have hC := hc w3 T3.bel
  unfold insV at hC
  go_wp2_with (first
    | (refine wl_load25 _ rfl rfl R (w.heap.size + 1) rfl T3.reg ?_)
    | (go_at_call 81; refine hC.mono ?_; rintro ex w4 ⟨rfl, b4⟩; have T4 := T3.grow b4)
    | (refine wl_store27 _ _ rfl rfl E'.R E'.pc E'.st E'.ad E'.va E'.fa E'.ca (w.heap.size + 1 + 1) _ rfl rfl T4.res rfl ?_))
  refine bodyPost_ret (results_cell_row rfl _ _ (w.heap.size + 1 + 1) 27 _ _ _ rfl (setRow_heap _ _ _ _ _ _ T4.res) Tryd.underlying27 rfl (by rw [effC_size]; exact info27)) rfl ?_
  exact ⟨rfl, T4.outBel _⟩

set_option maxHeartbeats 2000000 in
set_option maxRecDepth 100000 in
theorem refD24 (p m : Option Addr) (n cc mn mc : Nat) (fx : Int) (a b c : Nat) (ha : a < 16) (hb : b < 16) (N : Int) (hN : -2147483648 ≤ N ∧ N ≤ 2147483647) (R : Nat → Int) (E' : Ef) (pc : Nat) (hpc : (pc : Int) < 9223372036854775807) (w : World) (hc : ∀ w0, Below w.heap.size w w0 → Calls Tryd.prog 81 #[.slice p n cc, insV 24 a b c N, regV R, .int .i64 pc] w0 fun ex w' => ex = .returned E'.v ∧ Below w0.heap.size w0 w') :
    Calls Tryd.prog 34 #[.slice p n cc, insV 24 a b c N, .slice m mn mc, .int .i64 fx, regV R, .int .i64 pc] w fun ex w' => ex = .returned (E'.v) ∧ Below w.heap.size w w' := by
  have T0 := trb_new w ⟨24, a, b, c, N⟩ R
  have hpw : wrap64 ((pc : Int) + 1) = (pc : Int) + 1 := by unfold wrap64; omega
  have hNi : IntKind.i64.wrap N = N := by rw [w64i, w6_id]; unfold I6; omega
  have hNi2 : wrap64 N = N := by rw [w6_id]; unfold I6; omega
  unfold insV
  go_enter Tryd.func34, Tryd.ntmps34
  go_upto_region 1 with (first
    | (refine wl_box25 _ rfl rfl R rfl ?_)
    | (refine wl_alloc27 rfl rfl ?_))
  have T0 : Trb w (((w.alloc (.cells #[.int .u8 24, .int .u8 a, .int .u8 b, .int .u8 c, .int .i32 N] 30)).alloc (.cells (regC R) 25)).alloc (.cells (effC zeroR 0 false 0 0 0 0) 27)) ⟨24, a, b, c, N⟩ R := T0
  generalize (((w.alloc (.cells #[.int .u8 24, .int .u8 a, .int .u8 b, .int .u8 c, .int .i32 N] 30)).alloc (.cells (regC R) 25)).alloc (.cells (effC zeroR 0 false 0 0 0 0) 27)) = w1 at T0 ⊢
  simp only [World.size_alloc]
  have T3 := T0.grow ((Below.refl w1.heap.size w1).alloc (Nat.le_refl _) (.cells (effC R ((pc : Int) + 1) false 0 0 0 0) 27))
  have E3 := heap_alloc_last w1 (.cells (effC R ((pc : Int) + 1) false 0 0 0 0) 27)
  have hq := T0.lt
  go_upto_region 2 with (first
    | (refine wl_load25 _ rfl rfl R (w.heap.size + 1) rfl T0.reg ?_)
    | (refine wl_build27b _ _ rfl rfl R ((pc : Int) + 1) rfl rfl ?_)
    | (refine wl_alloc27 rfl rfl ?_)
    | (refine wl_store27 _ _ rfl rfl R ((pc : Int) + 1) false 0 0 0 0 _ _ rfl rfl (heap_alloc_last _ _) rfl ?_; rw [new_store]))
  clear T0
  generalize w1.alloc (.cells (effC R ((pc : Int) + 1) false 0 0 0 0) 27) = w3 at T3 E3 ⊢
  generalize w1.heap.size = q at E3 hq ⊢
  obtain ⟨x0, x1, x2, x3, x4⟩ := cellsX T3.ins
  dsimp only at x1 x2 x3 x4
  have x0 : w3.cell? ⟨w.heap.size, 0, none⟩ = some (.int .u8 24) := x0
  have rb := T3.regAt hb
  try simp only [Act.put, List.setIfInBounds_toArray, List.set_cons_zero, List.set_cons_succ]
  go_upto_region 27 with fail
  have hC := hc w3 T3.bel
  unfold insV at hC
  go_wp2_with (first
    | (refine wl_load25 _ rfl rfl R (w.heap.size + 1) rfl T3.reg ?_)
    | (go_at_call 81; refine hC.mono ?_; rintro ex w4 ⟨rfl, b4⟩; have T4 := T3.grow b4)
    | (refine wl_store27 _ _ rfl rfl E'.R E'.pc E'.st E'.ad E'.va E'.fa E'.ca (w.heap.size + 1 + 1) _ rfl rfl T4.res rfl ?_))
  refine bodyPost_ret (results_cell_row rfl _ _ (w.heap.size + 1 + 1) 27 _ _ _ rfl (setRow_heap _ _ _ _ _ _ T4.res) Tryd.underlying27 rfl (by rw [effC_size]; exact info27)) rfl ?_
  exact ⟨rfl, T4.outBel _⟩

set_option maxHeartbeats 2000000 in
set_option maxRecDepth 100000 in
theorem refD25 (p m : Option Addr) (n cc mn mc : Nat) (fx : Int) (a b c : Nat) (ha : a < 16) (hb : b < 16) (N : Int) (hN : -2147483648 ≤ N ∧ N ≤ 2147483647) (R : Nat → Int) (E' : Ef) (pc : Nat) (hpc : (pc : Int) < 9223372036854775807) (w : World) (hc : ∀ w0, Below w.heap.size w w0 → Calls Tryd.prog 81 #[.slice p n cc, insV 25 a b c N, regV R, .int .i64 pc] w0 fun ex w' => ex = .returned E'.v ∧ Below w0.heap.size w0 w') :
    Calls Tryd.prog 34 #[.slice p n cc, insV 25 a b c N, .slice m mn mc, .int .i64 fx, regV R, .int .i64 pc] w fun ex w' => ex = .returned (E'.v) ∧ Below w.heap.size w w' := by
  have T0 := trb_new w ⟨25, a, b, c, N⟩ R
  have hpw : wrap64 ((pc : Int) + 1) = (pc : Int) + 1 := by unfold wrap64; omega
  have hNi : IntKind.i64.wrap N = N := by rw [w64i, w6_id]; unfold I6; omega
  have hNi2 : wrap64 N = N := by rw [w6_id]; unfold I6; omega
  unfold insV
  go_enter Tryd.func34, Tryd.ntmps34
  go_upto_region 1 with (first
    | (refine wl_box25 _ rfl rfl R rfl ?_)
    | (refine wl_alloc27 rfl rfl ?_))
  have T0 : Trb w (((w.alloc (.cells #[.int .u8 25, .int .u8 a, .int .u8 b, .int .u8 c, .int .i32 N] 30)).alloc (.cells (regC R) 25)).alloc (.cells (effC zeroR 0 false 0 0 0 0) 27)) ⟨25, a, b, c, N⟩ R := T0
  generalize (((w.alloc (.cells #[.int .u8 25, .int .u8 a, .int .u8 b, .int .u8 c, .int .i32 N] 30)).alloc (.cells (regC R) 25)).alloc (.cells (effC zeroR 0 false 0 0 0 0) 27)) = w1 at T0 ⊢
  simp only [World.size_alloc]
  have T3 := T0.grow ((Below.refl w1.heap.size w1).alloc (Nat.le_refl _) (.cells (effC R ((pc : Int) + 1) false 0 0 0 0) 27))
  have E3 := heap_alloc_last w1 (.cells (effC R ((pc : Int) + 1) false 0 0 0 0) 27)
  have hq := T0.lt
  go_upto_region 2 with (first
    | (refine wl_load25 _ rfl rfl R (w.heap.size + 1) rfl T0.reg ?_)
    | (refine wl_build27b _ _ rfl rfl R ((pc : Int) + 1) rfl rfl ?_)
    | (refine wl_alloc27 rfl rfl ?_)
    | (refine wl_store27 _ _ rfl rfl R ((pc : Int) + 1) false 0 0 0 0 _ _ rfl rfl (heap_alloc_last _ _) rfl ?_; rw [new_store]))
  clear T0
  generalize w1.alloc (.cells (effC R ((pc : Int) + 1) false 0 0 0 0) 27) = w3 at T3 E3 ⊢
  generalize w1.heap.size = q at E3 hq ⊢
  obtain ⟨x0, x1, x2, x3, x4⟩ := cellsX T3.ins
  dsimp only at x1 x2 x3 x4
  have x0 : w3.cell? ⟨w.heap.size, 0, none⟩ = some (.int .u8 25) := x0
  have rb := T3.regAt hb
  try simp only [Act.put, List.setIfInBounds_toArray, List.set_cons_zero, List.set_cons_succ]
  go_upto_region 27 with fail
  have hC := hc w3 T3.bel
  unfold insV at hC
  go_wp2_with (first
    | (refine wl_load25 _ rfl rfl R (w.heap.size + 1) rfl T3.reg ?_)
    | (go_at_call 81; refine hC.mono ?_; rintro ex w4 ⟨rfl, b4⟩; have T4 := T3.grow b4)
    | (refine wl_store27 _ _ rfl rfl E'.R E'.pc E'.st E'.ad E'.va E'.fa E'.ca (w.heap.size + 1 + 1) _ rfl rfl T4.res rfl ?_))
  refine bodyPost_ret (results_cell_row rfl _ _ (w.heap.size + 1 + 1) 27 _ _ _ rfl (setRow_heap _ _ _ _ _ _ T4.res) Tryd.underlying27 rfl (by rw [effC_size]; exact info27)) rfl ?_
  exact ⟨rfl, T4.outBel _⟩

set_option maxHeartbeats 2000000 in
set_option maxRecDepth 100000 in
theorem refD26 (p m : Option Addr) (n cc mn mc : Nat) (fx : Int) (a b c : Nat) (ha : a < 16) (hb : b < 16) (N : Int) (hN : -2147483648 ≤ N ∧ N ≤ 2147483647) (R : Nat → Int) (E' : Ef) (pc : Nat) (hpc : (pc : Int) < 9223372036854775807) (w : World) (hc : ∀ w0, Below w.heap.size w w0 → Calls Tryd.prog 81 #[.slice p n cc, insV 26 a b c N, regV R, .int .i64 pc] w0 fun ex w' => ex = .returned E'.v ∧ Below w0.heap.size w0 w') :
    Calls Tryd.prog 34 #[.slice p n cc, insV 26 a b c N, .slice m mn mc, .int .i64 fx, regV R, .int .i64 pc] w fun ex w' => ex = .returned (E'.v) ∧ Below w.heap.size w w' := by
  have T0 := trb_new w ⟨26, a, b, c, N⟩ R
  have hpw : wrap64 ((pc : Int) + 1) = (pc : Int) + 1 := by unfold wrap64; omega
  have hNi : IntKind.i64.wrap N = N := by rw [w64i, w6_id]; unfold I6; omega
  have hNi2 : wrap64 N = N := by rw [w6_id]; unfold I6; omega
  unfold insV
  go_enter Tryd.func34, Tryd.ntmps34
  go_upto_region 1 with (first
    | (refine wl_box25 _ rfl rfl R rfl ?_)
    | (refine wl_alloc27 rfl rfl ?_))
  have T0 : Trb w (((w.alloc (.cells #[.int .u8 26, .int .u8 a, .int .u8 b, .int .u8 c, .int .i32 N] 30)).alloc (.cells (regC R) 25)).alloc (.cells (effC zeroR 0 false 0 0 0 0) 27)) ⟨26, a, b, c, N⟩ R := T0
  generalize (((w.alloc (.cells #[.int .u8 26, .int .u8 a, .int .u8 b, .int .u8 c, .int .i32 N] 30)).alloc (.cells (regC R) 25)).alloc (.cells (effC zeroR 0 false 0 0 0 0) 27)) = w1 at T0 ⊢
  simp only [World.size_alloc]
  have T3 := T0.grow ((Below.refl w1.heap.size w1).alloc (Nat.le_refl _) (.cells (effC R ((pc : Int) + 1) false 0 0 0 0) 27))
  have E3 := heap_alloc_last w1 (.cells (effC R ((pc : Int) + 1) false 0 0 0 0) 27)
  have hq := T0.lt
  go_upto_region 2 with (first
    | (refine wl_load25 _ rfl rfl R (w.heap.size + 1) rfl T0.reg ?_)
    | (refine wl_build27b _ _ rfl rfl R ((pc : Int) + 1) rfl rfl ?_)
    | (refine wl_alloc27 rfl rfl ?_)
    | (refine wl_store27 _ _ rfl rfl R ((pc : Int) + 1) false 0 0 0 0 _ _ rfl rfl (heap_alloc_last _ _) rfl ?_; rw [new_store]))
  clear T0
  generalize w1.alloc (.cells (effC R ((pc : Int) + 1) false 0 0 0 0) 27) = w3 at T3 E3 ⊢
  generalize w1.heap.size = q at E3 hq ⊢
  obtain ⟨x0, x1, x2, x3, x4⟩ := cellsX T3.ins
  dsimp only at x1 x2 x3 x4
  have x0 : w3.cell? ⟨w.heap.size, 0, none⟩ = some (.int .u8 26) := x0
  have rb := T3.regAt hb
  try simp only [Act.put, List.setIfInBounds_toArray, List.set_cons_zero, List.set_cons_succ]
  go_upto_region 27 with fail
  have hC := hc w3 T3.bel
  unfold insV at hC
  go_wp2_with (first
    | (refine wl_load25 _ rfl rfl R (w.heap.size + 1) rfl T3.reg ?_)
    | (go_at_call 81; refine hC.mono ?_; rintro ex w4 ⟨rfl, b4⟩; have T4 := T3.grow b4)
    | (refine wl_store27 _ _ rfl rfl E'.R E'.pc E'.st E'.ad E'.va E'.fa E'.ca (w.heap.size + 1 + 1) _ rfl rfl T4.res rfl ?_))
  refine bodyPost_ret (results_cell_row rfl _ _ (w.heap.size + 1 + 1) 27 _ _ _ rfl (setRow_heap _ _ _ _ _ _ T4.res) Tryd.underlying27 rfl (by rw [effC_size]; exact info27)) rfl ?_
  exact ⟨rfl, T4.outBel _⟩

end Go.Proofs.YtijeaonldhccmaaDoor

namespace Go.Proofs.YtijeaonldhccmaaDoor
open Go.RowKit
set_option linter.unusedVariables false

set_option maxHeartbeats 2000000 in
set_option maxRecDepth 100000 in
theorem refD27lo (p m : Option Addr) (n cc mn mc : Nat) (fx : Int) (a b c : Nat) (ha : a < 16) (hb : b < 16) (N : Int) (hN : -2147483648 ≤ N ∧ N ≤ 2147483647) (R : Nat → Int) (h1 : N < 1) (pc : Nat) (hpc : (pc : Int) < 9223372036854775807) (w : World) :
    Calls Tryd.prog 34 #[.slice p n cc, insV 27 a b c N, .slice m mn mc, .int .i64 fx, regV R, .int .i64 pc] w fun ex w' => ex = .returned (effV R ((pc : Int) + 1) false 0 0 5 0) ∧ Below w.heap.size w w' := by
  have T0 := trb_new w ⟨27, a, b, c, N⟩ R
  have hpw : wrap64 ((pc : Int) + 1) = (pc : Int) + 1 := by unfold wrap64; omega
  have hNi : IntKind.i64.wrap N = N := by rw [w64i, w6_id]; unfold I6; omega
  have hNi2 : wrap64 N = N := by rw [w6_id]; unfold I6; omega
  unfold insV
  go_enter Tryd.func34, Tryd.ntmps34
  go_upto_region 1 with (first
    | (refine wl_box25 _ rfl rfl R rfl ?_)
    | (refine wl_alloc27 rfl rfl ?_))
  have T0 : Trb w (((w.alloc (.cells #[.int .u8 27, .int .u8 a, .int .u8 b, .int .u8 c, .int .i32 N] 30)).alloc (.cells (regC R) 25)).alloc (.cells (effC zeroR 0 false 0 0 0 0) 27)) ⟨27, a, b, c, N⟩ R := T0
  generalize (((w.alloc (.cells #[.int .u8 27, .int .u8 a, .int .u8 b, .int .u8 c, .int .i32 N] 30)).alloc (.cells (regC R) 25)).alloc (.cells (effC zeroR 0 false 0 0 0 0) 27)) = w1 at T0 ⊢
  simp only [World.size_alloc]
  have T3 := T0.grow ((Below.refl w1.heap.size w1).alloc (Nat.le_refl _) (.cells (effC R ((pc : Int) + 1) false 0 0 0 0) 27))
  have E3 := heap_alloc_last w1 (.cells (effC R ((pc : Int) + 1) false 0 0 0 0) 27)
  have hq := T0.lt
  go_upto_region 2 with (first
    | (refine wl_load25 _ rfl rfl R (w.heap.size + 1) rfl T0.reg ?_)
    | (refine wl_build27b _ _ rfl rfl R ((pc : Int) + 1) rfl rfl ?_)
    | (refine wl_alloc27 rfl rfl ?_)
    | (refine wl_store27 _ _ rfl rfl R ((pc : Int) + 1) false 0 0 0 0 _ _ rfl rfl (heap_alloc_last _ _) rfl ?_; rw [new_store]))
  clear T0
  generalize w1.alloc (.cells (effC R ((pc : Int) + 1) false 0 0 0 0) 27) = w3 at T3 E3 ⊢
  generalize w1.heap.size = q at E3 hq ⊢
  obtain ⟨x0, x1, x2, x3, x4⟩ := cellsX T3.ins
  dsimp only at x1 x2 x3 x4
  have x0 : w3.cell? ⟨w.heap.size, 0, none⟩ = some (.int .u8 27) := x0
  have rb := T3.regAt hb
  try simp only [Act.put, List.setIfInBounds_toArray, List.set_cons_zero, List.set_cons_succ]
  go_upto_region 30 with fail
  have cF := refFault_any R pc hpc 5 w3
  unfold Ef.v at cF
  dsimp only at cF
  go_wp2_with (first
    | (refine wl_load25 _ rfl rfl R (w.heap.size + 1) rfl T3.reg ?_)
    | (go_at_call 33; refine cF.mono ?_; rintro ex w4 ⟨rfl, b4⟩; have T4 := T3.grow b4)
    | (refine wl_store27 _ _ rfl rfl R ((pc : Int) + 1) false 0 0 5 0 (w.heap.size + 1 + 1) _ rfl rfl T4.res rfl ?_))
  refine bodyPost_ret (results_cell_row rfl _ _ (w.heap.size + 1 + 1) 27 _ _ _ rfl (setRow_heap _ _ _ _ _ _ T4.res) Tryd.underlying27 rfl (by rw [effC_size]; exact info27)) rfl ?_
  exact ⟨rfl, T4.outBel _⟩

set_option maxHeartbeats 2000000 in
set_option maxRecDepth 100000 in
theorem refD27hi (p m : Option Addr) (n cc mn mc : Nat) (fx : Int) (a b c : Nat) (ha : a < 16) (hb : b < 16) (N : Int) (hN : -2147483648 ≤ N ∧ N ≤ 2147483647) (R : Nat → Int) (h1 : ¬ N < 1) (h2 : N > 27) (pc : Nat) (hpc : (pc : Int) < 9223372036854775807) (w : World) :
    Calls Tryd.prog 34 #[.slice p n cc, insV 27 a b c N, .slice m mn mc, .int .i64 fx, regV R, .int .i64 pc] w fun ex w' => ex = .returned (effV R ((pc : Int) + 1) false 0 0 5 0) ∧ Below w.heap.size w w' := by
  have T0 := trb_new w ⟨27, a, b, c, N⟩ R
  have hpw : wrap64 ((pc : Int) + 1) = (pc : Int) + 1 := by unfold wrap64; omega
  have hNi : IntKind.i64.wrap N = N := by rw [w64i, w6_id]; unfold I6; omega
  have hNi2 : wrap64 N = N := by rw [w6_id]; unfold I6; omega
  unfold insV
  go_enter Tryd.func34, Tryd.ntmps34
  go_upto_region 1 with (first
    | (refine wl_box25 _ rfl rfl R rfl ?_)
    | (refine wl_alloc27 rfl rfl ?_))
  have T0 : Trb w (((w.alloc (.cells #[.int .u8 27, .int .u8 a, .int .u8 b, .int .u8 c, .int .i32 N] 30)).alloc (.cells (regC R) 25)).alloc (.cells (effC zeroR 0 false 0 0 0 0) 27)) ⟨27, a, b, c, N⟩ R := T0
  generalize (((w.alloc (.cells #[.int .u8 27, .int .u8 a, .int .u8 b, .int .u8 c, .int .i32 N] 30)).alloc (.cells (regC R) 25)).alloc (.cells (effC zeroR 0 false 0 0 0 0) 27)) = w1 at T0 ⊢
  simp only [World.size_alloc]
  have T3 := T0.grow ((Below.refl w1.heap.size w1).alloc (Nat.le_refl _) (.cells (effC R ((pc : Int) + 1) false 0 0 0 0) 27))
  have E3 := heap_alloc_last w1 (.cells (effC R ((pc : Int) + 1) false 0 0 0 0) 27)
  have hq := T0.lt
  go_upto_region 2 with (first
    | (refine wl_load25 _ rfl rfl R (w.heap.size + 1) rfl T0.reg ?_)
    | (refine wl_build27b _ _ rfl rfl R ((pc : Int) + 1) rfl rfl ?_)
    | (refine wl_alloc27 rfl rfl ?_)
    | (refine wl_store27 _ _ rfl rfl R ((pc : Int) + 1) false 0 0 0 0 _ _ rfl rfl (heap_alloc_last _ _) rfl ?_; rw [new_store]))
  clear T0
  generalize w1.alloc (.cells (effC R ((pc : Int) + 1) false 0 0 0 0) 27) = w3 at T3 E3 ⊢
  generalize w1.heap.size = q at E3 hq ⊢
  obtain ⟨x0, x1, x2, x3, x4⟩ := cellsX T3.ins
  dsimp only at x1 x2 x3 x4
  have x0 : w3.cell? ⟨w.heap.size, 0, none⟩ = some (.int .u8 27) := x0
  have rb := T3.regAt hb
  try simp only [Act.put, List.setIfInBounds_toArray, List.set_cons_zero, List.set_cons_succ]
  go_upto_region 30 with fail
  have cF := refFault_any R pc hpc 5 w3
  unfold Ef.v at cF
  dsimp only at cF
  go_wp2_with (first
    | (refine wl_load25 _ rfl rfl R (w.heap.size + 1) rfl T3.reg ?_)
    | (go_at_call 33; refine cF.mono ?_; rintro ex w4 ⟨rfl, b4⟩; have T4 := T3.grow b4)
    | (refine wl_store27 _ _ rfl rfl R ((pc : Int) + 1) false 0 0 5 0 (w.heap.size + 1 + 1) _ rfl rfl T4.res rfl ?_))
  refine bodyPost_ret (results_cell_row rfl _ _ (w.heap.size + 1 + 1) 27 _ _ _ rfl (setRow_heap _ _ _ _ _ _ T4.res) Tryd.underlying27 rfl (by rw [effC_size]; exact info27)) rfl ?_
  exact ⟨rfl, T4.outBel _⟩

set_option maxHeartbeats 2000000 in
set_option maxRecDepth 100000 in
theorem refD27 (p m : Option Addr) (n cc mn mc : Nat) (fx : Int) (a b c : Nat) (ha : a < 16) (hb : b < 16) (N : Int) (hN : -2147483648 ≤ N ∧ N ≤ 2147483647) (R : Nat → Int) (h1 : ¬ N < 1) (h2 : ¬ N > 27) (pc : Nat) (hpc : (pc : Int) < 9223372036854775807) (w : World) :
    Calls Tryd.prog 34 #[.slice p n cc, insV 27 a b c N, .slice m mn mc, .int .i64 fx, regV R, .int .i64 pc] w fun ex w' => ex = .returned (effV R ((pc : Int) + 1) false 0 0 0 N) ∧ Below w.heap.size w w' := by
  have T0 := trb_new w ⟨27, a, b, c, N⟩ R
  have hpw : wrap64 ((pc : Int) + 1) = (pc : Int) + 1 := by unfold wrap64; omega
  have hNi : IntKind.i64.wrap N = N := by rw [w64i, w6_id]; unfold I6; omega
  have hNi2 : wrap64 N = N := by rw [w6_id]; unfold I6; omega
  unfold insV
  go_enter Tryd.func34, Tryd.ntmps34
  go_upto_region 1 with (first
    | (refine wl_box25 _ rfl rfl R rfl ?_)
    | (refine wl_alloc27 rfl rfl ?_))
  have T0 : Trb w (((w.alloc (.cells #[.int .u8 27, .int .u8 a, .int .u8 b, .int .u8 c, .int .i32 N] 30)).alloc (.cells (regC R) 25)).alloc (.cells (effC zeroR 0 false 0 0 0 0) 27)) ⟨27, a, b, c, N⟩ R := T0
  generalize (((w.alloc (.cells #[.int .u8 27, .int .u8 a, .int .u8 b, .int .u8 c, .int .i32 N] 30)).alloc (.cells (regC R) 25)).alloc (.cells (effC zeroR 0 false 0 0 0 0) 27)) = w1 at T0 ⊢
  simp only [World.size_alloc]
  have T3 := T0.grow ((Below.refl w1.heap.size w1).alloc (Nat.le_refl _) (.cells (effC R ((pc : Int) + 1) false 0 0 0 0) 27))
  have E3 := heap_alloc_last w1 (.cells (effC R ((pc : Int) + 1) false 0 0 0 0) 27)
  have hq := T0.lt
  go_upto_region 2 with (first
    | (refine wl_load25 _ rfl rfl R (w.heap.size + 1) rfl T0.reg ?_)
    | (refine wl_build27b _ _ rfl rfl R ((pc : Int) + 1) rfl rfl ?_)
    | (refine wl_alloc27 rfl rfl ?_)
    | (refine wl_store27 _ _ rfl rfl R ((pc : Int) + 1) false 0 0 0 0 _ _ rfl rfl (heap_alloc_last _ _) rfl ?_; rw [new_store]))
  clear T0
  generalize w1.alloc (.cells (effC R ((pc : Int) + 1) false 0 0 0 0) 27) = w3 at T3 E3 ⊢
  generalize w1.heap.size = q at E3 hq ⊢
  obtain ⟨x0, x1, x2, x3, x4⟩ := cellsX T3.ins
  dsimp only at x1 x2 x3 x4
  have x0 : w3.cell? ⟨w.heap.size, 0, none⟩ = some (.int .u8 27) := x0
  have rb := T3.regAt hb
  try simp only [Act.put, List.setIfInBounds_toArray, List.set_cons_zero, List.set_cons_succ]
  obtain ⟨e16, e17, e18, e19, e20, e21, z⟩ := c21 E3
  have z21 := z 21
  have E4 : (w3.setCell ⟨q, 21, none⟩ (.int .i64 N)).heap[q]? = some (.cells (effC R ((pc : Int) + 1) false 0 0 0 N) 27) := heap_setCell_eq E3 _
  have T4 := T3.turn (kept_setCell w3 ⟨q, 21, none⟩ (.int .i64 N)) (fun g hg => by subst hg; exact hq)
  go_upto_region 32 with fail
  generalize w3.setCell ⟨q, 21, none⟩ (.int .i64 N) = w5 at E4 T4 ⊢
  clear x0 x1 x2 x3 x4 rb e16 e17 e18 e19 e20 e21 z z21 T3 E3
  go_wp2_with (first
    | (refine wl_load27 _ rfl rfl R ((pc : Int) + 1) false 0 0 0 N q rfl E4 ?_)
    | (refine wl_store27 _ _ rfl rfl R ((pc : Int) + 1) false 0 0 0 N (w.heap.size + 1 + 1) _ rfl rfl T4.res rfl ?_))
  refine bodyPost_ret (results_cell_row rfl _ _ (w.heap.size + 1 + 1) 27 _ _ _ rfl (setRow_heap _ _ _ _ _ _ T4.res) Tryd.underlying27 rfl (by rw [effC_size]; exact info27)) rfl ?_
  exact ⟨rfl, T4.outBel _⟩

end Go.Proofs.YtijeaonldhccmaaDoor

namespace Go.Proofs.YtijeaonldhccmaaDoor
open Go.RowKit
set_option linter.unusedVariables false

set_option maxHeartbeats 2000000 in
set_option maxRecDepth 100000 in
theorem refD18 (p m : Option Addr) (n cc mn mc : Nat) (fx : Int) (a b c : Nat) (ha : a < 16) (hb : b < 16) (N : Int) (hN : -2147483648 ≤ N ∧ N ≤ 2147483647) (R : Nat → Int) (RKV : Int) (cK : ∀ w0, Calls Tryd.prog 80 #[.int .u8 18, .int .i64 (R b), .int .i64 N] w0 fun ex w' => ex = .returned (.int .i64 RKV) ∧ w' = w0) (pc : Nat) (hpc : (pc : Int) < 9223372036854775807) (w : World) :
    Calls Tryd.prog 34 #[.slice p n cc, insV 18 a b c N, .slice m mn mc, .int .i64 fx, regV R, .int .i64 pc] w fun ex w' => ex = .returned (effV (upd R a RKV) ((pc : Int) + 1) false 0 0 0 0) ∧ Below w.heap.size w w' := by
  have T0 := trb_new w ⟨18, a, b, c, N⟩ R
  have hpw : wrap64 ((pc : Int) + 1) = (pc : Int) + 1 := by unfold wrap64; omega
  have hNi : IntKind.i64.wrap N = N := by rw [w64i, w6_id]; unfold I6; omega
  have hNi2 : wrap64 N = N := by rw [w6_id]; unfold I6; omega
  unfold insV
  go_enter Tryd.func34, Tryd.ntmps34
  go_upto_region 1 with (first
    | (refine wl_box25 _ rfl rfl R rfl ?_)
    | (refine wl_alloc27 rfl rfl ?_))
  have T0 : Trb w (((w.alloc (.cells #[.int .u8 18, .int .u8 a, .int .u8 b, .int .u8 c, .int .i32 N] 30)).alloc (.cells (regC R) 25)).alloc (.cells (effC zeroR 0 false 0 0 0 0) 27)) ⟨18, a, b, c, N⟩ R := T0
  generalize (((w.alloc (.cells #[.int .u8 18, .int .u8 a, .int .u8 b, .int .u8 c, .int .i32 N] 30)).alloc (.cells (regC R) 25)).alloc (.cells (effC zeroR 0 false 0 0 0 0) 27)) = w1 at T0 ⊢
  simp only [World.size_alloc]
  have T3 := T0.grow ((Below.refl w1.heap.size w1).alloc (Nat.le_refl _) (.cells (effC R ((pc : Int) + 1) false 0 0 0 0) 27))
  have E3 := heap_alloc_last w1 (.cells (effC R ((pc : Int) + 1) false 0 0 0 0) 27)
  have hq := T0.lt
  go_upto_region 2 with (first
    | (refine wl_load25 _ rfl rfl R (w.heap.size + 1) rfl T0.reg ?_)
    | (refine wl_build27b _ _ rfl rfl R ((pc : Int) + 1) rfl rfl ?_)
    | (refine wl_alloc27 rfl rfl ?_)
    | (refine wl_store27 _ _ rfl rfl R ((pc : Int) + 1) false 0 0 0 0 _ _ rfl rfl (heap_alloc_last _ _) rfl ?_; rw [new_store]))
  clear T0
  generalize w1.alloc (.cells (effC R ((pc : Int) + 1) false 0 0 0 0) 27) = w3 at T3 E3 ⊢
  generalize w1.heap.size = q at E3 hq ⊢
  obtain ⟨x0, x1, x2, x3, x4⟩ := cellsX T3.ins
  dsimp only at x1 x2 x3 x4
  have x0 : w3.cell? ⟨w.heap.size, 0, none⟩ = some (.int .u8 18) := x0
  have rb := T3.regAt hb
  try simp only [Act.put, List.setIfInBounds_toArray, List.set_cons_zero, List.set_cons_succ]
  go_upto_region 21 with fail
  try simp only [Act.put, List.setIfInBounds_toArray, List.set_cons_zero, List.set_cons_succ]
  refine wp_region_held_drew (S := fun w' => Hd w w' ⟨18, a, b, c, N⟩ R q ⟨R, (pc : Int) + 1, false, 0, 0, 0, 0⟩) (by kernel_rfl) ((Hd.of T3 E3).drew) (fun hS => ?_)
  refine d_take 0 86 rfl rfl (by kernel_rfl) (by kernel_rfl) (by kernel_rfl) (fun _ _ _ h => h) rfl (fun w' hw' => er_load27 _ rfl ⟨R, (pc : Int) + 1, false, 0, 0, 0, 0⟩ q rfl hw'.eff) hS ?_
  simp only [Act.put, List.setIfInBounds_toArray, List.set_cons_zero, List.set_cons_succ]
  refine d_take 1 87 rfl rfl (by kernel_rfl) (by kernel_rfl) (by kernel_rfl) (fun _ _ _ h => h) rfl (fun w' hw' => er_f30_1 _ rfl w.heap.size rfl) hS ?_
  simp only [Act.put, List.setIfInBounds_toArray, List.set_cons_zero, List.set_cons_succ]
  refine d_take 2 88 rfl rfl (by kernel_rfl) (by kernel_rfl) (by kernel_rfl) (fun _ _ _ h => h) rfl (fun w' hw' => er_load5 _ rfl w.heap.size 1 (.int .u8 a) rfl (cellsX hw'.ins).2.1) hS ?_
  simp only [Act.put, List.setIfInBounds_toArray, List.set_cons_zero, List.set_cons_succ]
  refine d_take 3 89 rfl rfl (by kernel_rfl) (by kernel_rfl) (by kernel_rfl) (fun _ _ _ h => h) rfl (fun w' hw' => er_move _ rfl) hS ?_
  simp only [Act.put, List.setIfInBounds_toArray, List.set_cons_zero, List.set_cons_succ]
  refine d_take 4 90 rfl rfl (by kernel_rfl) (by kernel_rfl) (by kernel_rfl) (fun _ _ _ h => h) rfl (fun w' hw' => er_move _ rfl) hS ?_
  simp only [Act.put, List.setIfInBounds_toArray, List.set_cons_zero, List.set_cons_succ]
  refine d_call 5 91 (v := .int .i64 RKV) (by kernel_rfl) rfl rfl rfl (er_call_bulkheadref06_reckoned _ _ _ _ rfl) ((cK _).mono (by rintro ex w4 ⟨rfl, hw4⟩; exact ⟨rfl, by rw [hw4]; exact hS⟩)) (fun w4 hS4 => ?_)
  simp only [Act.put, List.setIfInBounds_toArray, List.set_cons_zero, List.set_cons_succ]
  refine d_call 6 92 (v := Ef.v ⟨upd R a RKV, (pc : Int) + 1, false, 0, 0, 0, 0⟩) (by kernel_rfl) rfl rfl rfl (er_call_bulkheadref06_with _ _ _ _ rfl) ((refWith_any ⟨R, (pc : Int) + 1, false, 0, 0, 0, 0⟩ a ha RKV _).mono (by rintro ex w5 ⟨rfl, b5⟩; exact ⟨rfl, hS4.grow b5⟩)) (fun w5 hS5 => ?_)
  simp only [Act.put, List.setIfInBounds_toArray, List.set_cons_zero, List.set_cons_succ]
  obtain ⟨cs, hres, hcs⟩ := hS5.res
  refine d_turn 7 (by kernel_rfl) rfl rfl rfl (er_store27 _ _ rfl ⟨upd R a RKV, (pc : Int) + 1, false, 0, 0, 0, 0⟩ (w.heap.size + 1 + 1) cs rfl rfl hres hcs) (hS5.store hq _ rfl) ?_
  refine wpAnyH_done (by kernel_rfl) ?_ _
  go_wp2
  refine bodyPost_ret (results_cell_row rfl _ _ (w.heap.size + 1 + 1) 27 _ _ _ rfl (setRow_heap _ _ _ _ _ _ hres) Tryd.underlying27 rfl (by rw [effC_size]; exact info27)) rfl ?_
  exact ⟨rfl, (hS5.store hq _ rfl).bel⟩

set_option maxHeartbeats 2000000 in
set_option maxRecDepth 100000 in
theorem refDo (p m : Option Addr) (n cc mn mc : Nat) (fx : Int) (a b c : Nat) (ha : a < 16) (hb : b < 16) (N : Int) (hN : -2147483648 ≤ N ∧ N ≤ 2147483647) (R : Nat → Int) (hc : c < 16) (o : Nat) (n1 : ((o : Int) == 1) = false) (n2 : ((o : Int) == 2) = false) (n3 : ((o : Int) == 3) = false) (n4 : ((o : Int) == 4) = false) (n5 : ((o : Int) == 5) = false) (n6 : ((o : Int) == 6) = false) (n10 : ((o : Int) == 10) = false) (n11 : ((o : Int) == 11) = false) (n18 : ((o : Int) == 18) = false) (n22 : ((o : Int) == 22) = false) (n23 : ((o : Int) == 23) = false) (n24 : ((o : Int) == 24) = false) (n25 : ((o : Int) == 25) = false) (n26 : ((o : Int) == 26) = false) (n27 : ((o : Int) == 27) = false) (RKV : Int) (cK : ∀ w0, Calls Tryd.prog 80 #[.int .u8 o, .int .i64 (R b), .int .i64 (R c)] w0 fun ex w' => ex = .returned (.int .i64 RKV) ∧ w' = w0) (pc : Nat) (hpc : (pc : Int) < 9223372036854775807) (w : World) :
    Calls Tryd.prog 34 #[.slice p n cc, insV o a b c N, .slice m mn mc, .int .i64 fx, regV R, .int .i64 pc] w fun ex w' => ex = .returned (effV (upd R a RKV) ((pc : Int) + 1) false 0 0 0 0) ∧ Below w.heap.size w w' := by
  have T0 := trb_new w ⟨o, a, b, c, N⟩ R
  have hpw : wrap64 ((pc : Int) + 1) = (pc : Int) + 1 := by unfold wrap64; omega
  have hNi : IntKind.i64.wrap N = N := by rw [w64i, w6_id]; unfold I6; omega
  have hNi2 : wrap64 N = N := by rw [w6_id]; unfold I6; omega
  unfold insV
  go_enter Tryd.func34, Tryd.ntmps34
  go_upto_region 1 with (first
    | (refine wl_box25 _ rfl rfl R rfl ?_)
    | (refine wl_alloc27 rfl rfl ?_))
  have T0 : Trb w (((w.alloc (.cells #[.int .u8 o, .int .u8 a, .int .u8 b, .int .u8 c, .int .i32 N] 30)).alloc (.cells (regC R) 25)).alloc (.cells (effC zeroR 0 false 0 0 0 0) 27)) ⟨o, a, b, c, N⟩ R := T0
  generalize (((w.alloc (.cells #[.int .u8 o, .int .u8 a, .int .u8 b, .int .u8 c, .int .i32 N] 30)).alloc (.cells (regC R) 25)).alloc (.cells (effC zeroR 0 false 0 0 0 0) 27)) = w1 at T0 ⊢
  simp only [World.size_alloc]
  have T3 := T0.grow ((Below.refl w1.heap.size w1).alloc (Nat.le_refl _) (.cells (effC R ((pc : Int) + 1) false 0 0 0 0) 27))
  have E3 := heap_alloc_last w1 (.cells (effC R ((pc : Int) + 1) false 0 0 0 0) 27)
  have hq := T0.lt
  go_upto_region 2 with (first
    | (refine wl_load25 _ rfl rfl R (w.heap.size + 1) rfl T0.reg ?_)
    | (refine wl_build27b _ _ rfl rfl R ((pc : Int) + 1) rfl rfl ?_)
    | (refine wl_alloc27 rfl rfl ?_)
    | (refine wl_store27 _ _ rfl rfl R ((pc : Int) + 1) false 0 0 0 0 _ _ rfl rfl (heap_alloc_last _ _) rfl ?_; rw [new_store]))
  clear T0
  generalize w1.alloc (.cells (effC R ((pc : Int) + 1) false 0 0 0 0) 27) = w3 at T3 E3 ⊢
  generalize w1.heap.size = q at E3 hq ⊢
  obtain ⟨x0, x1, x2, x3, x4⟩ := cellsX T3.ins
  dsimp only at x1 x2 x3 x4
  have x0 : w3.cell? ⟨w.heap.size, 0, none⟩ = some (.int .u8 o) := x0
  have rb := T3.regAt hb
  try simp only [Act.put, List.setIfInBounds_toArray, List.set_cons_zero, List.set_cons_succ]
  go_upto_region 33 with fail
  try simp only [Act.put, List.setIfInBounds_toArray, List.set_cons_zero, List.set_cons_succ]
  refine wp_region_held_drew (S := fun w' => Hd w w' ⟨o, a, b, c, N⟩ R q ⟨R, (pc : Int) + 1, false, 0, 0, 0, 0⟩) (by kernel_rfl) ((Hd.of T3 E3).drew) (fun hS => ?_)
  refine d_take 0 118 rfl rfl (by kernel_rfl) (by kernel_rfl) (by kernel_rfl) (fun _ _ _ h => h) rfl (fun w' hw' => er_load27 _ rfl ⟨R, (pc : Int) + 1, false, 0, 0, 0, 0⟩ q rfl hw'.eff) hS ?_
  simp only [Act.put, List.setIfInBounds_toArray, List.set_cons_zero, List.set_cons_succ]
  refine d_take 1 119 rfl rfl (by kernel_rfl) (by kernel_rfl) (by kernel_rfl) (fun _ _ _ h => h) rfl (fun w' hw' => er_f30_1 _ rfl w.heap.size rfl) hS ?_
  simp only [Act.put, List.setIfInBounds_toArray, List.set_cons_zero, List.set_cons_succ]
  refine d_take 2 120 rfl rfl (by kernel_rfl) (by kernel_rfl) (by kernel_rfl) (fun _ _ _ h => h) rfl (fun w' hw' => er_load5 _ rfl w.heap.size 1 (.int .u8 a) rfl (cellsX hw'.ins).2.1) hS ?_
  simp only [Act.put, List.setIfInBounds_toArray, List.set_cons_zero, List.set_cons_succ]
  refine d_take 3 121 rfl rfl (by kernel_rfl) (by kernel_rfl) (by kernel_rfl) (fun _ _ _ h => h) rfl (fun w' hw' => er_f30_0 _ rfl w.heap.size rfl) hS ?_
  simp only [Act.put, List.setIfInBounds_toArray, List.set_cons_zero, List.set_cons_succ]
  refine d_take 4 122 rfl rfl (by kernel_rfl) (by kernel_rfl) (by kernel_rfl) (fun _ _ _ h => h) rfl (fun w' hw' => er_load5 _ rfl w.heap.size 0 (.int .u8 o) rfl (cellsX hw'.ins).1) hS ?_
  simp only [Act.put, List.setIfInBounds_toArray, List.set_cons_zero, List.set_cons_succ]
  refine d_take 5 123 rfl rfl (by kernel_rfl) (by kernel_rfl) (by kernel_rfl) (fun _ _ _ h => h) rfl (fun w' hw' => er_move _ rfl) hS ?_
  simp only [Act.put, List.setIfInBounds_toArray, List.set_cons_zero, List.set_cons_succ]
  refine d_take 6 124 rfl rfl (by kernel_rfl) (by kernel_rfl) (by kernel_rfl) (fun _ _ _ h => h) rfl (fun w' hw' => er_f30_3 _ rfl w.heap.size rfl) hS ?_
  simp only [Act.put, List.setIfInBounds_toArray, List.set_cons_zero, List.set_cons_succ]
  refine d_take 7 125 rfl rfl (by kernel_rfl) (by kernel_rfl) (by kernel_rfl) (fun _ _ _ h => h) rfl (fun w' hw' => er_load5 _ rfl w.heap.size 3 (.int .u8 c) rfl (cellsX hw'.ins).2.2.2.1) hS ?_
  simp only [Act.put, List.setIfInBounds_toArray, List.set_cons_zero, List.set_cons_succ]
  refine d_take 8 126 rfl rfl (by kernel_rfl) (by kernel_rfl) (by kernel_rfl) (fun _ _ _ h => h) rfl (fun w' hw' => er_conv53 _ rfl c (by omega) rfl) hS ?_
  simp only [Act.put, List.setIfInBounds_toArray, List.set_cons_zero, List.set_cons_succ]
  refine d_take 9 127 rfl rfl (by kernel_rfl) (by kernel_rfl) (by kernel_rfl) (fun _ _ _ h => h) rfl (fun w' hw' => er_index25 _ _ rfl (w.heap.size + 1) c hc rfl rfl) hS ?_
  simp only [Act.put, List.setIfInBounds_toArray, List.set_cons_zero, List.set_cons_succ]
  refine d_take 10 128 rfl rfl (by kernel_rfl) (by kernel_rfl) (by kernel_rfl) (fun _ _ _ h => h) rfl (fun w' hw' => er_load2 _ rfl (w.heap.size + 1) c (.int .i64 (R c)) rfl ((cell_of_row _ _ _ _ _ _ hw'.reg).trans (regC_at R hc))) hS ?_
  simp only [Act.put, List.setIfInBounds_toArray, List.set_cons_zero, List.set_cons_succ]
  refine d_call 11 129 (v := .int .i64 RKV) (by kernel_rfl) rfl rfl rfl (er_call_bulkheadref06_reckoned _ _ _ _ rfl) ((cK _).mono (by rintro ex w4 ⟨rfl, hw4⟩; exact ⟨rfl, by rw [hw4]; exact hS⟩)) (fun w4 hS4 => ?_)
  simp only [Act.put, List.setIfInBounds_toArray, List.set_cons_zero, List.set_cons_succ]
  refine d_call 12 130 (v := Ef.v ⟨upd R a RKV, (pc : Int) + 1, false, 0, 0, 0, 0⟩) (by kernel_rfl) rfl rfl rfl (er_call_bulkheadref06_with _ _ _ _ rfl) ((refWith_any ⟨R, (pc : Int) + 1, false, 0, 0, 0, 0⟩ a ha RKV _).mono (by rintro ex w5 ⟨rfl, b5⟩; exact ⟨rfl, hS4.grow b5⟩)) (fun w5 hS5 => ?_)
  simp only [Act.put, List.setIfInBounds_toArray, List.set_cons_zero, List.set_cons_succ]
  obtain ⟨cs, hres, hcs⟩ := hS5.res
  refine d_turn 13 (by kernel_rfl) rfl rfl rfl (er_store27 _ _ rfl ⟨upd R a RKV, (pc : Int) + 1, false, 0, 0, 0, 0⟩ (w.heap.size + 1 + 1) cs rfl rfl hres hcs) (hS5.store hq _ rfl) ?_
  refine wpAnyH_done (by kernel_rfl) ?_ _
  go_wp2
  refine bodyPost_ret (results_cell_row rfl _ _ (w.heap.size + 1 + 1) 27 _ _ _ rfl (setRow_heap _ _ _ _ _ _ hres) Tryd.underlying27 rfl (by rw [effC_size]; exact info27)) rfl ?_
  exact ⟨rfl, (hS5.store hq _ rfl).bel⟩

end Go.Proofs.YtijeaonldhccmaaDoor

namespace Go.Proofs.YtijeaonldhccmaaDoor
open Go.RowKit
set_option linter.unusedVariables false

theorem rk_wd {o : Nat} (h : rkOp o = true) (h18 : o ≠ 18) (A B C N : Int) : rk o B C = wd o A B C N := by
  have h : o = 7 ∨ o = 8 ∨ o = 9 ∨ o = 12 ∨ o = 13 ∨ o = 14 ∨ o = 15 ∨ o = 16 ∨ o = 17 ∨ o = 18 ∨ o = 19 ∨ o = 20 ∨ o = 21 := by simpa [rkOp] using h
  rcases h with rfl | rfl | rfl | rfl | rfl | rfl | rfl | rfl | rfl | rfl | rfl | rfl | rfl
  · rw [rkE7, wdE7]
  · rw [rkE8, wdE8]
  · rw [rkE9, wdE9]
  · rw [rkE12, wdE12]
  · rw [rkE13, wdE13]
  · rw [rkE14, wdE14]
  · rw [rkE15, wdE15]
  · rw [rkE16, wdE16]
  · rw [rkE17, wdE17]
  · exact absurd rfl h18
  · rw [rkE19, wdE19]
  · rw [rkE20, wdE20]
  · rw [rkE21, wdE21]

theorem refDone_any (G : Nat → Prop) (p m : Option Addr) (n cc mn mc : Nat) (hn : n ≤ 9223372036854775807) (fx : Int) (o a b c : Nat) (N : Int) (hN : -2147483648 ≤ N ∧ N ≤ 2147483647) (hl : lg o a b c N = true) (R : Nat → Int) (hR : ∀ i, I6 (R i)) (ms : List Int) (pc : Nat) (hpc : pc < n) (w : World) (hz : Zs w G m mn mc ms) :
    Calls Tryd.prog 34 #[.slice p n cc, insV o a b c N, .slice m mn mc, .int .i64 fx, regV R, .int .i64 pc] w fun ex w' => ex = .returned (doE n ⟨o, a, b, c, N⟩ ms fx R pc).v ∧ Below w.heap.size w w' := by
  obtain ⟨g1, g27, ha, hb, hc⟩ := lg_fields hl
  have hpc' : (pc : Int) < 9223372036854775807 := by omega
  have hN6 : I6 N := by unfold I6; omega
  by_cases hs : spc o = false
  · rw [doE_word hs, ef_v]
    have h' : o ≠ 1 ∧ o ≠ 5 ∧ o ≠ 6 ∧ o ≠ 10 ∧ o ≠ 11 ∧ o ≠ 22 ∧ o ≠ 23 ∧ o ≠ 24 ∧ o ≠ 25 ∧ o ≠ 26 ∧ o ≠ 27 := by simpa [spc] using hs
    by_cases h2 : o = 2
    · subst h2
      rw [show wd 2 (R a) (R b) (R c) N = N by unfold wd; rw [if_pos (show (2 : Nat) = 2 from rfl)]]
      exact refD2 p m n cc mn mc fx a b c ha hb N hN R pc hpc' w
    by_cases h3 : o = 3
    · subst h3
      rw [show wd 3 (R a) (R b) (R c) N = ldh (R a) N by unfold wd; rw [if_neg (show ¬ (3 : Nat) = 2 by decide), if_pos (show (3 : Nat) = 3 from rfl)], ← ldh_sum]
      exact refD3 p m n cc mn mc fx a b c ha hb N hN R _ _ (fun w0 => refQuo_any (R a) 4294967296 (hR a) (by unfold I6; omega) (by decide) w0) pc hpc' w
    by_cases h4 : o = 4
    · subst h4
      rw [show wd 4 (R a) (R b) (R c) N = R b by unfold wd; rw [if_neg (show ¬ (4 : Nat) = 2 by decide), if_neg (show ¬ (4 : Nat) = 3 by decide), if_pos (show (4 : Nat) = 4 from rfl)]]
      exact refD4 p m n cc mn mc fx a b c ha hb N hN R pc hpc' w
    by_cases h18 : o = 18
    · subst h18
      rw [show wd 18 (R a) (R b) (R c) N = rk 18 (R b) N by rw [rkE18]; unfold wd; rw [if_neg (show ¬ (18 : Nat) = 2 by decide), if_neg (show ¬ (18 : Nat) = 3 by decide), if_neg (show ¬ (18 : Nat) = 4 by decide), if_neg (show ¬ (18 : Nat) = 7 by decide), if_neg (show ¬ (18 : Nat) = 8 by decide), if_neg (show ¬ (18 : Nat) = 9 by decide), if_neg (show ¬ (18 : Nat) = 12 by decide), if_neg (show ¬ (18 : Nat) = 13 by decide), if_neg (show ¬ (18 : Nat) = 14 by decide), if_neg (show ¬ (18 : Nat) = 15 by decide), if_neg (show ¬ (18 : Nat) = 16 by decide), if_neg (show ¬ (18 : Nat) = 17 by decide), if_pos (show (18 : Nat) = 18 from rfl)]]
      exact refD18 p m n cc mn mc fx a b c ha hb N hN R _ (fun w0 => refReckoned_any 18 rfl (R b) N (hR b) hN6 w0) pc hpc' w
    · have hrk : rkOp o = true := by
        have : o = 7 ∨ o = 8 ∨ o = 9 ∨ o = 12 ∨ o = 13 ∨ o = 14 ∨ o = 15 ∨ o = 16 ∨ o = 17 ∨ o = 19 ∨ o = 20 ∨ o = 21 := by omega
        rcases this with rfl | rfl | rfl | rfl | rfl | rfl | rfl | rfl | rfl | rfl | rfl | rfl <;> rfl
      rw [← rk_wd hrk h18]
      obtain ⟨k1, k5, k6, k10, k11, k22, k23, k24, k25, k26, k27⟩ := h'
      have ne : ∀ k : Nat, o ≠ k → ((o : Int) == (k : Int)) = false := fun k h => by simp; omega
      exact refDo p m n cc mn mc fx a b c ha hb N hN R hc o (ne 1 k1) (ne 2 h2) (ne 3 h3) (ne 4 h4) (ne 5 k5) (ne 6 k6) (ne 10 k10) (ne 11 k11) (ne 18 h18) (ne 22 k22) (ne 23 k23) (ne 24 k24) (ne 25 k25) (ne 26 k26) (ne 27 k27) _ (fun w0 => refReckoned_any o hrk (R b) (R c) (hR b) (hR c) w0) pc hpc' w
  · have h' : o = 1 ∨ o = 5 ∨ o = 6 ∨ o = 10 ∨ o = 11 ∨ o = 22 ∨ o = 23 ∨ o = 24 ∨ o = 25 ∨ o = 26 ∨ o = 27 := by
      rw [Bool.not_eq_false] at hs; simpa [spc] using hs
    have hzk := fun w0 (b0 : Below w.heap.size w w0) => hz.kept (Kept.of_below (F := No) b0) (fun _ _ h => h)
    have bri1 : bri ((pc : Int) + 1) n = (pc : Int) + 1 := by unfold bri; rw [if_pos (by omega)]
    rcases h' with rfl | rfl | rfl | rfl | rfl | rfl | rfl | rfl | rfl | rfl | rfl
    · rw [dE1, ef_v]
      exact refD1 p m n cc mn mc fx a b c ha hb N hN R pc hpc' w
    · exact refD5 p m n cc mn mc fx a b c ha hb N hN R _ pc hpc' w (fun w0 b0 => refMem5 G n m mn mc fx a b c ha hb N hN R ms pc hpc' w0 (hzk w0 b0))
    · exact refD6 p m n cc mn mc fx a b c ha hb N hN R _ pc hpc' w (fun w0 b0 => refMem6 G n m mn mc fx a b c ha hb N hN R ms pc hpc' w0 (hzk w0 b0))
    · refine refD10 p m n cc mn mc fx a b c ha hb N hN R _ pc hpc' w (fun w0 b0 => ?_)
      rw [doE10]
      cases hzc : (R c == 0) with
      | true => rw [if_pos rfl, ef_v]; exact refDiv10z a b c ha hb hc N R hzc pc hpc' w0
      | false => rw [if_neg (by decide), ef_v]; exact refDiv10n a b c ha hb hc N R hzc _ _ (fun w1 => refQuo_any (R b) (R c) (hR b) (hR c) (by simpa using hzc) w1) pc hpc' w0
    · refine refD11 p m n cc mn mc fx a b c ha hb N hN R _ pc hpc' w (fun w0 b0 => ?_)
      rw [doE11]
      cases hzc : (R c == 0) with
      | true => rw [if_pos rfl, ef_v]; exact refDiv11z a b c ha hb hc N R hzc pc hpc' w0
      | false =>
        have h0 : R c ≠ 0 := by simpa using hzc
        rw [if_neg (by decide), ef_v, w6_id (rm_I6 (hR c) h0)]
        exact refDiv11n a b c ha hb hc N R hzc _ _ (fun w1 => refQuo_any (R b) (R c) (hR b) (hR c) h0 w1) pc hpc' w0
    · refine refD22 p m n cc mn mc fx a b c ha hb N hN R _ pc hpc' w (fun w0 b0 => ?_)
      rw [dE22, ef_v]; exact refJ22 p n cc hn a b c ha N hN R pc hpc' w0
    · refine refD23 p m n cc mn mc fx a b c ha hb N hN R _ pc hpc' w (fun w0 b0 => ?_)
      rw [dE23, ef_v]
      cases hzc : (R a == 0) with
      | true => rw [if_pos rfl]; exact refJ23y p n cc hn a b c ha N hN R hzc (by simp [bne, hzc]) pc hpc' w0
      | false => rw [if_neg (by decide), bri1]; exact refJ23n p n cc hn a b c ha N hN R hzc (by simp [bne, hzc]) pc hpc' w0
    · refine refD24 p m n cc mn mc fx a b c ha hb N hN R _ pc hpc' w (fun w0 b0 => ?_)
      rw [dE24, ef_v]
      cases hzc : (R a == 0) with
      | true => rw [if_pos rfl, bri1]; exact refJ24y p n cc hn a b c ha N hN R hzc (by simp [bne, hzc]) pc hpc' w0
      | false => rw [if_neg (by decide)]; exact refJ24n p n cc hn a b c ha N hN R hzc (by simp [bne, hzc]) pc hpc' w0
    · refine refD25 p m n cc mn mc fx a b c ha hb N hN R _ pc hpc' w (fun w0 b0 => ?_)
      rw [dE25, ef_v]; exact refJ25 p n cc hn a b c ha N hN R pc hpc' w0
    · refine refD26 p m n cc mn mc fx a b c ha hb N hN R _ pc hpc' w (fun w0 b0 => ?_)
      rw [dE26, ef_v]; exact refJ26 p n cc hn a b c ha N hN R pc hpc' w0
    · rw [doE27]
      by_cases h1 : N < 1
      · rw [if_neg (by omega), ef_v]; exact refD27lo p m n cc mn mc fx a b c ha hb N hN R h1 pc hpc' w
      · by_cases h2 : N > 27
        · rw [if_neg (by omega), ef_v]; exact refD27hi p m n cc mn mc fx a b c ha hb N hN R h1 h2 pc hpc' w
        · rw [if_pos (by omega), ef_v]; exact refD27 p m n cc mn mc fx a b c ha hb N hN R h1 h2 pc hpc' w

end Go.Proofs.YtijeaonldhccmaaDoor

namespace Go.Proofs.YtijeaonldhccmaaDoor
open Go.RowKit
set_option linter.unusedVariables false

section
variable {o : Oper} {a : Act} {w : World}
theorem er_index31 (x y : Operand) (ho : o.op = .indexAddr 31 x y) (b off n c d : Nat) (hd : d < n) (hn : n ≤ 9223372036854775807) (hx : a.eval x = .slice (some ⟨b, off, none⟩) n c) (hy : a.eval y = .int .i64 d) : (execOp a.eval o).run Tryd.prog w = .ok (.value (.pointer (some ⟨b, off + d * 5, none⟩))) w := by
  simp only [execOp, ho, hx, hy]
  simp [go_sem, add_none]
  omega
theorem er_load30 (x : Operand) (ho : o.op = .load 30 x) (g off : Nat) (v0 v1 v2 v3 v4 : Value) (hx : a.eval x = .pointer (some ⟨g, off, none⟩)) (h0 : w.cell? ⟨g, off, none⟩ = some v0) (h1 : w.cell? ⟨g, off + 1, none⟩ = some v1) (h2 : w.cell? ⟨g, off + 2, none⟩ = some v2) (h3 : w.cell? ⟨g, off + 3, none⟩ = some v3) (h4 : w.cell? ⟨g, off + 4, none⟩ = some v4) :
    (execOp a.eval o).run Tryd.prog w = .ok (.value (.agg #[v0, v1, v2, v3, v4])) w := by
  have hr : w.rangeAt g off [v0, v1, v2, v3, v4] := by
    intro j v hj
    match j, hj with
    | 0, hj => simp at hj; subst hj; exact h0
    | 1, hj => simp at hj; subst hj; exact h1
    | 2, hj => simp at hj; subst hj; exact h2
    | 3, hj => simp at hj; subst hj; exact h3
    | 4, hj => simp at hj; subst hj; exact h4
    | j + 5, hj => simp at hj
  have := run_loadAt_mid (P := Tryd.prog) w g off 30 _ _ hr Tryd.underlying30 rfl (by kernel_rfl)
  simp only [execOp, ho, hx, Sem.run_bind, this]; rfl
end

/-- what stands while Step's regions draw -/
structure He (w0 w : World) (R : Nat → Int) : Prop where
  bel : Below w0.heap.size w0 w
  reg : w.heap[w0.heap.size]? = some (.cells (regC R) 25)
  res : ∃ cs, w.heap[w0.heap.size + 1]? = some (.cells cs 27) ∧ cs.size = 22
theorem He.grow {w0 w w' : World} {R : Nat → Int} (h : He w0 w R) (b : Below w.heap.size w w') : He w0 w' R := by
  obtain ⟨cs, hr, hs⟩ := h.res
  exact ⟨h.bel.trans (b.mono h.bel.size), (b.block _ (heap_lt h.reg)).trans h.reg, ⟨cs, (b.block _ (heap_lt hr)).trans hr, hs⟩⟩
theorem He.store {w0 w : World} {R : Nat → Int} (h : He w0 w R) (cs : Array Value) (hc : cs.size = 22) : He w0 (w.setRow (w0.heap.size + 1) cs) R := by
  obtain ⟨cs0, hr, hs⟩ := h.res
  exact ⟨⟨h.bel.os, h.bel.tape, h.bel.output, by simpa [World.setRow] using h.bel.size, fun k hk => (setRow_other _ _ _ _ (by omega)).trans (h.bel.block k hk)⟩, (setRow_other _ _ _ _ (by omega)).trans h.reg, ⟨cs, setRow_heap _ _ _ _ _ _ hr, hc⟩⟩
theorem He.of {w0 w : World} {R : Nat → Int} (h : Rgs w0 w R) : He w0 w.drew R := ⟨h.bel.drew, h.reg, ⟨_, h.res, rfl⟩⟩

set_option maxHeartbeats 2000000 in
set_option maxRecDepth 100000 in
theorem refS_lo (p m : Option Addr) (n cc mn mc : Nat) (hn : n ≤ 9223372036854775807) (fx : Int) (R : Nat → Int) (pc : Int) (w : World) (h1 : pc < 0) :
    Calls Tryd.prog 21 #[.slice p n cc, .slice m mn mc, .int .i64 fx, regV R, .int .i64 pc] w fun ex w' => ex = .returned (effV R (bri pc n) false 0 0 4 0) ∧ Below w.heap.size w w' := by
  have cI := fun w0 => refIn_any p n cc pc w0 hn
  generalize bri pc n = BV at *
  have D0 := rgs_new w R
  go_enter Tryd.func21, Tryd.ntmps21
  go_upto_region 1 with (first
    | (refine wl_box25 _ rfl rfl R rfl ?_)
    | (refine wl_alloc27 rfl rfl ?_))
  generalize (w.alloc (.cells (regC R) 25)).alloc (.cells (effC zeroR 0 false 0 0 0 0) 27) = w1 at D0 ⊢
  try simp only [World.size_alloc, Act.put, List.setIfInBounds_toArray, List.set_cons_zero, List.set_cons_succ]
  go_upto_region 2 with fail
  try simp only [Act.put, List.setIfInBounds_toArray, List.set_cons_zero, List.set_cons_succ]
  refine wp_region_held_drew (S := fun w' => He w w' R) (by kernel_rfl) (He.of D0) (fun hS => ?_)
  refine d_take 0 19 rfl rfl (by kernel_rfl) (by kernel_rfl) (by kernel_rfl) (fun _ _ _ h => h) rfl (fun w' hw' => er_load25 _ rfl w.heap.size 0 R rfl (range_reg hw'.reg)) hS ?_
  simp only [Act.put, List.setIfInBounds_toArray, List.set_cons_zero, List.set_cons_succ]
  refine d_take 1 20 rfl rfl (by kernel_rfl) (by kernel_rfl) (by kernel_rfl) (fun _ _ _ h => h) rfl (fun w' hw' => er_move _ rfl) hS ?_
  simp only [Act.put, List.setIfInBounds_toArray, List.set_cons_zero, List.set_cons_succ]
  refine d_take 2 21 rfl rfl (by kernel_rfl) (by kernel_rfl) (by kernel_rfl) (fun _ _ _ h => h) rfl (fun w' hw' => er_move _ rfl) hS ?_
  simp only [Act.put, List.setIfInBounds_toArray, List.set_cons_zero, List.set_cons_succ]
  refine d_call 3 22 (v := .int .i64 BV) (by kernel_rfl) rfl rfl rfl (er_call_bulkheadref06_In _ _ _ rfl) ((cI _).mono (by rintro ex w4 ⟨rfl, hw4⟩; exact ⟨rfl, by rw [hw4]; exact hS⟩)) (fun w4 hS4 => ?_)
  simp only [Act.put, List.setIfInBounds_toArray, List.set_cons_zero, List.set_cons_succ]
  refine d_take 4 23 rfl rfl (by kernel_rfl) (by kernel_rfl) (by kernel_rfl) (fun _ _ _ h => h) rfl (fun w' hw' => er_build27c _ _ _ rfl R BV 4 rfl rfl rfl) hS4 ?_
  simp only [Act.put, List.setIfInBounds_toArray, List.set_cons_zero, List.set_cons_succ]
  obtain ⟨cs, hres, hcs⟩ := hS4.res
  refine d_turn 5 (by kernel_rfl) rfl rfl rfl (er_store27 _ _ rfl ⟨R, BV, false, 0, 0, 4, 0⟩ (w.heap.size + 1) cs rfl rfl hres hcs) (hS4.store _ rfl) ?_
  refine wpAnyH_done (by kernel_rfl) ?_ _
  go_wp2
  refine bodyPost_ret (results_cell_row rfl _ _ (w.heap.size + 1) 27 _ _ _ rfl (setRow_heap _ _ _ _ _ _ hres) Tryd.underlying27 rfl (by rw [effC_size]; exact info27)) rfl ?_
  exact ⟨rfl, (hS4.store _ rfl).bel⟩

set_option maxHeartbeats 2000000 in
set_option maxRecDepth 100000 in
theorem refS_hi (p m : Option Addr) (n cc mn mc : Nat) (hn : n ≤ 9223372036854775807) (fx : Int) (R : Nat → Int) (pc : Int) (w : World) (h1 : ¬ pc < 0) (h2 : pc ≥ n) :
    Calls Tryd.prog 21 #[.slice p n cc, .slice m mn mc, .int .i64 fx, regV R, .int .i64 pc] w fun ex w' => ex = .returned (effV R (bri pc n) false 0 0 4 0) ∧ Below w.heap.size w w' := by
  have cI := fun w0 => refIn_any p n cc pc w0 hn
  generalize bri pc n = BV at *
  have D0 := rgs_new w R
  go_enter Tryd.func21, Tryd.ntmps21
  go_upto_region 1 with (first
    | (refine wl_box25 _ rfl rfl R rfl ?_)
    | (refine wl_alloc27 rfl rfl ?_))
  generalize (w.alloc (.cells (regC R) 25)).alloc (.cells (effC zeroR 0 false 0 0 0 0) 27) = w1 at D0 ⊢
  try simp only [World.size_alloc, Act.put, List.setIfInBounds_toArray, List.set_cons_zero, List.set_cons_succ]
  go_upto_region 2 with fail
  try simp only [Act.put, List.setIfInBounds_toArray, List.set_cons_zero, List.set_cons_succ]
  refine wp_region_held_drew (S := fun w' => He w w' R) (by kernel_rfl) (He.of D0) (fun hS => ?_)
  refine d_take 0 19 rfl rfl (by kernel_rfl) (by kernel_rfl) (by kernel_rfl) (fun _ _ _ h => h) rfl (fun w' hw' => er_load25 _ rfl w.heap.size 0 R rfl (range_reg hw'.reg)) hS ?_
  simp only [Act.put, List.setIfInBounds_toArray, List.set_cons_zero, List.set_cons_succ]
  refine d_take 1 20 rfl rfl (by kernel_rfl) (by kernel_rfl) (by kernel_rfl) (fun _ _ _ h => h) rfl (fun w' hw' => er_move _ rfl) hS ?_
  simp only [Act.put, List.setIfInBounds_toArray, List.set_cons_zero, List.set_cons_succ]
  refine d_take 2 21 rfl rfl (by kernel_rfl) (by kernel_rfl) (by kernel_rfl) (fun _ _ _ h => h) rfl (fun w' hw' => er_move _ rfl) hS ?_
  simp only [Act.put, List.setIfInBounds_toArray, List.set_cons_zero, List.set_cons_succ]
  refine d_call 3 22 (v := .int .i64 BV) (by kernel_rfl) rfl rfl rfl (er_call_bulkheadref06_In _ _ _ rfl) ((cI _).mono (by rintro ex w4 ⟨rfl, hw4⟩; exact ⟨rfl, by rw [hw4]; exact hS⟩)) (fun w4 hS4 => ?_)
  simp only [Act.put, List.setIfInBounds_toArray, List.set_cons_zero, List.set_cons_succ]
  refine d_take 4 23 rfl rfl (by kernel_rfl) (by kernel_rfl) (by kernel_rfl) (fun _ _ _ h => h) rfl (fun w' hw' => er_build27c _ _ _ rfl R BV 4 rfl rfl rfl) hS4 ?_
  simp only [Act.put, List.setIfInBounds_toArray, List.set_cons_zero, List.set_cons_succ]
  obtain ⟨cs, hres, hcs⟩ := hS4.res
  refine d_turn 5 (by kernel_rfl) rfl rfl rfl (er_store27 _ _ rfl ⟨R, BV, false, 0, 0, 4, 0⟩ (w.heap.size + 1) cs rfl rfl hres hcs) (hS4.store _ rfl) ?_
  refine wpAnyH_done (by kernel_rfl) ?_ _
  go_wp2
  refine bodyPost_ret (results_cell_row rfl _ _ (w.heap.size + 1) 27 _ _ _ rfl (setRow_heap _ _ _ _ _ _ hres) Tryd.underlying27 rfl (by rw [effC_size]; exact info27)) rfl ?_
  exact ⟨rfl, (hS4.store _ rfl).bel⟩

set_option maxHeartbeats 2000000 in
set_option maxRecDepth 100000 in
theorem refS_bad (p m : Option Addr) (n cc mn mc : Nat) (hn : n ≤ 9223372036854775807) (fx : Int) (R : Nat → Int) (pc : Nat) (hpc : pc < n) (o a b c : Nat) (N : Int) (ho : o < 256) (ha : a < 256) (hb : b < 256) (hc : c < 256) (w : World) (hcode : Here w p pc o a b c N) (hl : lg o a b c N = false) :
    Calls Tryd.prog 21 #[.slice p n cc, .slice m mn mc, .int .i64 fx, regV R, .int .i64 pc] w fun ex w' => ex = .returned (effV R ((pc : Int) + 1) false 0 0 1 0) ∧ Below w.heap.size w w' := by
  obtain ⟨cb, co, rfl, k0, k1, k2, k3, k4⟩ := hcode
  have hcb := cell_lt k0
  have D0 := rgs_new w R
  go_enter Tryd.func21, Tryd.ntmps21
  go_upto_region 1 with (first
    | (refine wl_box25 _ rfl rfl R rfl ?_)
    | (refine wl_alloc27 rfl rfl ?_))
  generalize (w.alloc (.cells (regC R) 25)).alloc (.cells (effC zeroR 0 false 0 0 0 0) 27) = w1 at D0 ⊢
  try simp only [World.size_alloc, Act.put, List.setIfInBounds_toArray, List.set_cons_zero, List.set_cons_succ]
  have k0 := (D0.bel.cell (p := ⟨cb, co + pc * 5, none⟩) hcb).trans k0
  have k1 := (D0.bel.cell (p := ⟨cb, co + pc * 5 + 1, none⟩) hcb).trans k1
  have k2 := (D0.bel.cell (p := ⟨cb, co + pc * 5 + 2, none⟩) hcb).trans k2
  have k3 := (D0.bel.cell (p := ⟨cb, co + pc * 5 + 3, none⟩) hcb).trans k3
  have k4 := (D0.bel.cell (p := ⟨cb, co + pc * 5 + 4, none⟩) hcb).trans k4
  have cL := refLegal_any o a b c N (by omega) (by omega) (by omega) (by omega) w1
  rw [hl] at cL
  unfold insV at cL
  go_upto_region 4 with (go_at_call 32; refine cL.mono ?_; rintro ex w2 ⟨rfl, b2⟩)
  have D2 : Rgs w w2 R := ⟨D0.bel.trans (b2.mono D0.bel.size), (b2.block _ (heap_lt D0.reg)).trans D0.reg, (b2.block _ (heap_lt D0.res)).trans D0.res⟩
  clear k0 k1 k2 k3 k4
  have cF := refFault_any R pc (by omega) 1 w2
  unfold Ef.v at cF
  dsimp only at cF
  go_wp2_with (first
    | (refine wl_load25 _ rfl rfl R w.heap.size rfl D2.reg ?_)
    | (go_at_call 33; refine cF.mono ?_; rintro ex w3 ⟨rfl, b3⟩; have hres := (b3.block _ (heap_lt D2.res)).trans D2.res)
    | (refine wl_store27 _ _ rfl rfl R ((pc : Int) + 1) false 0 0 1 0 (w.heap.size + 1) _ rfl rfl hres rfl ?_))
  refine bodyPost_ret (results_cell_row rfl _ _ (w.heap.size + 1) 27 _ _ _ rfl (setRow_heap _ _ _ _ _ _ hres) Tryd.underlying27 rfl (by rw [effC_size]; exact info27)) rfl ?_
  have D3 : Rgs w w3 R := ⟨D2.bel.trans (b3.mono D2.bel.size), (b3.block _ (heap_lt D2.reg)).trans D2.reg, hres⟩
  exact ⟨rfl, D3.outBel _⟩

set_option maxHeartbeats 2000000 in
set_option maxRecDepth 100000 in
theorem refS_ok (p m : Option Addr) (n cc mn mc : Nat) (hn : n ≤ 9223372036854775807) (fx : Int) (R : Nat → Int) (pc : Nat) (hpc : pc < n) (o a b c : Nat) (N : Int) (ho : o < 256) (ha : a < 256) (hb : b < 256) (hc : c < 256) (w : World) (hcode : Here w p pc o a b c N) (hl : lg o a b c N = true) (E : Ef) (cD : ∀ w0, Below w.heap.size w w0 → Calls Tryd.prog 34 #[.slice p n cc, insV o a b c N, .slice m mn mc, .int .i64 fx, regV R, .int .i64 pc] w0 fun ex w' => ex = .returned E.v ∧ Below w0.heap.size w0 w') :
    Calls Tryd.prog 21 #[.slice p n cc, .slice m mn mc, .int .i64 fx, regV R, .int .i64 pc] w fun ex w' => ex = .returned (E.v) ∧ Below w.heap.size w w' := by
  obtain ⟨cb, co, rfl, k0, k1, k2, k3, k4⟩ := hcode
  have hcb := cell_lt k0
  have D0 := rgs_new w R
  go_enter Tryd.func21, Tryd.ntmps21
  go_upto_region 1 with (first
    | (refine wl_box25 _ rfl rfl R rfl ?_)
    | (refine wl_alloc27 rfl rfl ?_))
  generalize (w.alloc (.cells (regC R) 25)).alloc (.cells (effC zeroR 0 false 0 0 0 0) 27) = w1 at D0 ⊢
  try simp only [World.size_alloc, Act.put, List.setIfInBounds_toArray, List.set_cons_zero, List.set_cons_succ]
  have k0 := (D0.bel.cell (p := ⟨cb, co + pc * 5, none⟩) hcb).trans k0
  have k1 := (D0.bel.cell (p := ⟨cb, co + pc * 5 + 1, none⟩) hcb).trans k1
  have k2 := (D0.bel.cell (p := ⟨cb, co + pc * 5 + 2, none⟩) hcb).trans k2
  have k3 := (D0.bel.cell (p := ⟨cb, co + pc * 5 + 3, none⟩) hcb).trans k3
  have k4 := (D0.bel.cell (p := ⟨cb, co + pc * 5 + 4, none⟩) hcb).trans k4
  have cL := refLegal_any o a b c N (by omega) (by omega) (by omega) (by omega) w1
  rw [hl] at cL
  unfold insV at cL
  go_upto_region 5 with (go_at_call 32; refine cL.mono ?_; rintro ex w2 ⟨rfl, b2⟩)
  have D2 : Rgs w w2 R := ⟨D0.bel.trans (b2.mono D0.bel.size), (b2.block _ (heap_lt D0.reg)).trans D0.reg, (b2.block _ (heap_lt D0.res)).trans D0.res⟩
  have k0 : w.cell? ⟨cb, co + pc * 5, none⟩ = some (.int .u8 o) := (D0.bel.cell (p := ⟨cb, co + pc * 5, none⟩) hcb).symm.trans k0
  have k1 : w.cell? ⟨cb, co + pc * 5 + 1, none⟩ = some (.int .u8 a) := (D0.bel.cell (p := ⟨cb, co + pc * 5 + 1, none⟩) hcb).symm.trans k1
  have k2 : w.cell? ⟨cb, co + pc * 5 + 2, none⟩ = some (.int .u8 b) := (D0.bel.cell (p := ⟨cb, co + pc * 5 + 2, none⟩) hcb).symm.trans k2
  have k3 : w.cell? ⟨cb, co + pc * 5 + 3, none⟩ = some (.int .u8 c) := (D0.bel.cell (p := ⟨cb, co + pc * 5 + 3, none⟩) hcb).symm.trans k3
  have k4 : w.cell? ⟨cb, co + pc * 5 + 4, none⟩ = some (.int .i32 N) := (D0.bel.cell (p := ⟨cb, co + pc * 5 + 4, none⟩) hcb).symm.trans k4
  try simp only [Act.put, List.setIfInBounds_toArray, List.set_cons_zero, List.set_cons_succ]
  refine wp_region_held_drew (S := fun w' => He w w' R) (by kernel_rfl) (He.of D2) (fun hS => ?_)
  refine d_take 0 33 rfl rfl (by kernel_rfl) (by kernel_rfl) (by kernel_rfl) (fun _ _ _ h => h) rfl (fun w' hw' => er_move _ rfl) hS ?_
  simp only [Act.put, List.setIfInBounds_toArray, List.set_cons_zero, List.set_cons_succ]
  refine d_take 1 34 rfl rfl (by kernel_rfl) (by kernel_rfl) (by kernel_rfl) (fun _ _ _ h => h) rfl (fun w' hw' => er_move _ rfl) hS ?_
  simp only [Act.put, List.setIfInBounds_toArray, List.set_cons_zero, List.set_cons_succ]
  refine d_take 2 35 rfl rfl (by kernel_rfl) (by kernel_rfl) (by kernel_rfl) (fun _ _ _ h => h) rfl (fun w' hw' => er_move _ rfl) hS ?_
  simp only [Act.put, List.setIfInBounds_toArray, List.set_cons_zero, List.set_cons_succ]
  refine d_take 3 36 rfl rfl (by kernel_rfl) (by kernel_rfl) (by kernel_rfl) (fun _ _ _ h => h) rfl (fun w' hw' => er_index31 _ _ rfl cb co n cc pc hpc hn rfl rfl) hS ?_
  simp only [Act.put, List.setIfInBounds_toArray, List.set_cons_zero, List.set_cons_succ]
  refine d_take 4 37 rfl rfl (by kernel_rfl) (by kernel_rfl) (by kernel_rfl) (fun _ _ _ h => h) rfl (fun w' hw' => er_load30 _ rfl cb (co + pc * 5) (.int .u8 o) (.int .u8 a) (.int .u8 b) (.int .u8 c) (.int .i32 N) rfl ((hw'.bel.cell (p := ⟨cb, co + pc * 5, none⟩) hcb).trans k0) ((hw'.bel.cell (p := ⟨cb, co + pc * 5 + 1, none⟩) hcb).trans k1) ((hw'.bel.cell (p := ⟨cb, co + pc * 5 + 2, none⟩) hcb).trans k2) ((hw'.bel.cell (p := ⟨cb, co + pc * 5 + 3, none⟩) hcb).trans k3) ((hw'.bel.cell (p := ⟨cb, co + pc * 5 + 4, none⟩) hcb).trans k4)) hS ?_
  simp only [Act.put, List.setIfInBounds_toArray, List.set_cons_zero, List.set_cons_succ]
  refine d_take 5 38 rfl rfl (by kernel_rfl) (by kernel_rfl) (by kernel_rfl) (fun _ _ _ h => h) rfl (fun w' hw' => er_move _ rfl) hS ?_
  simp only [Act.put, List.setIfInBounds_toArray, List.set_cons_zero, List.set_cons_succ]
  refine d_take 6 39 rfl rfl (by kernel_rfl) (by kernel_rfl) (by kernel_rfl) (fun _ _ _ h => h) rfl (fun w' hw' => er_move _ rfl) hS ?_
  simp only [Act.put, List.setIfInBounds_toArray, List.set_cons_zero, List.set_cons_succ]
  refine d_take 7 40 rfl rfl (by kernel_rfl) (by kernel_rfl) (by kernel_rfl) (fun _ _ _ h => h) rfl (fun w' hw' => er_load25 _ rfl w.heap.size 0 R rfl (range_reg hw'.reg)) hS ?_
  simp only [Act.put, List.setIfInBounds_toArray, List.set_cons_zero, List.set_cons_succ]
  refine d_take 8 41 rfl rfl (by kernel_rfl) (by kernel_rfl) (by kernel_rfl) (fun _ _ _ h => h) rfl (fun w' hw' => er_move _ rfl) hS ?_
  simp only [Act.put, List.setIfInBounds_toArray, List.set_cons_zero, List.set_cons_succ]
  refine d_call 9 42 (v := E.v) (by kernel_rfl) rfl rfl rfl (er_call_bulkheadref06_done _ _ _ _ _ _ _ rfl) ((cD _ hS.bel).mono (by rintro ex w4 ⟨rfl, b4⟩; exact ⟨rfl, hS.grow b4⟩)) (fun w4 hS4 => ?_)
  simp only [Act.put, List.setIfInBounds_toArray, List.set_cons_zero, List.set_cons_succ]
  obtain ⟨cs, hres, hcs⟩ := hS4.res
  refine d_turn 10 (by kernel_rfl) rfl rfl rfl (er_store27 _ _ rfl E (w.heap.size + 1) cs rfl rfl hres hcs) (hS4.store _ rfl) ?_
  refine wpAnyH_done (by kernel_rfl) ?_ _
  go_wp2
  refine bodyPost_ret (results_cell_row rfl _ _ (w.heap.size + 1) 27 _ _ _ rfl (setRow_heap _ _ _ _ _ _ hres) Tryd.underlying27 rfl (by rw [effC_size]; exact info27)) rfl ?_
  exact ⟨rfl, (hS4.store _ rfl).bel⟩

theorem refStep_any (F G : Nat → Prop) (R : Nat → Int) (hR : ∀ i, I6 (R i)) (p m : Option Addr) (n cc mn mc : Nat) (fx pc : Int) (xs : List Ins) (ms : List Int) (w : World) (hc : Cs w F p n cc xs) (hz : Zs w G m mn mc ms) :
    Calls Tryd.prog 21 #[.slice p n cc, .slice m mn mc, .int .i64 fx, regV R, .int .i64 pc] w fun ex w' => ex = .returned (stepE xs ms fx R pc).v ∧ Below w.heap.size w w' := by
  have hlen := hc.len
  have hn : n ≤ 9223372036854775807 := Nat.le_trans hc.cap hc.max
  unfold stepE
  rw [hlen]
  by_cases h1 : pc < 0
  · rw [if_neg (by omega), ef_v]
    exact refS_lo p m n cc mn mc hn fx R pc w h1
  · by_cases h2 : pc ≥ n
    · rw [if_neg (by omega), ef_v]
      exact refS_hi p m n cc mn mc hn fx R pc w h1 h2
    · rw [if_pos (by omega)]
      obtain ⟨k, rfl⟩ : ∃ k : Nat, pc = k := ⟨pc.toNat, by omega⟩
      have hk : k < n := by omega
      rw [Int.toNat_natCast]
      have h := hc.at5 hk
      obtain ⟨g0, g1, g2, g3, g4⟩ := hc.okAt hk
      generalize xs.getD k ins0 = x at h g0 g1 g2 g3 g4 ⊢
      obtain ⟨o, a, b, c, N⟩ := x
      dsimp only at h g0 g1 g2 g3 g4
      unfold opE
      rw [show (Ins.mk o a b c N).lg = lg o a b c N from rfl]
      cases hl : lg o a b c N with
      | false =>
        rw [if_neg (by decide), ef_v]
        exact refS_bad p m n cc mn mc hn fx R k hk o a b c N g0 g1 g2 g3 w h hl
      | true =>
        rw [if_pos rfl]
        exact refS_ok p m n cc mn mc hn fx R k hk o a b c N g0 g1 g2 g3 w h hl _ (fun w0 b0 => refDone_any G p m n cc mn mc hn fx o a b c N g4 hl R hR ms k hk w0 (hz.kept (Kept.of_below (F := No) b0) (fun _ _ h => h)))

end Go.Proofs.YtijeaonldhccmaaDoor
