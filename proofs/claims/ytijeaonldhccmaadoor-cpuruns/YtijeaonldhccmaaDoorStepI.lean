/-
  Step: an illegal one.
-/
import Derived.Test.YtijeaonldhccmaaDoorStep1
namespace Go.Proofs.YtijeaonldhccmaaDoor
open Go.RowKit
set_option linter.unusedVariables false

set_option maxHeartbeats 4000000 in
set_option maxRecDepth 100000 in
theorem step_bad (R : Nat → Int) (p m : Option Addr) (n cc mn mc : Nat) (fx : Int) (pc o a b c : Nat) (N : Int) (w : World) (hn : n ≤ 9223372036854775807) (hpc : pc < n) (hcode : Here w p pc o a b c N) (hO : Ops w) (hl : lg o a b c N = false) (ho : o < 256) (ha : a < 256) (hb : b < 256) (hc : c < 256) :
    Calls Tryd.prog 12 #[.slice p n cc, .slice m mn mc, .int .i64 fx, regV R, .int .i64 pc] w fun ex w' => ex = .returned (effV R ((pc : Int) + 1) false 0 0 1 0) ∧ Below w.heap.size w w' := by
  obtain ⟨cb, co, rfl, k0, k1, k2, k3, k4⟩ := hcode
  have hcb := cell_lt k0
  have F0 := fr_new w R
  have HG2 := heap_second w (.cells (regC R) 25) (.cells (effC zeroR 0 false 0 0 0 0) 27)
  have hpw : wrap64 ((pc : Int) + 1) = (pc : Int) + 1 := by unfold wrap64; omega
  go_enter Tryd.func12, Tryd.ntmps12
  go_upto_region 1 with (first
    | (refine wl_box25 _ rfl rfl R rfl ?_)
    | (refine wl_alloc27 rfl rfl ?_))
  go_upto_region 2 with (first
    | (refine wl_load25 _ rfl rfl R w.heap.size rfl HG2 ?_)
    | (refine wl_build27 _ rfl rfl R rfl ?_)
    | (refine wl_alloc27 rfl rfl ?_)
    | (refine wl_store27 _ _ rfl rfl R 0 false 0 0 0 0 _ _ rfl rfl (heap_alloc_last _ _) rfl ?_; rw [World.setRow_alloc_new]))
  generalize (((w.alloc (.cells (regC R) 25)).alloc (.cells (effC zeroR 0 false 0 0 0 0) 27)).alloc (.cells (effC R 0 false 0 0 0 0) 27)) = w1 at F0 ⊢
  clear HG2
  simp only [World.size_alloc]
  have e16 := F0.at16
  have z16 := F0.fz 16
  have F1 := F0.setPc ((pc : Int) + 1)
  clear F0
  go_upto_region 7 with fail
  generalize w1.setCell ⟨w.heap.size + 1 + 1, 16, none⟩ (.int .i64 ((pc : Int) + 1)) = w2 at F1 ⊢
  clear e16 z16 w1
  have k0 := (F1.bel.cell (p := ⟨cb, co + pc * 5, none⟩) hcb).trans k0
  have k1 := (F1.bel.cell (p := ⟨cb, co + pc * 5 + 1, none⟩) hcb).trans k1
  have k2 := (F1.bel.cell (p := ⟨cb, co + pc * 5 + 2, none⟩) hcb).trans k2
  have k3 := (F1.bel.cell (p := ⟨cb, co + pc * 5 + 3, none⟩) hcb).trans k3
  have k4 := (F1.bel.cell (p := ⟨cb, co + pc * 5 + 4, none⟩) hcb).trans k4
  have hq := F1.lt2
  have F2 := F1.grow ((Below.refl w2.heap.size w2).alloc (Nat.le_refl _) (.cells #[.int .u8 o, .int .u8 a, .int .u8 b, .int .u8 c, .int .i32 N] 30)) hq
  have X := heap_alloc_last w2 (.cells #[.int .u8 o, .int .u8 a, .int .u8 b, .int .u8 c, .int .i32 N] 30)
  clear F1
  go_upto_region 8 with fail
  generalize w2.alloc (.cells #[.int .u8 o, .int .u8 a, .int .u8 b, .int .u8 c, .int .i32 N] 30) = w3 at F2 X ⊢
  clear k0 k1 k2 k3 k4 hcb
  generalize w2.heap.size = q at hq X ⊢
  clear w2
  have hb3 := F2.bel
  have hO3 := hO.below hb3 hO.pos
  have c14 := legal_any o a b c N (by omega) (by omega) (by omega) (by omega) w3 hO3
  rw [hl] at c14
  unfold insV at c14
  obtain ⟨x0, x1, x2, x3, x4⟩ := cellsX X
  go_upto_region 9 with (go_at_call 14; refine c14.mono ?_; rintro ex w4 ⟨rfl, b4⟩)
  have F3 := F2.grow b4 F2.lt2
  have X4 := (b4.block q (heap_lt X)).trans X
  clear x0 x1 x2 x3 x4 X F2 b4 c14 hb3 hO3 w3
  have e20 := F3.at20
  have z20 := F3.fz 20
  have F4 := F3.setFa 1
  go_upto_region 10 with fail
  clear F3
  generalize w4.setCell ⟨w.heap.size + 1 + 1, 20, none⟩ (.int .i64 1) = w5 at F4 ⊢
  clear e20 z20
  go_wp2_with (first
    | (refine wl_load27 _ rfl rfl R ((pc : Int) + 1) false 0 0 1 0 (w.heap.size + 1 + 1) rfl F4.eff ?_)
    | (refine wl_store27 _ _ rfl rfl R ((pc : Int) + 1) false 0 0 1 0 (w.heap.size + 1) _ rfl rfl F4.res rfl ?_))
  refine bodyPost_ret (results_cell_row rfl _ _ (w.heap.size + 1) 27 _ _ _ rfl (setRow_heap _ _ _ _ _ _ F4.res) Tryd.underlying27 rfl (by rw [effC_size]; exact info27)) rfl ?_
  exact ⟨rfl, F4.outBel _⟩

end Go.Proofs.YtijeaonldhccmaaDoor
