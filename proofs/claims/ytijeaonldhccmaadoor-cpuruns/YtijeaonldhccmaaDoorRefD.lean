/-
  The document's effects: divided, jumped.
-/
import Derived.Test.YtijeaonldhccmaaDoorHeld
namespace Go.Proofs.YtijeaonldhccmaaDoor
open Go.RowKit
set_option linter.unusedVariables false

/-- an instruction, registers, the result's cell -/
structure Trb (w0 w : World) (x : Ins) (R : Nat → Int) : Prop where
  bel : Below w0.heap.size w0 w
  ins : w.heap[w0.heap.size]? = some (.cells #[.int .u8 x.o, .int .u8 x.a, .int .u8 x.b, .int .u8 x.c, .int .i32 x.n] 30)
  reg : w.heap[w0.heap.size + 1]? = some (.cells (regC R) 25)
  res : w.heap[w0.heap.size + 1 + 1]? = some (.cells (effC zeroR 0 false 0 0 0 0) 27)
theorem trb_new (w : World) (x : Ins) (R : Nat → Int) : Trb w (((w.alloc (.cells #[.int .u8 x.o, .int .u8 x.a, .int .u8 x.b, .int .u8 x.c, .int .i32 x.n] 30)).alloc (.cells (regC R) 25)).alloc (.cells (effC zeroR 0 false 0 0 0 0) 27)) x R := by
  refine ⟨(((Below.refl _ w).alloc (Nat.le_refl _) _).alloc (by simp) _).alloc (by simp; omega) _, ?_, ?_, ?_⟩
  · rw [Below.heap_alloc _ _ _ (by simp; omega), Below.heap_alloc _ _ _ (by simp)]; exact heap_alloc_last _ _
  · rw [Below.heap_alloc _ _ _ (by simp)]
    have := heap_alloc_last (w.alloc (.cells #[.int .u8 x.o, .int .u8 x.a, .int .u8 x.b, .int .u8 x.c, .int .i32 x.n] 30)) (.cells (regC R) 25)
    simpa using this
  · have := heap_alloc_last ((w.alloc (.cells #[.int .u8 x.o, .int .u8 x.a, .int .u8 x.b, .int .u8 x.c, .int .i32 x.n] 30)).alloc (.cells (regC R) 25)) (.cells (effC zeroR 0 false 0 0 0 0) 27)
    simpa using this
namespace Trb
variable {w0 w w' : World} {x : Ins} {R : Nat → Int}
theorem lt (h : Trb w0 w x R) : w0.heap.size + 1 + 1 < w.heap.size := heap_lt h.res
theorem grow (h : Trb w0 w x R) (b : Below w.heap.size w w') : Trb w0 w' x R :=
  have hl := h.lt
  ⟨h.bel.trans (b.mono h.bel.size), (b.block _ (by omega)).trans h.ins, (b.block _ (by omega)).trans h.reg, (b.block _ hl).trans h.res⟩
theorem turn (h : Trb w0 w x R) {G : Nat → Prop} (k : Kept G w w') (hG : ∀ g, G g → w0.heap.size + 1 + 1 < g) : Trb w0 w' x R :=
  have hl := h.lt
  ⟨⟨k.os.trans h.bel.os, k.tape.trans h.bel.tape, k.output.trans h.bel.output, Nat.le_trans h.bel.size k.size, fun i hi => (k.block i (by omega) (fun hg => by have := hG i hg; omega)).trans (h.bel.block i hi)⟩,
   (k.block _ (by omega) (fun hg => by have := hG _ hg; omega)).trans h.ins, (k.block _ (by omega) (fun hg => by have := hG _ hg; omega)).trans h.reg, (k.block _ hl (fun hg => by have := hG _ hg; omega)).trans h.res⟩
theorem outBel (h : Trb w0 w x R) (cs : Array Value) : Below w0.heap.size w0 (w.setRow (w0.heap.size + 1 + 1) cs) :=
  ⟨h.bel.os, h.bel.tape, h.bel.output, by simpa [World.setRow] using h.bel.size, fun k hk => (setRow_other _ _ _ _ (by omega)).trans (h.bel.block k hk)⟩
theorem regAt (h : Trb w0 w x R) {k : Nat} (hk : k < 16) : w.cell? ⟨w0.heap.size + 1, k, none⟩ = some (.int .i64 (R k)) := (cell_of_row _ _ _ _ _ _ h.reg).trans (regC_at R hk)
end Trb

set_option maxHeartbeats 1000000 in
set_option maxRecDepth 100000 in
theorem refDiv10z (a b c : Nat) (ha : a < 16) (hb : b < 16) (hc : c < 16) (N : Int) (R : Nat → Int) (hz : (R c == 0) = true) (pc : Nat) (hpc : (pc : Int) < 9223372036854775807) (w : World) :
    Calls Tryd.prog 79 #[insV 10 a b c N, regV R, .int .i64 pc] w fun ex w' => ex = .returned (effV R ((pc : Int) + 1) false 0 0 3 0) ∧ Below w.heap.size w w' := by
  have T0 := trb_new w ⟨10, a, b, c, N⟩ R
  have hpw : wrap64 ((pc : Int) + 1) = (pc : Int) + 1 := by unfold wrap64; omega
  unfold insV
  go_enter Tryd.func79, Tryd.ntmps79
  go_upto_region 1 with (first
    | (refine wl_box25 _ rfl rfl R rfl ?_)
    | (refine wl_alloc27 rfl rfl ?_))
  have T0 : Trb w (((w.alloc (.cells #[.int .u8 10, .int .u8 a, .int .u8 b, .int .u8 c, .int .i32 N] 30)).alloc (.cells (regC R) 25)).alloc (.cells (effC zeroR 0 false 0 0 0 0) 27)) ⟨10, a, b, c, N⟩ R := T0
  generalize (((w.alloc (.cells #[.int .u8 10, .int .u8 a, .int .u8 b, .int .u8 c, .int .i32 N] 30)).alloc (.cells (regC R) 25)).alloc (.cells (effC zeroR 0 false 0 0 0 0) 27)) = w1 at T0 ⊢
  simp only [World.size_alloc]
  obtain ⟨x0, x1, x2, x3, x4⟩ := cellsX T0.ins
  dsimp only at x0 x1 x2 x3 x4
  have x0 : w1.cell? ⟨w.heap.size, 0, none⟩ = some (.int .u8 10) := x0
  have rb := T0.regAt hb
  have rc := T0.regAt hc
  have cF := refFault_any R pc hpc 3 w1
  unfold Ef.v at cF
  dsimp only at cF
  go_wp2_with (first
    | (refine wl_load25 _ rfl rfl R (w.heap.size + 1) rfl T0.reg ?_)
    | (go_at_call 33; refine cF.mono ?_; rintro ex w2 ⟨rfl, b2⟩; have T2 := T0.grow b2)
    | (refine wl_store27 _ _ rfl rfl R ((pc : Int) + 1) false 0 0 3 0 (w.heap.size + 1 + 1) _ rfl rfl T2.res rfl ?_))
  refine bodyPost_ret (results_cell_row rfl _ _ (w.heap.size + 1 + 1) 27 _ _ _ rfl (setRow_heap _ _ _ _ _ _ T2.res) Tryd.underlying27 rfl (by rw [effC_size]; exact info27)) rfl ?_
  exact ⟨rfl, T2.outBel _⟩

set_option maxHeartbeats 1000000 in
set_option maxRecDepth 100000 in
theorem refDiv10n (a b c : Nat) (ha : a < 16) (hb : b < 16) (hc : c < 16) (N : Int) (R : Nat → Int) (hz : (R c == 0) = false) (QV RV : Int) (cQ : ∀ w0, Calls Tryd.prog 77 #[.int .i64 (R b), .int .i64 (R c)] w0 fun ex w' => ex = .returned (.tuple #[.int .i64 QV, .int .i64 RV]) ∧ w' = w0) (pc : Nat) (hpc : (pc : Int) < 9223372036854775807) (w : World) :
    Calls Tryd.prog 79 #[insV 10 a b c N, regV R, .int .i64 pc] w fun ex w' => ex = .returned (effV (upd R a QV) ((pc : Int) + 1) false 0 0 0 0) ∧ Below w.heap.size w w' := by
  have T0 := trb_new w ⟨10, a, b, c, N⟩ R
  have hpw : wrap64 ((pc : Int) + 1) = (pc : Int) + 1 := by unfold wrap64; omega
  unfold insV
  go_enter Tryd.func79, Tryd.ntmps79
  go_upto_region 1 with (first
    | (refine wl_box25 _ rfl rfl R rfl ?_)
    | (refine wl_alloc27 rfl rfl ?_))
  have T0 : Trb w (((w.alloc (.cells #[.int .u8 10, .int .u8 a, .int .u8 b, .int .u8 c, .int .i32 N] 30)).alloc (.cells (regC R) 25)).alloc (.cells (effC zeroR 0 false 0 0 0 0) 27)) ⟨10, a, b, c, N⟩ R := T0
  generalize (((w.alloc (.cells #[.int .u8 10, .int .u8 a, .int .u8 b, .int .u8 c, .int .i32 N] 30)).alloc (.cells (regC R) 25)).alloc (.cells (effC zeroR 0 false 0 0 0 0) 27)) = w1 at T0 ⊢
  simp only [World.size_alloc]
  obtain ⟨x0, x1, x2, x3, x4⟩ := cellsX T0.ins
  dsimp only at x0 x1 x2 x3 x4
  have x0 : w1.cell? ⟨w.heap.size, 0, none⟩ = some (.int .u8 10) := x0
  have rb := T0.regAt hb
  have rc := T0.regAt hc
  have T3 := T0.grow ((Below.refl w1.heap.size w1).alloc (Nat.le_refl _) (.cells (effC R ((pc : Int) + 1) false 0 0 0 0) 27))
  have E3 := heap_alloc_last w1 (.cells (effC R ((pc : Int) + 1) false 0 0 0 0) 27)
  go_upto_region 7 with (first
    | (go_at_call 77; refine (cQ _).mono ?_; rintro ex w2 ⟨rfl, hw⟩; obtain rfl := hw.symm)
    | (refine wl_load25 _ rfl rfl R (w.heap.size + 1) rfl T0.reg ?_)
    | (refine wl_build27b _ _ rfl rfl R ((pc : Int) + 1) rfl rfl ?_)
    | (refine wl_alloc27 rfl rfl ?_)
    | (refine wl_store27 _ _ rfl rfl R ((pc : Int) + 1) false 0 0 0 0 _ _ rfl rfl (heap_alloc_last _ _) rfl ?_; rw [new_store]))
  clear x0 x1 x2 x3 x4 rb rc cQ
  generalize w1.alloc (.cells (effC R ((pc : Int) + 1) false 0 0 0 0) 27) = w3 at T3 E3 ⊢
  generalize w1.heap.size = q at E3 ⊢
  obtain ⟨x0, x1, x2, x3, x4⟩ := cellsX T3.ins
  have x0 : w3.cell? ⟨w.heap.size, 0, none⟩ = some (.int .u8 10) := x0
  have cW := refWith_any ⟨R, (pc : Int) + 1, false, 0, 0, 0, 0⟩ a ha QV w3
  unfold Ef.v at cW
  dsimp only at cW x1
  go_wp2_with (first
    | (refine wl_load27 _ rfl rfl R ((pc : Int) + 1) false 0 0 0 0 q rfl E3 ?_)
    | (go_at_call 76; refine cW.mono ?_; rintro ex w4 ⟨rfl, b4⟩; have T4 := T3.grow b4)
    | (refine wl_store27 _ _ rfl rfl (upd R a QV) ((pc : Int) + 1) false 0 0 0 0 (w.heap.size + 1 + 1) _ rfl rfl T4.res rfl ?_))
  refine bodyPost_ret (results_cell_row rfl _ _ (w.heap.size + 1 + 1) 27 _ _ _ rfl (setRow_heap _ _ _ _ _ _ T4.res) Tryd.underlying27 rfl (by rw [effC_size]; exact info27)) rfl ?_
  exact ⟨rfl, T4.outBel _⟩

set_option maxHeartbeats 1000000 in
set_option maxRecDepth 100000 in
theorem refDiv11z (a b c : Nat) (ha : a < 16) (hb : b < 16) (hc : c < 16) (N : Int) (R : Nat → Int) (hz : (R c == 0) = true) (pc : Nat) (hpc : (pc : Int) < 9223372036854775807) (w : World) :
    Calls Tryd.prog 79 #[insV 11 a b c N, regV R, .int .i64 pc] w fun ex w' => ex = .returned (effV R ((pc : Int) + 1) false 0 0 3 0) ∧ Below w.heap.size w w' := by
  have T0 := trb_new w ⟨11, a, b, c, N⟩ R
  have hpw : wrap64 ((pc : Int) + 1) = (pc : Int) + 1 := by unfold wrap64; omega
  unfold insV
  go_enter Tryd.func79, Tryd.ntmps79
  go_upto_region 1 with (first
    | (refine wl_box25 _ rfl rfl R rfl ?_)
    | (refine wl_alloc27 rfl rfl ?_))
  have T0 : Trb w (((w.alloc (.cells #[.int .u8 11, .int .u8 a, .int .u8 b, .int .u8 c, .int .i32 N] 30)).alloc (.cells (regC R) 25)).alloc (.cells (effC zeroR 0 false 0 0 0 0) 27)) ⟨11, a, b, c, N⟩ R := T0
  generalize (((w.alloc (.cells #[.int .u8 11, .int .u8 a, .int .u8 b, .int .u8 c, .int .i32 N] 30)).alloc (.cells (regC R) 25)).alloc (.cells (effC zeroR 0 false 0 0 0 0) 27)) = w1 at T0 ⊢
  simp only [World.size_alloc]
  obtain ⟨x0, x1, x2, x3, x4⟩ := cellsX T0.ins
  dsimp only at x0 x1 x2 x3 x4
  have x0 : w1.cell? ⟨w.heap.size, 0, none⟩ = some (.int .u8 11) := x0
  have rb := T0.regAt hb
  have rc := T0.regAt hc
  have cF := refFault_any R pc hpc 3 w1
  unfold Ef.v at cF
  dsimp only at cF
  go_wp2_with (first
    | (refine wl_load25 _ rfl rfl R (w.heap.size + 1) rfl T0.reg ?_)
    | (go_at_call 33; refine cF.mono ?_; rintro ex w2 ⟨rfl, b2⟩; have T2 := T0.grow b2)
    | (refine wl_store27 _ _ rfl rfl R ((pc : Int) + 1) false 0 0 3 0 (w.heap.size + 1 + 1) _ rfl rfl T2.res rfl ?_))
  refine bodyPost_ret (results_cell_row rfl _ _ (w.heap.size + 1 + 1) 27 _ _ _ rfl (setRow_heap _ _ _ _ _ _ T2.res) Tryd.underlying27 rfl (by rw [effC_size]; exact info27)) rfl ?_
  exact ⟨rfl, T2.outBel _⟩

set_option maxHeartbeats 1000000 in
set_option maxRecDepth 100000 in
theorem refDiv11n (a b c : Nat) (ha : a < 16) (hb : b < 16) (hc : c < 16) (N : Int) (R : Nat → Int) (hz : (R c == 0) = false) (QV RV : Int) (cQ : ∀ w0, Calls Tryd.prog 77 #[.int .i64 (R b), .int .i64 (R c)] w0 fun ex w' => ex = .returned (.tuple #[.int .i64 QV, .int .i64 RV]) ∧ w' = w0) (pc : Nat) (hpc : (pc : Int) < 9223372036854775807) (w : World) :
    Calls Tryd.prog 79 #[insV 11 a b c N, regV R, .int .i64 pc] w fun ex w' => ex = .returned (effV (upd R a RV) ((pc : Int) + 1) false 0 0 0 0) ∧ Below w.heap.size w w' := by
  have T0 := trb_new w ⟨11, a, b, c, N⟩ R
  have hpw : wrap64 ((pc : Int) + 1) = (pc : Int) + 1 := by unfold wrap64; omega
  unfold insV
  go_enter Tryd.func79, Tryd.ntmps79
  go_upto_region 1 with (first
    | (refine wl_box25 _ rfl rfl R rfl ?_)
    | (refine wl_alloc27 rfl rfl ?_))
  have T0 : Trb w (((w.alloc (.cells #[.int .u8 11, .int .u8 a, .int .u8 b, .int .u8 c, .int .i32 N] 30)).alloc (.cells (regC R) 25)).alloc (.cells (effC zeroR 0 false 0 0 0 0) 27)) ⟨11, a, b, c, N⟩ R := T0
  generalize (((w.alloc (.cells #[.int .u8 11, .int .u8 a, .int .u8 b, .int .u8 c, .int .i32 N] 30)).alloc (.cells (regC R) 25)).alloc (.cells (effC zeroR 0 false 0 0 0 0) 27)) = w1 at T0 ⊢
  simp only [World.size_alloc]
  obtain ⟨x0, x1, x2, x3, x4⟩ := cellsX T0.ins
  dsimp only at x0 x1 x2 x3 x4
  have x0 : w1.cell? ⟨w.heap.size, 0, none⟩ = some (.int .u8 11) := x0
  have rb := T0.regAt hb
  have rc := T0.regAt hc
  have T3 := T0.grow ((Below.refl w1.heap.size w1).alloc (Nat.le_refl _) (.cells (effC R ((pc : Int) + 1) false 0 0 0 0) 27))
  have E3 := heap_alloc_last w1 (.cells (effC R ((pc : Int) + 1) false 0 0 0 0) 27)
  go_upto_region 7 with (first
    | (go_at_call 77; refine (cQ _).mono ?_; rintro ex w2 ⟨rfl, hw⟩; obtain rfl := hw.symm)
    | (refine wl_load25 _ rfl rfl R (w.heap.size + 1) rfl T0.reg ?_)
    | (refine wl_build27b _ _ rfl rfl R ((pc : Int) + 1) rfl rfl ?_)
    | (refine wl_alloc27 rfl rfl ?_)
    | (refine wl_store27 _ _ rfl rfl R ((pc : Int) + 1) false 0 0 0 0 _ _ rfl rfl (heap_alloc_last _ _) rfl ?_; rw [new_store]))
  clear x0 x1 x2 x3 x4 rb rc cQ
  generalize w1.alloc (.cells (effC R ((pc : Int) + 1) false 0 0 0 0) 27) = w3 at T3 E3 ⊢
  generalize w1.heap.size = q at E3 ⊢
  obtain ⟨x0, x1, x2, x3, x4⟩ := cellsX T3.ins
  have x0 : w3.cell? ⟨w.heap.size, 0, none⟩ = some (.int .u8 11) := x0
  have cW := refWith_any ⟨R, (pc : Int) + 1, false, 0, 0, 0, 0⟩ a ha RV w3
  unfold Ef.v at cW
  dsimp only at cW x1
  go_wp2_with (first
    | (refine wl_load27 _ rfl rfl R ((pc : Int) + 1) false 0 0 0 0 q rfl E3 ?_)
    | (go_at_call 76; refine cW.mono ?_; rintro ex w4 ⟨rfl, b4⟩; have T4 := T3.grow b4)
    | (refine wl_store27 _ _ rfl rfl (upd R a RV) ((pc : Int) + 1) false 0 0 0 0 (w.heap.size + 1 + 1) _ rfl rfl T4.res rfl ?_))
  refine bodyPost_ret (results_cell_row rfl _ _ (w.heap.size + 1 + 1) 27 _ _ _ rfl (setRow_heap _ _ _ _ _ _ T4.res) Tryd.underlying27 rfl (by rw [effC_size]; exact info27)) rfl ?_
  exact ⟨rfl, T4.outBel _⟩

end Go.Proofs.YtijeaonldhccmaaDoor
