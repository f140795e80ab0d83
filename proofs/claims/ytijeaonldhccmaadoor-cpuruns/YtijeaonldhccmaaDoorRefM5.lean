/-
  The document's effects: memory, a load.
-/
import Derived.Test.YtijeaonldhccmaaDoorRefM
namespace Go.Proofs.YtijeaonldhccmaaDoor
open Go.RowKit
set_option linter.unusedVariables false

set_option maxHeartbeats 2000000 in
set_option maxRecDepth 100000 in
theorem refM5ok (m : Option Addr) (mn mc : Nat) (hmn : mn ≤ 9223372036854775807) (fx : Int) (a b c : Nat) (ha : a < 16) (hb : b < 16) (N : Int) (hN : -2147483648 ≤ N ∧ N ≤ 2147483647) (R : Nat → Int) (mb mo d : Nat) (V : Int) (hm : m = some ⟨mb, mo, none⟩) (A : Int) (hA : wrap64 (R b + N) = A) (h1 : ¬ A < 0) (h2 : ¬ A ≥ mn) (hAd : Hid (A = (d : Int))) (pc : Nat) (hpc : (pc : Int) < 9223372036854775807) (w : World) (hcell : w.cell? ⟨mb, mo + d, none⟩ = some (.int .i64 V)) :
    Calls Tryd.prog 78 #[insV 5 a b c N, .slice m mn mc, .int .i64 fx, regV R, .int .i64 pc] w fun ex w' => ex = .returned (effV (upd R a V) ((pc : Int) + 1) false 0 0 0 0) ∧ Below w.heap.size w w' := by
  subst hm
  have T0 := trb_new w ⟨5, a, b, c, N⟩ R
  have hpw : wrap64 ((pc : Int) + 1) = (pc : Int) + 1 := by unfold wrap64; omega
  have hNi : IntKind.i64.wrap N = N := by rw [w64i, w6_id]; unfold I6; omega
  have hNi2 : wrap64 N = N := by rw [w6_id]; unfold I6; omega
  unfold insV
  go_enter Tryd.func78, Tryd.ntmps78
  go_upto_region 1 with (first
    | (refine wl_box25 _ rfl rfl R rfl ?_)
    | (refine wl_alloc27 rfl rfl ?_))
  have T0 : Trb w (((w.alloc (.cells #[.int .u8 5, .int .u8 a, .int .u8 b, .int .u8 c, .int .i32 N] 30)).alloc (.cells (regC R) 25)).alloc (.cells (effC zeroR 0 false 0 0 0 0) 27)) ⟨5, a, b, c, N⟩ R := T0
  generalize (((w.alloc (.cells #[.int .u8 5, .int .u8 a, .int .u8 b, .int .u8 c, .int .i32 N] 30)).alloc (.cells (regC R) 25)).alloc (.cells (effC zeroR 0 false 0 0 0 0) 27)) = w0 at T0 ⊢
  simp only [World.size_alloc]
  obtain ⟨x0, x1, x2, x3, x4⟩ := cellsX T0.ins
  dsimp only at x0 x1 x2 x3 x4
  have rb := T0.regAt hb
  try simp only [Act.put, List.setIfInBounds_toArray, List.set_cons_zero, List.set_cons_succ]
  go_quiet (fail)
  have T0 := T0.drewN nq
  generalize w0.drewN nq = w1 at T0 ⊢
  clear x0 x1 x2 x3 x4 rb
  obtain ⟨x0, x1, x2, x3, x4⟩ := cellsX T0.ins
  dsimp only at x1 x2 x3 x4
  have x0 : w1.cell? ⟨w.heap.size, 0, none⟩ = some (.int .u8 5) := x0
  have T3 := T0.grow ((Below.refl w1.heap.size w1).alloc (Nat.le_refl _) (.cells (effC R ((pc : Int) + 1) false 0 0 0 0) 27))
  have E3 := heap_alloc_last w1 (.cells (effC R ((pc : Int) + 1) false 0 0 0 0) 27)
  have hq := T0.lt
  go_upto_region 4 with fail
  go_upto_region 5 with (first
    | (refine wl_load25 _ rfl rfl R (w.heap.size + 1) rfl T0.reg ?_)
    | (refine wl_build27b _ _ rfl rfl R ((pc : Int) + 1) rfl rfl ?_)
    | (refine wl_alloc27 rfl rfl ?_)
    | (refine wl_store27 _ _ rfl rfl R ((pc : Int) + 1) false 0 0 0 0 _ _ rfl rfl (heap_alloc_last _ _) rfl ?_; rw [new_store]))
  have hq1 : Below w1.heap.size w1 (w1.alloc (.cells (effC R ((pc : Int) + 1) false 0 0 0 0) 27)) := (Below.refl w1.heap.size w1).alloc (Nat.le_refl _) _
  clear x0 x1 x2 x3 x4
  generalize w1.alloc (.cells (effC R ((pc : Int) + 1) false 0 0 0 0) 27) = w3 at T3 E3 hq1 ⊢
  generalize w1.heap.size = q at E3 hq ⊢
  obtain ⟨x0, x1, x2, x3, x4⟩ := cellsX T3.ins
  dsimp only at x1 x2 x3 x4
  have x0 : w3.cell? ⟨w.heap.size, 0, none⟩ = some (.int .u8 5) := x0
  obtain ⟨e16, e17, e18, e19, e20, e21, z⟩ := c21 E3
  have hc3 : w3.cell? ⟨mb, mo + d, none⟩ = some (.int .i64 V) := (T3.bel.cell (p := ⟨mb, mo + d, none⟩) (cell_lt hcell)).trans hcell
  have hq3 := heap_lt E3
  have hi3 := heap_lt T3.ins
  have hm3 := cell_lt hc3
  have hmb : mb ≠ w.heap.size + 1 + 1 := by have := cell_lt hcell; dsimp only at this; omega
  have hq2 : w.heap.size + 1 + 1 < q := hq
  clear e16 e17 e18 e19 e20 e21 z hcell
  go_upto_region 6 with fail
  obtain rfl := hAd.out
  have hd : d < mn := by omega
  try simp only [Act.put, List.setIfInBounds_toArray, List.set_cons_zero, List.set_cons_succ]
  refine wp_region_held_drew (S := fun w' => Hd w w' ⟨5, a, b, c, N⟩ R q ⟨R, (pc : Int) + 1, false, 0, 0, 0, 0⟩ ∧ w'.cell? ⟨mb, mo + d, none⟩ = some (.int .i64 V)) (by kernel_rfl) ⟨(Hd.of T3 E3).drew, hc3⟩ (fun hS => ?_)
  refine d_take 0 50 rfl rfl (by kernel_rfl) (by kernel_rfl) (by kernel_rfl) (fun _ _ _ h => h) rfl (fun w' hw' => er_load27 _ rfl ⟨R, (pc : Int) + 1, false, 0, 0, 0, 0⟩ q rfl hw'.1.eff) hS ?_
  simp only [Act.put, List.setIfInBounds_toArray, List.set_cons_zero, List.set_cons_succ]
  refine d_take 1 51 rfl rfl (by kernel_rfl) (by kernel_rfl) (by kernel_rfl) (fun _ _ _ h => h) rfl (fun w' hw' => er_f30_1 _ rfl w.heap.size rfl) hS ?_
  simp only [Act.put, List.setIfInBounds_toArray, List.set_cons_zero, List.set_cons_succ]
  refine d_take 2 52 rfl rfl (by kernel_rfl) (by kernel_rfl) (by kernel_rfl) (fun _ _ _ h => h) rfl (fun w' hw' => er_load5 _ rfl w.heap.size 1 (.int .u8 a) rfl (cellsX hw'.1.ins).2.1) hS ?_
  simp only [Act.put, List.setIfInBounds_toArray, List.set_cons_zero, List.set_cons_succ]
  refine d_take 3 53 rfl rfl (by kernel_rfl) (by kernel_rfl) (by kernel_rfl) (fun _ _ _ h => h) rfl (fun w' hw' => er_move _ rfl) hS ?_
  simp only [Act.put, List.setIfInBounds_toArray, List.set_cons_zero, List.set_cons_succ]
  refine d_take 4 54 rfl rfl (by kernel_rfl) (by kernel_rfl) (by kernel_rfl) (fun _ _ _ h => h) rfl (fun w' hw' => er_move _ rfl) hS ?_
  simp only [Act.put, List.setIfInBounds_toArray, List.set_cons_zero, List.set_cons_succ]
  refine d_take 5 55 rfl rfl (by kernel_rfl) (by kernel_rfl) (by kernel_rfl) (fun _ _ _ h => h) rfl (fun w' hw' => er_index34 _ _ rfl mb mo mn mc d hd hmn rfl rfl) hS ?_
  simp only [Act.put, List.setIfInBounds_toArray, List.set_cons_zero, List.set_cons_succ]
  refine d_take 6 56 rfl rfl (by kernel_rfl) (by kernel_rfl) (by kernel_rfl) (fun _ _ _ h => h) rfl (fun w' hw' => er_load2 _ rfl mb (mo + d) (.int .i64 V) rfl hw'.2) hS ?_
  simp only [Act.put, List.setIfInBounds_toArray, List.set_cons_zero, List.set_cons_succ]
  refine d_call 7 57 (v := Ef.v ⟨upd R a V, (pc : Int) + 1, false, 0, 0, 0, 0⟩) (by kernel_rfl) rfl rfl rfl (er_call_bulkheadref06_with _ _ _ _ rfl) ((refWith_any ⟨R, (pc : Int) + 1, false, 0, 0, 0, 0⟩ a ha V _).mono (by rintro ex w4 ⟨rfl, b4⟩; exact ⟨rfl, hS.1.grow b4, (b4.cell (p := ⟨mb, mo + d, none⟩) (cell_lt hS.2)).trans hS.2⟩)) (fun w4 hS4 => ?_)
  simp only [Act.put, List.setIfInBounds_toArray, List.set_cons_zero, List.set_cons_succ]
  obtain ⟨cs, hres, hcs⟩ := hS4.1.res
  refine d_turn 8 (by kernel_rfl) rfl rfl rfl (er_store27 _ _ rfl ⟨upd R a V, (pc : Int) + 1, false, 0, 0, 0, 0⟩ (w.heap.size + 1 + 1) cs rfl rfl hres hcs) ⟨hS4.1.store hq2 _ rfl, ?_⟩ ?_
  · exact (World.cell?_of_block (setRow_other _ _ _ _ hmb)).trans hS4.2
  · refine wpAnyH_done (by kernel_rfl) ?_ _
    go_wp2
    refine bodyPost_ret (results_cell_row rfl _ _ (w.heap.size + 1 + 1) 27 _ _ _ rfl (setRow_heap _ _ _ _ _ _ hres) Tryd.underlying27 rfl (by rw [effC_size]; exact info27)) rfl ?_
    exact ⟨rfl, (hS4.1.store hq2 _ rfl).bel⟩

/-- memory, as the whole -/
theorem refMem5 (G : Nat → Prop) (n : Nat) (m : Option Addr) (mn mc : Nat) (fx : Int) (a b c : Nat) (ha : a < 16) (hb : b < 16) (N : Int) (hN : -2147483648 ≤ N ∧ N ≤ 2147483647) (R : Nat → Int) (ms : List Int) (pc : Nat) (hpc : (pc : Int) < 9223372036854775807) (w : World) (hz : Zs w G m mn mc ms) :
    Calls Tryd.prog 78 #[insV 5 a b c N, .slice m mn mc, .int .i64 fx, regV R, .int .i64 pc] w fun ex w' => ex = .returned (doE n ⟨5, a, b, c, N⟩ ms fx R pc).v ∧ Below w.heap.size w w' := by
  have hmn : mn ≤ 9223372036854775807 := Nat.le_trans hz.cap hz.max
  rw [doE5]
  by_cases h1 : wrap64 (R b + N) < 0
  · rw [if_neg (by rw [hz.len, wi_iff]; omega), ef_v]
    exact refM5lo m mn mc hmn fx a b c ha hb N hN R h1 pc hpc w
  · by_cases h2 : wrap64 (R b + N) ≥ mn
    · rw [if_neg (by rw [hz.len, wi_iff]; omega), ef_v]
      exact refM5hi m mn mc hmn fx a b c ha hb N hN R h1 h2 pc hpc w
    · rw [if_pos (by rw [hz.len, wi_iff]; omega), ef_v]
      obtain ⟨d, hd⟩ : ∃ d : Nat, wrap64 (R b + N) = d := ⟨(wrap64 (R b + N)).toNat, by omega⟩
      obtain ⟨mb, mo, hm, _, hcell⟩ := hz.at' d (by omega)
      have hV : mmVal ms (wrap64 (R b + N)) = ms.getD d 0 := by unfold mmVal; rw [if_pos (by rw [hz.len, wi_iff]; omega), hd, Int.toNat_natCast]
      rw [hV]
      exact refM5ok m mn mc hmn fx a b c ha hb N hN R mb mo d (ms.getD d 0) hm (wrap64 (R b + N)) rfl h1 h2 hd pc hpc w hcell
theorem refMem6 (G : Nat → Prop) (n : Nat) (m : Option Addr) (mn mc : Nat) (fx : Int) (a b c : Nat) (ha : a < 16) (hb : b < 16) (N : Int) (hN : -2147483648 ≤ N ∧ N ≤ 2147483647) (R : Nat → Int) (ms : List Int) (pc : Nat) (hpc : (pc : Int) < 9223372036854775807) (w : World) (hz : Zs w G m mn mc ms) :
    Calls Tryd.prog 78 #[insV 6 a b c N, .slice m mn mc, .int .i64 fx, regV R, .int .i64 pc] w fun ex w' => ex = .returned (doE n ⟨6, a, b, c, N⟩ ms fx R pc).v ∧ Below w.heap.size w w' := by
  have hmn : mn ≤ 9223372036854775807 := Nat.le_trans hz.cap hz.max
  have key : wb ms.length fx (wrap64 (R b + N)) 1 = true ↔ (0 ≤ wrap64 (R b + N) ∧ wrap64 (R b + N) < mn ∧ fx ≤ wrap64 (R b + N)) := by
    unfold wb
    rw [Bool.and_eq_true, wi_iff, hz.len, decide_eq_true_iff]
    omega
  rw [doE6]
  by_cases h1 : wrap64 (R b + N) < 0
  · rw [if_neg (by rw [key]; omega), ef_v]
    exact refM6lo m mn mc hmn fx a b c ha hb N hN R h1 pc hpc w
  · by_cases h2 : wrap64 (R b + N) ≥ mn
    · rw [if_neg (by rw [key]; omega), ef_v]
      exact refM6hi m mn mc hmn fx a b c ha hb N hN R h1 h2 pc hpc w
    · by_cases h3 : wrap64 (R b + N) < fx
      · rw [if_neg (by rw [key]; omega), ef_v]
        exact refM6fx m mn mc hmn fx a b c ha hb N hN R h1 h2 h3 pc hpc w
      · rw [if_pos (by rw [key]; omega), ef_v]
        exact refM6ok m mn mc hmn fx a b c ha hb N hN R (wrap64 (R b + N)) rfl h1 h2 h3 pc hpc w

end Go.Proofs.YtijeaonldhccmaaDoor
