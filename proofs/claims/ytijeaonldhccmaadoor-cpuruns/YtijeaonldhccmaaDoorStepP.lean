/-
  Step: a place.
-/
import Derived.Test.YtijeaonldhccmaaDoorStep1
namespace Go.Proofs.YtijeaonldhccmaaDoor
open Go.RowKit
set_option linter.unusedVariables false

set_option maxHeartbeats 4000000 in
set_option maxRecDepth 100000 in
theorem step_place (R : Nat → Int) (p m : Option Addr) (n cc mn mc : Nat) (fx : Int) (pc o a b c : Nat) (N : Int) (w : World) (hn : n ≤ 9223372036854775807) (hpc : pc < n) (hN : -2147483648 ≤ N ∧ N ≤ 2147483647) (hcode : Here w p pc o a b c N) (hO : Ops w) (hl : lg o a b c N = true) (ho : o < 28) (ha : a < 16) (hb : b < 16) (hc : c < 16) (J : Nat) (hJ : ∀ args w, Sem.run Tryd.prog (callFunc J args) w = Result.ok (Next.enter J args) w) (hrow : tabC.extract (o * 4) (o * 4 + 4) = #[.nilFunc, .nilFunc, (fnV J), .nilFunc]) (V : Int) (cJ : ∀ w0, Calls Tryd.prog J #[turnV (R a) (R b) (R c) N ((pc : Int) + 1) (.slice m mn mc) fx] w0 fun ex w1 => ex = .returned (.int .i64 V) ∧ Below w0.heap.size w0 w1) :
    Calls Tryd.prog 12 #[.slice p n cc, .slice m mn mc, .int .i64 fx, regV R, .int .i64 pc] w fun ex w' => ex = .returned (effV R (bri V n) false 0 0 0 0) ∧ Below w.heap.size w w' := by
  obtain ⟨cb, co, rfl, k0, k1, k2, k3, k4⟩ := hcode
  have hcb := cell_lt k0
  have F0 := fr_new w R
  have HG2 := heap_second w (.cells (regC R) 25) (.cells (effC zeroR 0 false 0 0 0 0) 27)
  have hpw : wrap64 ((pc : Int) + 1) = (pc : Int) + 1 := by unfold wrap64; omega
  go_enter Tryd.func12, Tryd.ntmps12
  go_upto_region 1 with (first
    | (refine wl_box25 _ rfl rfl R rfl ?_)
    | (refine wl_alloc27 rfl rfl ?_))
  go_upto_region 2 with (first
    | (refine wl_load25 _ rfl rfl R w.heap.size rfl HG2 ?_)
    | (refine wl_build27 _ rfl rfl R rfl ?_)
    | (refine wl_alloc27 rfl rfl ?_)
    | (refine wl_store27 _ _ rfl rfl R 0 false 0 0 0 0 _ _ rfl rfl (heap_alloc_last _ _) rfl ?_; rw [World.setRow_alloc_new]))
  generalize (((w.alloc (.cells (regC R) 25)).alloc (.cells (effC zeroR 0 false 0 0 0 0) 27)).alloc (.cells (effC R 0 false 0 0 0 0) 27)) = w1 at F0 ⊢
  clear HG2
  simp only [World.size_alloc]
  have e16 := F0.at16
  have z16 := F0.fz 16
  have F1 := F0.setPc ((pc : Int) + 1)
  clear F0
  go_upto_region 7 with fail
  generalize w1.setCell ⟨w.heap.size + 1 + 1, 16, none⟩ (.int .i64 ((pc : Int) + 1)) = w2 at F1 ⊢
  clear e16 z16 w1
  have k0 := (F1.bel.cell (p := ⟨cb, co + pc * 5, none⟩) hcb).trans k0
  have k1 := (F1.bel.cell (p := ⟨cb, co + pc * 5 + 1, none⟩) hcb).trans k1
  have k2 := (F1.bel.cell (p := ⟨cb, co + pc * 5 + 2, none⟩) hcb).trans k2
  have k3 := (F1.bel.cell (p := ⟨cb, co + pc * 5 + 3, none⟩) hcb).trans k3
  have k4 := (F1.bel.cell (p := ⟨cb, co + pc * 5 + 4, none⟩) hcb).trans k4
  have hq := F1.lt2
  have F2 := F1.grow ((Below.refl w2.heap.size w2).alloc (Nat.le_refl _) (.cells #[.int .u8 o, .int .u8 a, .int .u8 b, .int .u8 c, .int .i32 N] 30)) hq
  have X := heap_alloc_last w2 (.cells #[.int .u8 o, .int .u8 a, .int .u8 b, .int .u8 c, .int .i32 N] 30)
  clear F1
  go_upto_region 8 with fail
  generalize w2.alloc (.cells #[.int .u8 o, .int .u8 a, .int .u8 b, .int .u8 c, .int .i32 N] 30) = w3 at F2 X ⊢
  clear k0 k1 k2 k3 k4 hcb
  generalize w2.heap.size = q at hq X ⊢
  clear w2
  have hb3 := F2.bel
  have hO3 := hO.below hb3 hO.pos
  have c14 := legal_any o a b c N (by omega) (by omega) (by omega) (by omega) w3 hO3
  rw [hl] at c14
  unfold insV at c14
  obtain ⟨x0, x1, x2, x3, x4⟩ := cellsX X
  go_upto_region 11 with (go_at_call 14; refine c14.mono ?_; rintro ex w4 ⟨rfl, b4⟩)
  have F3 := F2.grow b4 F2.lt2
  have X4 := (b4.block q (heap_lt X)).trans X
  clear x0 x1 x2 x3 x4 X F2 b4 c14 hb3 hO3 w3
  obtain ⟨x0, x1, x2, x3, x4⟩ := cellsX X4
  have r1 := F3.box ha
  have r2 := F3.box hb
  have r3 := F3.box hc
  obtain ⟨ra, hra⟩ : ∃ ra, R a = ra := ⟨_, rfl⟩
  obtain ⟨rb, hrb⟩ : ∃ rb, R b = rb := ⟨_, rfl⟩
  obtain ⟨rc, hrc⟩ : ∃ rc, R c = rc := ⟨_, rfl⟩
  rw [hra] at r1
  rw [hrb] at r2
  rw [hrc] at r3
  have HR : Hid (R a = ra ∧ R b = rb ∧ R c = rc) := ⟨hra, hrb, hrc⟩
  clear hra hrb hrc
  have hpi : IntKind.i64.wrap ((pc : Int) + 1) = (pc : Int) + 1 := by rw [w64i]; exact hpw
  have hNi : IntKind.i64.wrap N = N := by rw [w64i, w6_id]; unfold I6; omega
  have hq4 := F3.lt2
  have hX4 := heap_lt X4
  have ai : (a : Int) < 16 := by omega
  have bi : (b : Int) < 16 := by omega
  have ci : (c : Int) < 16 := by omega
  go_region_held (fun w' => w'.cell? ⟨q, 0, none⟩ = some (.int .u8 o) ∧ w'.cell? ⟨q, 1, none⟩ = some (.int .u8 a) ∧ w'.cell? ⟨q, 2, none⟩ = some (.int .u8 b) ∧ w'.cell? ⟨q, 3, none⟩ = some (.int .u8 c) ∧ w'.cell? ⟨q, 4, none⟩ = some (.int .i32 N) ∧ w'.cell? ⟨w.heap.size, a, none⟩ = some (.int .i64 ra) ∧ w'.cell? ⟨w.heap.size, b, none⟩ = some (.int .i64 rb) ∧ w'.cell? ⟨w.heap.size, c, none⟩ = some (.int .i64 rc)) (go_keep) (fail)
  rename_i hHe
  clear hHe r1 r2 r3 x0 x1 x2 x3 x4
  have gb4 : Below w4.heap.size w4 (w4.alloc (.cells #[.int .i64 ra, .int .i64 rb, .int .i64 rc, .int .i64 N, .int .i64 ((pc : Int) + 1), .slice m mn mc, .int .i64 fx] 55)).drew := ((Below.refl w4.heap.size w4).alloc (Nat.le_refl _) _).drew
  have F4 := F3.grow gb4 hq4
  have X5 := (gb4.block q hX4).trans X4
  have T5 : (w4.alloc (.cells #[.int .i64 ra, .int .i64 rb, .int .i64 rc, .int .i64 N, .int .i64 ((pc : Int) + 1), .slice m mn mc, .int .i64 fx] 55)).drew.heap[w4.heap.size]? = some (.cells #[.int .i64 ra, .int .i64 rb, .int .i64 rc, .int .i64 N, .int .i64 ((pc : Int) + 1), .slice m mn mc, .int .i64 fx] 55) := heap_alloc_last w4 _
  clear gb4 F3 X4
  go_upto_region 12 with fail
  generalize (w4.alloc (.cells #[.int .i64 ra, .int .i64 rb, .int .i64 rc, .int .i64 N, .int .i64 ((pc : Int) + 1), .slice m mn mc, .int .i64 fx] 55)).drew = w5 at F4 X5 T5 ⊢
  generalize w4.heap.size = q2 at hq4 hX4 T5 ⊢
  clear w4 hpi hNi
  have oi : (o : Int) < 28 := by omega
  have c26 := fun w0 => f26 w0
  go_cut [14] (fun u wx => ∃ q3, u = .pointer (some ⟨q3, 0, none⟩) ∧ w.heap.size + 1 + 1 < q3 ∧ Fr w wx R R ((pc : Int) + 1) false 0 0 0 0 ∧ wx.heap[q]? = some (.cells #[.int .u8 o, .int .u8 a, .int .u8 b, .int .u8 c, .int .i32 N] 30) ∧ wx.heap[q2]? = some (.cells #[.int .i64 ra, .int .i64 rb, .int .i64 rc, .int .i64 N, .int .i64 ((pc : Int) + 1), .slice m mn mc, .int .i64 fx] 55) ∧ wx.heap[q3]? = some (.cells #[.nilFunc, .nilFunc, (fnV J), .nilFunc] 60))
  case first =>
    have HF : Hid (Fr w w5 R R ((pc : Int) + 1) false 0 0 0 0) := F4
    have HX : Hid (w5.heap[q]? = some (.cells #[.int .u8 o, .int .u8 a, .int .u8 b, .int .u8 c, .int .i32 N] 30)) := X5
    have HT : Hid (w5.heap[q2]? = some (.cells #[.int .i64 ra, .int .i64 rb, .int .i64 rc, .int .i64 N, .int .i64 ((pc : Int) + 1), .slice m mn mc, .int .i64 fx] 55)) := T5
    obtain ⟨x0, x1, x2, x3, x4⟩ := cellsX X5
    have hq5 := heap_lt X5
    have hne1 : ¬ q = w5.heap.size := by omega
    have hne2 : ¬ w5.heap.size = q := by omega
    clear F4 X5 T5 x1 x2 x3 x4
    have hix := fun w0 => run_index61 o ho _ hrow w0
    go_region_held (fun w' => w'.cell? ⟨q, 0, none⟩ = some (.int .u8 o)) (go_keep) (first
      | (go_at_call 26; refine (c26 _).mono ?_; rintro ex w6 ⟨rfl, b6⟩; have x6 := (b6.cell (p := ⟨q, 0, none⟩) (by simp; omega)).trans (by assumption); (try (have b7 : Below (w5.alloc (.cells #[.nilFunc, .nilFunc, .nilFunc, .nilFunc] 60)).drew.heap.size (w5.alloc (.cells #[.nilFunc, .nilFunc, .nilFunc, .nilFunc] 60)).drew w6 := b6; obtain ⟨n0, n1, n2, n3, nz, nh⟩ := o_facts (g := w5.heap.size) b7 (new_lt w5 _) (heap_alloc_last w5 _); have z0 := nz 0; have z1 := nz 1; have z2 := nz 2; have z3 := nz 3; have HNH : Hid (w6.heap[w5.heap.size]? = some (.cells #[.nilFunc, .nilFunc, .nilFunc, .nilFunc] 60)) := nh; clear nz nh b7))))
    all_goals
      go_wp2_with fail
      go_meet
      first
        | exact cut_rel1 _ HF.out HX.out HT.out b6
        | exact cut_rel2 HF.out HX.out HT.out b6 HNH.out
  case rest =>
    obtain ⟨q3, hu, hq3, F7, X7, T7, O7⟩ := hcut
    subst hu
    clear F4 X5 T5 c26
    have hnn56 := fun w0 => nn56 w0
    have hnn57 := fun w0 => nn57 w0
    have hnn58 := fun w0 => nn58 w0
    have hfJ := fun w0 => nf57 J w0
    rw [HR.out.1, HR.out.2.1, HR.out.2.2] at cJ
    unfold turnV at cJ
    have c25 := fun w0 => f25 V n w0
    have EB : Hid ((if 0 ≤ V ∧ V ≤ n then V else (n : Int)) = bri V n) := rfl
    rw [EB.out] at c25
    clear EB
    obtain ⟨o0, o1, o2, o3⟩ := cellsO O7
    obtain ⟨t0, t1, t2, t3, t4, t5, t6⟩ := cellsT T7
    obtain ⟨x0, x1, x2, x3, x4⟩ := cellsX X7
    have e16 := F7.at16
    have z16 := F7.fz 16
    have e20 := F7.at20
    have z20 := F7.fz 20
    go_wp2_with fail
    refine (cJ _).mono ?_
    rintro ex w8 ⟨rfl, b8⟩
    clear o0 o1 o2 o3 t0 t1 t2 t3 t4 t5 t6 x0 x1 x2 x3 x4 e16 z16 e20 z20
    have F8 := F7.grow b8 F7.lt2
    have X8 := (b8.block q (heap_lt X7)).trans X7
    have T8 := (b8.block q2 (heap_lt T7)).trans T7
    have O8 := (b8.block q3 (heap_lt O7)).trans O7
    clear F7 X7 T7 O7
    clear b8
    obtain ⟨o0, o1, o2, o3⟩ := cellsO O8
    obtain ⟨t0, t1, t2, t3, t4, t5, t6⟩ := cellsT T8
    obtain ⟨x0, x1, x2, x3, x4⟩ := cellsX X8
    have e16 := F8.at16
    have z16 := F8.fz 16
    have e20 := F8.at20
    have z20 := F8.fz 20
    go_upto_region 21 with (go_at_call 25; refine (c25 _).mono ?_; rintro ex w99 ⟨rfl, hw⟩; obtain rfl := hw.symm)
    have F9 := F8.setPc (bri V n)
    have X9 := (heap_setCell_ne w8 ⟨w.heap.size + 1 + 1, 16, none⟩ (.int .i64 (bri V n)) q (by show q ≠ w.heap.size + 1 + 1; omega)).trans X8
    have T9 := (heap_setCell_ne w8 ⟨w.heap.size + 1 + 1, 16, none⟩ (.int .i64 (bri V n)) q2 (by show q2 ≠ w.heap.size + 1 + 1; omega)).trans T8
    have O9 := (heap_setCell_ne w8 ⟨w.heap.size + 1 + 1, 16, none⟩ (.int .i64 (bri V n)) q3 (by show q3 ≠ w.heap.size + 1 + 1; omega)).trans O8
    clear o0 o1 o2 o3 t0 t1 t2 t3 t4 t5 t6 x0 x1 x2 x3 x4 e16 z16 e20 z20
    clear F8 X8 T8 O8
    generalize w8.setCell ⟨w.heap.size + 1 + 1, 16, none⟩ (.int .i64 (bri V n)) = w9 at F9 X9 T9 O9 ⊢
    obtain ⟨o0, o1, o2, o3⟩ := cellsO O9
    obtain ⟨t0, t1, t2, t3, t4, t5, t6⟩ := cellsT T9
    obtain ⟨x0, x1, x2, x3, x4⟩ := cellsX X9
    have e16 := F9.at16
    have z16 := F9.fz 16
    have e20 := F9.at20
    have z20 := F9.fz 20
    go_wp2_with (first
      | (refine wl_load27 _ rfl rfl R (bri V n) false 0 0 0 0 (w.heap.size + 1 + 1) rfl F9.eff ?_)
      | (refine wl_store27 _ _ rfl rfl R (bri V n) false 0 0 0 0 (w.heap.size + 1) _ rfl rfl F9.res rfl ?_))
    refine bodyPost_ret (results_cell_row rfl _ _ (w.heap.size + 1) 27 _ _ _ rfl (setRow_heap _ _ _ _ _ _ F9.res) Tryd.underlying27 rfl (by rw [effC_size]; exact info27)) rfl ?_
    exact ⟨rfl, F9.outBel _⟩


end Go.Proofs.YtijeaonldhccmaaDoor
