/-
  'SamePart', 'sameInts': two that are one.
-/
import Derived.Test.YtolmhoenjcinjaaGreatISame
import Derived.DeepKeys
namespace Go.Proofs.YtolmhoenjcinjaaGreat
open Go.RowKit
set_option linter.unusedVariables false
set_option maxRecDepth 100000

theorem eqArr (w : World) (h0 h1 h2 h3 h4 h5 h6 h7 : Int) : (Op.equalIn 10000 61 (.agg #[.int .i64 h0, .int .i64 h1, .int .i64 h2, .int .i64 h3, .int .i64 h4, .int .i64 h5, .int .i64 h6, .int .i64 h7]) (.agg #[.int .i64 h0, .int .i64 h1, .int .i64 h2, .int .i64 h3, .int .i64 h4, .int .i64 h5, .int .i64 h6, .int .i64 h7])).run Tryz.prog w = .ok true w := by
  obtain ⟨i0, hi, _⟩ := info_parts Tryz.info3
  rw [show (10000 : Nat) = 9999 + 1 from rfl, run_equalIn_array w 9999 _ _ Tryz.underlying61 hi]
  have hc : Tryz.prog.cellsOf 3 = 1 := by kernel_rfl
  simp [Op.eqItems, hc, List.range, List.range.loop, go_sem]

set_option maxHeartbeats 4000000 in
theorem sameInts_one (F G : Nat → Prop) (a a' : Option Addr) (n n' c c' : Nat) (xs : List Int) (w : World) (hx : Ls 1 elI w F a n c xs) (hy : Ls 1 elI w G a' n' c' xs) :
    Calls Tryz.prog 29 #[.slice a n c, .slice a' n' c'] w fun ex w' => ex = .returned (.bool true) ∧ Kept No w w' := by
  have en : n' = n := hy.len.symm.trans hx.len
  subst en
  have hm : n' ≤ 9223372036854775807 := Nat.le_trans hx.cap hx.max
  have HX : Hid (Ls 1 elI w F a n' c xs) := hx
  have HY : Hid (Ls 1 elI w G a' n' c' xs) := hy
  clear hx hy
  go_enter Tryz.func29, Tryz.ntmps29
  go_wp2
  go_loopw [5] (fun i wr => ∃ k : Nat, k ≤ n' ∧ i = .int .i64 k ∧ ∃ q, wr = w.drewN q) (fun i _ => n' - (intOf i).toNat)
  case atStart => exact ⟨0, by omega, rfl, 0, rfl⟩
  case round =>
    obtain ⟨k, hk, rfl, q, rfl⟩ := hrel
    by_cases hlt : k < n'
    · obtain ⟨x, hx⟩ : ∃ x, xs[k]? = some x := ⟨_, List.getElem?_eq_getElem (by rw [HX.out.len]; exact hlt)⟩
      obtain ⟨b, o, cs, rfl, hFb, hcl, hr, hE⟩ := HX.out.at' k x hx
      obtain ⟨b', o', cs', rfl, hGb, hcl', hr', hE'⟩ := HY.out.at' k x hx
      have hcs := hE.1
      have hcs' := hE'.1
      subst hcs hcs'
      have r0 : w.cell? ⟨b, o + k, none⟩ = some (.int .i64 x) := by have := hr 0 _ rfl; rwa [Nat.mul_one] at this
      have t0 : w.cell? ⟨b', o' + k, none⟩ = some (.int .i64 x) := by have := hr' 0 _ rfl; rwa [Nat.mul_one] at this
      clear hr hr' hcl hcl' hE hE' hx
      go_wp2
      go_quiet (fail)
      go_wp2
      go_roundw
      case rel => exact ⟨k + 1, by omega, by go_num, _, rfl⟩
      case measure => simp [intOf]; omega
    · have hkn : k = n' := by omega
      subst hkn
      go_wp2
      go_ret
      exact ⟨rfl, (Kept.refl No w).drewN _⟩

set_option maxHeartbeats 16000000 in
theorem samePart_one (F G : Nat → Prop) (pa0 : Option Addr) (pn0 pc0 : Nat) (pa1 : Option Addr) (pn1 pc1 : Nat) (pa2 : Option Addr) (pn2 pc2 : Nat) (pa3 : Option Addr) (pn3 pc3 : Nat) (pa4 : Option Addr) (pn4 pc4 : Nat) (pa5 : Option Addr) (pn5 pc5 : Nat) (qa0 : Option Addr) (qn0 qc0 : Nat) (qa1 : Option Addr) (qn1 qc1 : Nat) (qa2 : Option Addr) (qn2 qc2 : Nat) (qa3 : Option Addr) (qn3 qc3 : Nat) (qa4 : Option Addr) (qn4 qc4 : Nat) (qa5 : Option Addr) (qn5 qc5 : Nat) (x : Pn) (w : World) (hp0 : Ls 1 elI w F pa0 pn0 pc0 x.init) (hp1 : Ls 5 elIns w F pa1 pn1 pc1 x.code) (hp2 : Ls 6 elPrc w F pa2 pn2 pc2 x.procs) (hp3 : Ls 2 elSm w F pa3 pn3 pc3 x.sems) (hp4 : Ls 1 elB w F pa4 pn4 pc4 x.evs) (hp5 : Ls 2 elBf w F pa5 pn5 pc5 x.bufs) (hq0 : Ls 1 elI w G qa0 qn0 qc0 x.init) (hq1 : Ls 5 elIns w G qa1 qn1 qc1 x.code) (hq2 : Ls 6 elPrc w G qa2 qn2 qc2 x.procs) (hq3 : Ls 2 elSm w G qa3 qn3 qc3 x.sems) (hq4 : Ls 1 elB w G qa4 qn4 qc4 x.evs) (hq5 : Ls 2 elBf w G qa5 qn5 qc5 x.bufs) :
    Calls Tryz.prog 28 #[.agg #[.int .i64 x.pe, .int .i64 x.bu, .int .i64 x.off, .int .i64 x.pr, .int .i64 x.wo, .int .i64 x.fi, .slice pa0 pn0 pc0, .slice pa1 pn1 pc1, .slice pa2 pn2 pc2, .int .i64 x.ha, .int .i64 x.h0, .int .i64 x.h1, .int .i64 x.h2, .int .i64 x.h3, .int .i64 x.h4, .int .i64 x.h5, .int .i64 x.h6, .int .i64 x.h7, .slice pa3 pn3 pc3, .slice pa4 pn4 pc4, .slice pa5 pn5 pc5], .agg #[.int .i64 x.pe, .int .i64 x.bu, .int .i64 x.off, .int .i64 x.pr, .int .i64 x.wo, .int .i64 x.fi, .slice qa0 qn0 qc0, .slice qa1 qn1 qc1, .slice qa2 qn2 qc2, .int .i64 x.ha, .int .i64 x.h0, .int .i64 x.h1, .int .i64 x.h2, .int .i64 x.h3, .int .i64 x.h4, .int .i64 x.h5, .int .i64 x.h6, .int .i64 x.h7, .slice qa3 qn3 qc3, .slice qa4 qn4 qc4, .slice qa5 qn5 qc5]] w fun ex w' => ex = .returned (.bool true) ∧ Kept No w w' := by
  have Hp0 : Hid (Ls 1 elI w F pa0 pn0 pc0 x.init) := hp0
  have Hp1 : Hid (Ls 5 elIns w F pa1 pn1 pc1 x.code) := hp1
  have Hp2 : Hid (Ls 6 elPrc w F pa2 pn2 pc2 x.procs) := hp2
  have Hp3 : Hid (Ls 2 elSm w F pa3 pn3 pc3 x.sems) := hp3
  have Hp4 : Hid (Ls 1 elB w F pa4 pn4 pc4 x.evs) := hp4
  have Hp5 : Hid (Ls 2 elBf w F pa5 pn5 pc5 x.bufs) := hp5
  have Hq0 : Hid (Ls 1 elI w G qa0 qn0 qc0 x.init) := hq0
  have Hq1 : Hid (Ls 5 elIns w G qa1 qn1 qc1 x.code) := hq1
  have Hq2 : Hid (Ls 6 elPrc w G qa2 qn2 qc2 x.procs) := hq2
  have Hq3 : Hid (Ls 2 elSm w G qa3 qn3 qc3 x.sems) := hq3
  have Hq4 : Hid (Ls 1 elB w G qa4 qn4 qc4 x.evs) := hq4
  have Hq5 : Hid (Ls 2 elBf w G qa5 qn5 qc5 x.bufs) := hq5
  clear hp0 hp1 hp2 hp3 hp4 hp5 hq0 hq1 hq2 hq3 hq4 hq5
  obtain ⟨x_pe, x_bu, x_off, x_pr, x_wo, x_fi, l_init, l_code, l_procs, x_ha, x_h0, x_h1, x_h2, x_h3, x_h4, x_h5, x_h6, x_h7, l_sems, l_evs, l_bufs⟩ := x
  dsimp only at Hp0 Hp1 Hp2 Hp3 Hp4 Hp5 Hq0 Hq1 Hq2 Hq3 Hq4 Hq5 ⊢
  have HK0 : Hid (Kept No w ((w.alloc (.cells #[.int .i64 x_pe, .int .i64 x_bu, .int .i64 x_off, .int .i64 x_pr, .int .i64 x_wo, .int .i64 x_fi, .slice pa0 pn0 pc0, .slice pa1 pn1 pc1, .slice pa2 pn2 pc2, .int .i64 x_ha, .int .i64 x_h0, .int .i64 x_h1, .int .i64 x_h2, .int .i64 x_h3, .int .i64 x_h4, .int .i64 x_h5, .int .i64 x_h6, .int .i64 x_h7, .slice pa3 pn3 pc3, .slice pa4 pn4 pc4, .slice pa5 pn5 pc5] 66)).alloc (.cells #[.int .i64 x_pe, .int .i64 x_bu, .int .i64 x_off, .int .i64 x_pr, .int .i64 x_wo, .int .i64 x_fi, .slice qa0 qn0 qc0, .slice qa1 qn1 qc1, .slice qa2 qn2 qc2, .int .i64 x_ha, .int .i64 x_h0, .int .i64 x_h1, .int .i64 x_h2, .int .i64 x_h3, .int .i64 x_h4, .int .i64 x_h5, .int .i64 x_h6, .int .i64 x_h7, .slice qa3 qn3 qc3, .slice qa4 qn4 qc4, .slice qa5 qn5 qc5] 66))) := ((Kept.refl No w).alloc _).alloc _
  have HBp : Hid (Bk ((w.alloc (.cells #[.int .i64 x_pe, .int .i64 x_bu, .int .i64 x_off, .int .i64 x_pr, .int .i64 x_wo, .int .i64 x_fi, .slice pa0 pn0 pc0, .slice pa1 pn1 pc1, .slice pa2 pn2 pc2, .int .i64 x_ha, .int .i64 x_h0, .int .i64 x_h1, .int .i64 x_h2, .int .i64 x_h3, .int .i64 x_h4, .int .i64 x_h5, .int .i64 x_h6, .int .i64 x_h7, .slice pa3 pn3 pc3, .slice pa4 pn4 pc4, .slice pa5 pn5 pc5] 66)).alloc (.cells #[.int .i64 x_pe, .int .i64 x_bu, .int .i64 x_off, .int .i64 x_pr, .int .i64 x_wo, .int .i64 x_fi, .slice qa0 qn0 qc0, .slice qa1 qn1 qc1, .slice qa2 qn2 qc2, .int .i64 x_ha, .int .i64 x_h0, .int .i64 x_h1, .int .i64 x_h2, .int .i64 x_h3, .int .i64 x_h4, .int .i64 x_h5, .int .i64 x_h6, .int .i64 x_h7, .slice qa3 qn3 qc3, .slice qa4 qn4 qc4, .slice qa5 qn5 qc5] 66)) w.heap.size [.int .i64 x_pe, .int .i64 x_bu, .int .i64 x_off, .int .i64 x_pr, .int .i64 x_wo, .int .i64 x_fi, .slice pa0 pn0 pc0, .slice pa1 pn1 pc1, .slice pa2 pn2 pc2, .int .i64 x_ha, .int .i64 x_h0, .int .i64 x_h1, .int .i64 x_h2, .int .i64 x_h3, .int .i64 x_h4, .int .i64 x_h5, .int .i64 x_h6, .int .i64 x_h7, .slice pa3 pn3 pc3, .slice pa4 pn4 pc4, .slice pa5 pn5 pc5] 66) := Bk.kept (G := No) (heap_alloc_new w _) ((Kept.refl No _).alloc _) (fun h => h)
  have HBq : Hid (Bk ((w.alloc (.cells #[.int .i64 x_pe, .int .i64 x_bu, .int .i64 x_off, .int .i64 x_pr, .int .i64 x_wo, .int .i64 x_fi, .slice pa0 pn0 pc0, .slice pa1 pn1 pc1, .slice pa2 pn2 pc2, .int .i64 x_ha, .int .i64 x_h0, .int .i64 x_h1, .int .i64 x_h2, .int .i64 x_h3, .int .i64 x_h4, .int .i64 x_h5, .int .i64 x_h6, .int .i64 x_h7, .slice pa3 pn3 pc3, .slice pa4 pn4 pc4, .slice pa5 pn5 pc5] 66)).alloc (.cells #[.int .i64 x_pe, .int .i64 x_bu, .int .i64 x_off, .int .i64 x_pr, .int .i64 x_wo, .int .i64 x_fi, .slice qa0 qn0 qc0, .slice qa1 qn1 qc1, .slice qa2 qn2 qc2, .int .i64 x_ha, .int .i64 x_h0, .int .i64 x_h1, .int .i64 x_h2, .int .i64 x_h3, .int .i64 x_h4, .int .i64 x_h5, .int .i64 x_h6, .int .i64 x_h7, .slice qa3 qn3 qc3, .slice qa4 qn4 qc4, .slice qa5 qn5 qc5] 66)) (w.heap.size + 1) [.int .i64 x_pe, .int .i64 x_bu, .int .i64 x_off, .int .i64 x_pr, .int .i64 x_wo, .int .i64 x_fi, .slice qa0 qn0 qc0, .slice qa1 qn1 qc1, .slice qa2 qn2 qc2, .int .i64 x_ha, .int .i64 x_h0, .int .i64 x_h1, .int .i64 x_h2, .int .i64 x_h3, .int .i64 x_h4, .int .i64 x_h5, .int .i64 x_h6, .int .i64 x_h7, .slice qa3 qn3 qc3, .slice qa4 qn4 qc4, .slice qa5 qn5 qc5] 66) := Bk.two w _ _ _
  go_enter Tryz.func28, Tryz.ntmps28
  go_upto_region 1 with fail
  generalize Value.agg #[.int .i64 x_pe, .int .i64 x_bu, .int .i64 x_off, .int .i64 x_pr, .int .i64 x_wo, .int .i64 x_fi, .slice pa0 pn0 pc0, .slice pa1 pn1 pc1, .slice pa2 pn2 pc2, .int .i64 x_ha, .int .i64 x_h0, .int .i64 x_h1, .int .i64 x_h2, .int .i64 x_h3, .int .i64 x_h4, .int .i64 x_h5, .int .i64 x_h6, .int .i64 x_h7, .slice pa3 pn3 pc3, .slice pa4 pn4 pc4, .slice pa5 pn5 pc5] = vp
  generalize Value.agg #[.int .i64 x_pe, .int .i64 x_bu, .int .i64 x_off, .int .i64 x_pr, .int .i64 x_wo, .int .i64 x_fi, .slice qa0 qn0 qc0, .slice qa1 qn1 qc1, .slice qa2 qn2 qc2, .int .i64 x_ha, .int .i64 x_h0, .int .i64 x_h1, .int .i64 x_h2, .int .i64 x_h3, .int .i64 x_h4, .int .i64 x_h5, .int .i64 x_h6, .int .i64 x_h7, .slice qa3 qn3 qc3, .slice qa4 qn4 qc4, .slice qa5 qn5 qc5] = vq
  generalize (w.alloc (.cells #[.int .i64 x_pe, .int .i64 x_bu, .int .i64 x_off, .int .i64 x_pr, .int .i64 x_wo, .int .i64 x_fi, .slice pa0 pn0 pc0, .slice pa1 pn1 pc1, .slice pa2 pn2 pc2, .int .i64 x_ha, .int .i64 x_h0, .int .i64 x_h1, .int .i64 x_h2, .int .i64 x_h3, .int .i64 x_h4, .int .i64 x_h5, .int .i64 x_h6, .int .i64 x_h7, .slice pa3 pn3 pc3, .slice pa4 pn4 pc4, .slice pa5 pn5 pc5] 66)).alloc (.cells #[.int .i64 x_pe, .int .i64 x_bu, .int .i64 x_off, .int .i64 x_pr, .int .i64 x_wo, .int .i64 x_fi, .slice qa0 qn0 qc0, .slice qa1 qn1 qc1, .slice qa2 qn2 qc2, .int .i64 x_ha, .int .i64 x_h0, .int .i64 x_h1, .int .i64 x_h2, .int .i64 x_h3, .int .i64 x_h4, .int .i64 x_h5, .int .i64 x_h6, .int .i64 x_h7, .slice qa3 qn3 qc3, .slice qa4 qn4 qc4, .slice qa5 qn5 qc5] 66) = w0 at *
  have cL := sameLists_one F G pa0 pn0 pc0 pa1 pn1 pc1 pa2 pn2 pc2 pa3 pn3 pc3 pa4 pn4 pc4 pa5 pn5 pc5 qa0 qn0 qc0 qa1 qn1 qc1 qa2 qn2 qc2 qa3 qn3 qc3 qa4 qn4 qc4 qa5 qn5 qc5 ⟨x_pe, x_bu, x_off, x_pr, x_wo, x_fi, l_init, l_code, l_procs, x_ha, x_h0, x_h1, x_h2, x_h3, x_h4, x_h5, x_h6, x_h7, l_sems, l_evs, l_bufs⟩ w0 (Hp0.out.kept HK0.out (fun _ _ h => h) (elI_kept HK0.out (fun _ _ h => h))) (Hp1.out.kept HK0.out (fun _ _ h => h) (elIns_kept HK0.out (fun _ _ h => h))) (Hp2.out.kept HK0.out (fun _ _ h => h) (elPrc_kept HK0.out (fun _ _ h => h))) (Hp3.out.kept HK0.out (fun _ _ h => h) (elSm_kept HK0.out (fun _ _ h => h))) (Hp4.out.kept HK0.out (fun _ _ h => h) (elB_kept HK0.out (fun _ _ h => h))) (Hp5.out.kept HK0.out (fun _ _ h => h) (elBf_kept HK0.out (fun _ _ h => h))) (Hq0.out.kept HK0.out (fun _ _ h => h) (elI_kept HK0.out (fun _ _ h => h))) (Hq1.out.kept HK0.out (fun _ _ h => h) (elIns_kept HK0.out (fun _ _ h => h))) (Hq2.out.kept HK0.out (fun _ _ h => h) (elPrc_kept HK0.out (fun _ _ h => h))) (Hq3.out.kept HK0.out (fun _ _ h => h) (elSm_kept HK0.out (fun _ _ h => h))) (Hq4.out.kept HK0.out (fun _ _ h => h) (elB_kept HK0.out (fun _ _ h => h))) (Hq5.out.kept HK0.out (fun _ _ h => h) (elBf_kept HK0.out (fun _ _ h => h)))
  have yp0 := HBp.out.cell (j := 0) rfl
  have yq0 := HBq.out.cell (j := 0) rfl
  have yp1 := HBp.out.cell (j := 1) rfl
  have yq1 := HBq.out.cell (j := 1) rfl
  have yp2 := HBp.out.cell (j := 2) rfl
  have yq2 := HBq.out.cell (j := 2) rfl
  have yp3 := HBp.out.cell (j := 3) rfl
  have yq3 := HBq.out.cell (j := 3) rfl
  have yp4 := HBp.out.cell (j := 4) rfl
  have yq4 := HBq.out.cell (j := 4) rfl
  have yp5 := HBp.out.cell (j := 5) rfl
  have yq5 := HBq.out.cell (j := 5) rfl
  have yp9 := HBp.out.cell (j := 9) rfl
  have yq9 := HBq.out.cell (j := 9) rfl
  have yp10 := HBp.out.cell (j := 10) rfl
  have yq10 := HBq.out.cell (j := 10) rfl
  have yp11 := HBp.out.cell (j := 11) rfl
  have yq11 := HBq.out.cell (j := 11) rfl
  have yp12 := HBp.out.cell (j := 12) rfl
  have yq12 := HBq.out.cell (j := 12) rfl
  have yp13 := HBp.out.cell (j := 13) rfl
  have yq13 := HBq.out.cell (j := 13) rfl
  have yp14 := HBp.out.cell (j := 14) rfl
  have yq14 := HBq.out.cell (j := 14) rfl
  have yp15 := HBp.out.cell (j := 15) rfl
  have yq15 := HBq.out.cell (j := 15) rfl
  have yp16 := HBp.out.cell (j := 16) rfl
  have yq16 := HBq.out.cell (j := 16) rfl
  have yp17 := HBp.out.cell (j := 17) rfl
  have yq17 := HBq.out.cell (j := 17) rfl
  obtain ⟨A, hA⟩ : ∃ A : List Value, A = [.int .i64 x_pe, .int .i64 x_bu, .int .i64 x_off, .int .i64 x_pr, .int .i64 x_wo, .int .i64 x_fi, .slice pa0 pn0 pc0, .slice pa1 pn1 pc1, .slice pa2 pn2 pc2, .int .i64 x_ha, .int .i64 x_h0, .int .i64 x_h1, .int .i64 x_h2, .int .i64 x_h3, .int .i64 x_h4, .int .i64 x_h5, .int .i64 x_h6, .int .i64 x_h7, .slice pa3 pn3 pc3, .slice pa4 pn4 pc4, .slice pa5 pn5 pc5] := ⟨_, rfl⟩
  obtain ⟨B, hB⟩ : ∃ B : List Value, B = [.int .i64 x_pe, .int .i64 x_bu, .int .i64 x_off, .int .i64 x_pr, .int .i64 x_wo, .int .i64 x_fi, .slice qa0 qn0 qc0, .slice qa1 qn1 qc1, .slice qa2 qn2 qc2, .int .i64 x_ha, .int .i64 x_h0, .int .i64 x_h1, .int .i64 x_h2, .int .i64 x_h3, .int .i64 x_h4, .int .i64 x_h5, .int .i64 x_h6, .int .i64 x_h7, .slice qa3 qn3 qc3, .slice qa4 qn4 qc4, .slice qa5 qn5 qc5] := ⟨_, rfl⟩
  have cL' : Calls Tryz.prog 71 #[.agg A.toArray, .agg B.toArray] w0 fun ex w' => ex = .returned (.bool true) ∧ Kept No w0 w' := by rw [hA, hB]; exact cL
  have hldp : (Instr.loadAt 66 (.pointer (some ⟨w.heap.size, 0, none⟩))).run Tryz.prog w0 = .ok (.agg A.toArray) w0 := run_loadAt_mid w0 w.heap.size 0 _ A _ (fun j v hv => by rw [Nat.zero_add]; rw [hA] at hv; exact HBp.out.cell hv) Tryz.underlying66 rfl (by rw [hA]; exact sizePn)
  have hldq : (Instr.loadAt 66 (.pointer (some ⟨w.heap.size + 1, 0, none⟩))).run Tryz.prog w0 = .ok (.agg B.toArray) w0 := run_loadAt_mid w0 (w.heap.size + 1) 0 _ B _ (fun j v hv => by rw [Nat.zero_add]; rw [hB] at hv; exact HBq.out.cell hv) Tryz.underlying66 rfl (by rw [hB]; exact sizePn)
  have HLDP : Hid ((Instr.loadAt 66 (.pointer (some ⟨w.heap.size, 0, none⟩))).run Tryz.prog w0 = .ok (.agg A.toArray) w0) := hldp
  have HLDQ : Hid ((Instr.loadAt 66 (.pointer (some ⟨w.heap.size + 1, 0, none⟩))).run Tryz.prog w0 = .ok (.agg B.toArray) w0) := hldq
  clear cL hA hB hldp hldq
  have ea := eqArr w0 x_h0 x_h1 x_h2 x_h3 x_h4 x_h5 x_h6 x_h7
  clear HBp HBq
  go_wp2_with (first | (refine l_take 39 rfl rfl (er_ld _ _ rfl _ _ rfl HLDP.out) ?_) | (refine l_take 40 rfl rfl (er_ld _ _ rfl _ _ rfl HLDQ.out) ?_) | (go_at_call 71; refine cL'.mono ?_; rintro ex w1 ⟨rfl, hk1⟩))
  go_ret
  exact ⟨rfl, HK0.out.trans hk1 (fun _ h => h.elim)⟩

end Go.Proofs.YtolmhoenjcinjaaGreat
