/-
  'sameInts', 'sameLists', 'SamePart': two that are one.
-/
import Derived.Test.YtolmhoenjcinjaaGreatICopy
namespace Go.Proofs.YtolmhoenjcinjaaGreat
open Go.RowKit
set_option linter.unusedVariables false
set_option maxRecDepth 100000

theorem Bk.two (w : World) (o : Obj) (ds : List Value) (t : TypeId) : Bk ((w.alloc o).alloc (.cells ds.toArray t)) (w.heap.size + 1) ds t := by
  have e : (w.alloc o).heap.size = w.heap.size + 1 := by simp
  have h := heap_alloc_new (w.alloc o) (.cells ds.toArray t)
  rw [e] at h
  exact h

set_option maxHeartbeats 16000000 in
theorem sameLists_one (F G : Nat → Prop) (pa0 : Option Addr) (pn0 pc0 : Nat) (pa1 : Option Addr) (pn1 pc1 : Nat) (pa2 : Option Addr) (pn2 pc2 : Nat) (pa3 : Option Addr) (pn3 pc3 : Nat) (pa4 : Option Addr) (pn4 pc4 : Nat) (pa5 : Option Addr) (pn5 pc5 : Nat) (qa0 : Option Addr) (qn0 qc0 : Nat) (qa1 : Option Addr) (qn1 qc1 : Nat) (qa2 : Option Addr) (qn2 qc2 : Nat) (qa3 : Option Addr) (qn3 qc3 : Nat) (qa4 : Option Addr) (qn4 qc4 : Nat) (qa5 : Option Addr) (qn5 qc5 : Nat) (x : Pn) (w : World) (hp0 : Ls 1 elI w F pa0 pn0 pc0 x.init) (hp1 : Ls 5 elIns w F pa1 pn1 pc1 x.code) (hp2 : Ls 6 elPrc w F pa2 pn2 pc2 x.procs) (hp3 : Ls 2 elSm w F pa3 pn3 pc3 x.sems) (hp4 : Ls 1 elB w F pa4 pn4 pc4 x.evs) (hp5 : Ls 2 elBf w F pa5 pn5 pc5 x.bufs) (hq0 : Ls 1 elI w G qa0 qn0 qc0 x.init) (hq1 : Ls 5 elIns w G qa1 qn1 qc1 x.code) (hq2 : Ls 6 elPrc w G qa2 qn2 qc2 x.procs) (hq3 : Ls 2 elSm w G qa3 qn3 qc3 x.sems) (hq4 : Ls 1 elB w G qa4 qn4 qc4 x.evs) (hq5 : Ls 2 elBf w G qa5 qn5 qc5 x.bufs) :
    Calls Tryz.prog 71 #[.agg #[.int .i64 x.pe, .int .i64 x.bu, .int .i64 x.off, .int .i64 x.pr, .int .i64 x.wo, .int .i64 x.fi, .slice pa0 pn0 pc0, .slice pa1 pn1 pc1, .slice pa2 pn2 pc2, .int .i64 x.ha, .int .i64 x.h0, .int .i64 x.h1, .int .i64 x.h2, .int .i64 x.h3, .int .i64 x.h4, .int .i64 x.h5, .int .i64 x.h6, .int .i64 x.h7, .slice pa3 pn3 pc3, .slice pa4 pn4 pc4, .slice pa5 pn5 pc5], .agg #[.int .i64 x.pe, .int .i64 x.bu, .int .i64 x.off, .int .i64 x.pr, .int .i64 x.wo, .int .i64 x.fi, .slice qa0 qn0 qc0, .slice qa1 qn1 qc1, .slice qa2 qn2 qc2, .int .i64 x.ha, .int .i64 x.h0, .int .i64 x.h1, .int .i64 x.h2, .int .i64 x.h3, .int .i64 x.h4, .int .i64 x.h5, .int .i64 x.h6, .int .i64 x.h7, .slice qa3 qn3 qc3, .slice qa4 qn4 qc4, .slice qa5 qn5 qc5]] w fun ex w' => ex = .returned (.bool true) ∧ Kept No w w' := by
  have Hp0 : Hid (Ls 1 elI w F pa0 pn0 pc0 x.init) := hp0
  have Hp1 : Hid (Ls 5 elIns w F pa1 pn1 pc1 x.code) := hp1
  have Hp2 : Hid (Ls 6 elPrc w F pa2 pn2 pc2 x.procs) := hp2
  have Hp3 : Hid (Ls 2 elSm w F pa3 pn3 pc3 x.sems) := hp3
  have Hp4 : Hid (Ls 1 elB w F pa4 pn4 pc4 x.evs) := hp4
  have Hp5 : Hid (Ls 2 elBf w F pa5 pn5 pc5 x.bufs) := hp5
  have Hq0 : Hid (Ls 1 elI w G qa0 qn0 qc0 x.init) := hq0
  have Hq1 : Hid (Ls 5 elIns w G qa1 qn1 qc1 x.code) := hq1
  have Hq2 : Hid (Ls 6 elPrc w G qa2 qn2 qc2 x.procs) := hq2
  have Hq3 : Hid (Ls 2 elSm w G qa3 qn3 qc3 x.sems) := hq3
  have Hq4 : Hid (Ls 1 elB w G qa4 qn4 qc4 x.evs) := hq4
  have Hq5 : Hid (Ls 2 elBf w G qa5 qn5 qc5 x.bufs) := hq5
  have en0 : qn0 = pn0 := hq0.len.symm.trans hp0.len
  subst en0
  have hm0 : qn0 ≤ 9223372036854775807 := Nat.le_trans hq0.cap hq0.max
  have en1 : qn1 = pn1 := hq1.len.symm.trans hp1.len
  subst en1
  have hm1 : qn1 ≤ 9223372036854775807 := Nat.le_trans hq1.cap hq1.max
  have en2 : qn2 = pn2 := hq2.len.symm.trans hp2.len
  subst en2
  have hm2 : qn2 ≤ 9223372036854775807 := Nat.le_trans hq2.cap hq2.max
  have en3 : qn3 = pn3 := hq3.len.symm.trans hp3.len
  subst en3
  have hm3 : qn3 ≤ 9223372036854775807 := Nat.le_trans hq3.cap hq3.max
  have en4 : qn4 = pn4 := hq4.len.symm.trans hp4.len
  subst en4
  have hm4 : qn4 ≤ 9223372036854775807 := Nat.le_trans hq4.cap hq4.max
  have en5 : qn5 = pn5 := hq5.len.symm.trans hp5.len
  subst en5
  have hm5 : qn5 ≤ 9223372036854775807 := Nat.le_trans hq5.cap hq5.max
  clear hp0 hp1 hp2 hp3 hp4 hp5 hq0 hq1 hq2 hq3 hq4 hq5
  obtain ⟨x_pe, x_bu, x_off, x_pr, x_wo, x_fi, l_init, l_code, l_procs, x_ha, x_h0, x_h1, x_h2, x_h3, x_h4, x_h5, x_h6, x_h7, l_sems, l_evs, l_bufs⟩ := x
  dsimp only at Hp0 Hp1 Hp2 Hp3 Hp4 Hp5 Hq0 Hq1 Hq2 Hq3 Hq4 Hq5 ⊢
  have HK0 : Hid (Kept No w ((w.alloc (.cells #[.int .i64 x_pe, .int .i64 x_bu, .int .i64 x_off, .int .i64 x_pr, .int .i64 x_wo, .int .i64 x_fi, .slice pa0 qn0 pc0, .slice pa1 qn1 pc1, .slice pa2 qn2 pc2, .int .i64 x_ha, .int .i64 x_h0, .int .i64 x_h1, .int .i64 x_h2, .int .i64 x_h3, .int .i64 x_h4, .int .i64 x_h5, .int .i64 x_h6, .int .i64 x_h7, .slice pa3 qn3 pc3, .slice pa4 qn4 pc4, .slice pa5 qn5 pc5] 66)).alloc (.cells #[.int .i64 x_pe, .int .i64 x_bu, .int .i64 x_off, .int .i64 x_pr, .int .i64 x_wo, .int .i64 x_fi, .slice qa0 qn0 qc0, .slice qa1 qn1 qc1, .slice qa2 qn2 qc2, .int .i64 x_ha, .int .i64 x_h0, .int .i64 x_h1, .int .i64 x_h2, .int .i64 x_h3, .int .i64 x_h4, .int .i64 x_h5, .int .i64 x_h6, .int .i64 x_h7, .slice qa3 qn3 qc3, .slice qa4 qn4 qc4, .slice qa5 qn5 qc5] 66))) := ((Kept.refl No w).alloc _).alloc _
  have HBp : Hid (Bk ((w.alloc (.cells #[.int .i64 x_pe, .int .i64 x_bu, .int .i64 x_off, .int .i64 x_pr, .int .i64 x_wo, .int .i64 x_fi, .slice pa0 qn0 pc0, .slice pa1 qn1 pc1, .slice pa2 qn2 pc2, .int .i64 x_ha, .int .i64 x_h0, .int .i64 x_h1, .int .i64 x_h2, .int .i64 x_h3, .int .i64 x_h4, .int .i64 x_h5, .int .i64 x_h6, .int .i64 x_h7, .slice pa3 qn3 pc3, .slice pa4 qn4 pc4, .slice pa5 qn5 pc5] 66)).alloc (.cells #[.int .i64 x_pe, .int .i64 x_bu, .int .i64 x_off, .int .i64 x_pr, .int .i64 x_wo, .int .i64 x_fi, .slice qa0 qn0 qc0, .slice qa1 qn1 qc1, .slice qa2 qn2 qc2, .int .i64 x_ha, .int .i64 x_h0, .int .i64 x_h1, .int .i64 x_h2, .int .i64 x_h3, .int .i64 x_h4, .int .i64 x_h5, .int .i64 x_h6, .int .i64 x_h7, .slice qa3 qn3 qc3, .slice qa4 qn4 qc4, .slice qa5 qn5 qc5] 66)) w.heap.size [.int .i64 x_pe, .int .i64 x_bu, .int .i64 x_off, .int .i64 x_pr, .int .i64 x_wo, .int .i64 x_fi, .slice pa0 qn0 pc0, .slice pa1 qn1 pc1, .slice pa2 qn2 pc2, .int .i64 x_ha, .int .i64 x_h0, .int .i64 x_h1, .int .i64 x_h2, .int .i64 x_h3, .int .i64 x_h4, .int .i64 x_h5, .int .i64 x_h6, .int .i64 x_h7, .slice pa3 qn3 pc3, .slice pa4 qn4 pc4, .slice pa5 qn5 pc5] 66) := Bk.kept (G := No) (heap_alloc_new w _) ((Kept.refl No _).alloc _) (fun h => h)
  have HBq : Hid (Bk ((w.alloc (.cells #[.int .i64 x_pe, .int .i64 x_bu, .int .i64 x_off, .int .i64 x_pr, .int .i64 x_wo, .int .i64 x_fi, .slice pa0 qn0 pc0, .slice pa1 qn1 pc1, .slice pa2 qn2 pc2, .int .i64 x_ha, .int .i64 x_h0, .int .i64 x_h1, .int .i64 x_h2, .int .i64 x_h3, .int .i64 x_h4, .int .i64 x_h5, .int .i64 x_h6, .int .i64 x_h7, .slice pa3 qn3 pc3, .slice pa4 qn4 pc4, .slice pa5 qn5 pc5] 66)).alloc (.cells #[.int .i64 x_pe, .int .i64 x_bu, .int .i64 x_off, .int .i64 x_pr, .int .i64 x_wo, .int .i64 x_fi, .slice qa0 qn0 qc0, .slice qa1 qn1 qc1, .slice qa2 qn2 qc2, .int .i64 x_ha, .int .i64 x_h0, .int .i64 x_h1, .int .i64 x_h2, .int .i64 x_h3, .int .i64 x_h4, .int .i64 x_h5, .int .i64 x_h6, .int .i64 x_h7, .slice qa3 qn3 qc3, .slice qa4 qn4 qc4, .slice qa5 qn5 qc5] 66)) (w.heap.size + 1) [.int .i64 x_pe, .int .i64 x_bu, .int .i64 x_off, .int .i64 x_pr, .int .i64 x_wo, .int .i64 x_fi, .slice qa0 qn0 qc0, .slice qa1 qn1 qc1, .slice qa2 qn2 qc2, .int .i64 x_ha, .int .i64 x_h0, .int .i64 x_h1, .int .i64 x_h2, .int .i64 x_h3, .int .i64 x_h4, .int .i64 x_h5, .int .i64 x_h6, .int .i64 x_h7, .slice qa3 qn3 qc3, .slice qa4 qn4 qc4, .slice qa5 qn5 qc5] 66) := Bk.two w _ _ _
  go_enter Tryz.func71, Tryz.ntmps71
  go_upto_region 1 with fail
  generalize Value.agg #[.int .i64 x_pe, .int .i64 x_bu, .int .i64 x_off, .int .i64 x_pr, .int .i64 x_wo, .int .i64 x_fi, .slice pa0 qn0 pc0, .slice pa1 qn1 pc1, .slice pa2 qn2 pc2, .int .i64 x_ha, .int .i64 x_h0, .int .i64 x_h1, .int .i64 x_h2, .int .i64 x_h3, .int .i64 x_h4, .int .i64 x_h5, .int .i64 x_h6, .int .i64 x_h7, .slice pa3 qn3 pc3, .slice pa4 qn4 pc4, .slice pa5 qn5 pc5] = vp
  generalize Value.agg #[.int .i64 x_pe, .int .i64 x_bu, .int .i64 x_off, .int .i64 x_pr, .int .i64 x_wo, .int .i64 x_fi, .slice qa0 qn0 qc0, .slice qa1 qn1 qc1, .slice qa2 qn2 qc2, .int .i64 x_ha, .int .i64 x_h0, .int .i64 x_h1, .int .i64 x_h2, .int .i64 x_h3, .int .i64 x_h4, .int .i64 x_h5, .int .i64 x_h6, .int .i64 x_h7, .slice qa3 qn3 qc3, .slice qa4 qn4 qc4, .slice qa5 qn5 qc5] = vq
  generalize (w.alloc (.cells #[.int .i64 x_pe, .int .i64 x_bu, .int .i64 x_off, .int .i64 x_pr, .int .i64 x_wo, .int .i64 x_fi, .slice pa0 qn0 pc0, .slice pa1 qn1 pc1, .slice pa2 qn2 pc2, .int .i64 x_ha, .int .i64 x_h0, .int .i64 x_h1, .int .i64 x_h2, .int .i64 x_h3, .int .i64 x_h4, .int .i64 x_h5, .int .i64 x_h6, .int .i64 x_h7, .slice pa3 qn3 pc3, .slice pa4 qn4 pc4, .slice pa5 qn5 pc5] 66)).alloc (.cells #[.int .i64 x_pe, .int .i64 x_bu, .int .i64 x_off, .int .i64 x_pr, .int .i64 x_wo, .int .i64 x_fi, .slice qa0 qn0 qc0, .slice qa1 qn1 qc1, .slice qa2 qn2 qc2, .int .i64 x_ha, .int .i64 x_h0, .int .i64 x_h1, .int .i64 x_h2, .int .i64 x_h3, .int .i64 x_h4, .int .i64 x_h5, .int .i64 x_h6, .int .i64 x_h7, .slice qa3 qn3 qc3, .slice qa4 qn4 qc4, .slice qa5 qn5 qc5] 66) = w0 at *
  have yp0 := HBp.out.cell (j := 6) rfl
  have yq0 := HBq.out.cell (j := 6) rfl
  have yp1 := HBp.out.cell (j := 7) rfl
  have yq1 := HBq.out.cell (j := 7) rfl
  have yp2 := HBp.out.cell (j := 8) rfl
  have yq2 := HBq.out.cell (j := 8) rfl
  have yp3 := HBp.out.cell (j := 18) rfl
  have yq3 := HBq.out.cell (j := 18) rfl
  have yp4 := HBp.out.cell (j := 19) rfl
  have yq4 := HBq.out.cell (j := 19) rfl
  have yp5 := HBp.out.cell (j := 20) rfl
  have yq5 := HBq.out.cell (j := 20) rfl
  clear HBp HBq
  go_wp2
  go_loopw [5] (fun i wr => ∃ k : Nat, k ≤ qn0 ∧ i = .int .i64 k ∧ ∃ q, wr = w0.drewN q) (fun i _ => qn0 - (intOf i).toNat)
  case atStart => exact ⟨0, by omega, rfl, 0, rfl⟩
  case round =>
    obtain ⟨k0, hk, rfl, q0, rfl⟩ := hrel
    by_cases hlt : k0 < qn0
    · obtain ⟨x, hx⟩ : ∃ x, l_init[k0]? = some x := ⟨_, List.getElem?_eq_getElem (by rw [Hp0.out.len]; exact hlt)⟩
      obtain ⟨b, o, cs, rfl, hFb, hcl, hr, hE⟩ := Hp0.out.at' k0 x hx
      obtain ⟨b', o', cs', rfl, hGb, hcl', hr', hE'⟩ := Hq0.out.at' k0 x hx
      have hcs := hE.1
      have hcs' := hE'.1
      subst hcs hcs'
      have r0 : w0.cell? ⟨b, o + k0, none⟩ = some (.int .i64 x) := by have := HK0.out.cell (hr 0 _ rfl) (fun h => h); rwa [Nat.mul_one] at this
      have t0 : w0.cell? ⟨b', o' + k0, none⟩ = some (.int .i64 x) := by have := HK0.out.cell (hr' 0 _ rfl) (fun h => h); rwa [Nat.mul_one] at this
      clear hr hr' hcl hcl' hE hE' hx
      go_wp2
      go_quiet (fail)
      go_wp2
      go_roundw
      case rel => exact ⟨k0 + 1, by omega, by go_num, _, rfl⟩
      case measure => simp [intOf]; omega
    · have hkn : k0 = qn0 := by omega
      subst hkn
      go_wp2
      go_loopw [6] (fun i wr => ∃ k : Nat, k ≤ qn1 ∧ i = .int .i64 k ∧ ∃ q, wr = w0.drewN q) (fun i _ => qn1 - (intOf i).toNat)
      case atStart => exact ⟨0, by omega, rfl, _, rfl⟩
      case round =>
        obtain ⟨k1, hk, rfl, q1, rfl⟩ := hrel
        by_cases hlt : k1 < qn1
        · obtain ⟨x, hx⟩ : ∃ x, l_code[k1]? = some x := ⟨_, List.getElem?_eq_getElem (by rw [Hp1.out.len]; exact hlt)⟩
          obtain ⟨b, o, cs, rfl, hFb, hcl, hr, hE⟩ := Hp1.out.at' k1 x hx
          obtain ⟨b', o', cs', rfl, hGb, hcl', hr', hE'⟩ := Hq1.out.at' k1 x hx
          have hcs := hE.1
          have hcs' := hE'.1
          subst hcs hcs'
          have r0 : w0.cell? ⟨b, o + k1 * 5, none⟩ = some (.int .u8 x.op) := HK0.out.cell (hr 0 _ rfl) (fun h => h)
          have t0 : w0.cell? ⟨b', o' + k1 * 5, none⟩ = some (.int .u8 x.op) := HK0.out.cell (hr' 0 _ rfl) (fun h => h)
          have r1 : w0.cell? ⟨b, o + k1 * 5 + 1, none⟩ = some (.int .u8 x.a) := HK0.out.cell (hr 1 _ rfl) (fun h => h)
          have t1 : w0.cell? ⟨b', o' + k1 * 5 + 1, none⟩ = some (.int .u8 x.a) := HK0.out.cell (hr' 1 _ rfl) (fun h => h)
          have r2 : w0.cell? ⟨b, o + k1 * 5 + 2, none⟩ = some (.int .u8 x.b) := HK0.out.cell (hr 2 _ rfl) (fun h => h)
          have t2 : w0.cell? ⟨b', o' + k1 * 5 + 2, none⟩ = some (.int .u8 x.b) := HK0.out.cell (hr' 2 _ rfl) (fun h => h)
          have r3 : w0.cell? ⟨b, o + k1 * 5 + 3, none⟩ = some (.int .u8 x.c) := HK0.out.cell (hr 3 _ rfl) (fun h => h)
          have t3 : w0.cell? ⟨b', o' + k1 * 5 + 3, none⟩ = some (.int .u8 x.c) := HK0.out.cell (hr' 3 _ rfl) (fun h => h)
          have r4 : w0.cell? ⟨b, o + k1 * 5 + 4, none⟩ = some (.int .i32 x.imm) := HK0.out.cell (hr 4 _ rfl) (fun h => h)
          have t4 : w0.cell? ⟨b', o' + k1 * 5 + 4, none⟩ = some (.int .i32 x.imm) := HK0.out.cell (hr' 4 _ rfl) (fun h => h)
          clear hr hr' hcl hcl' hE hE' hx
          go_wp2
          go_quiet (fail)
          go_wp2
          go_roundw
          case rel => exact ⟨k1 + 1, by omega, by go_num, _, rfl⟩
          case measure => simp [intOf]; omega
        · have hkn : k1 = qn1 := by omega
          subst hkn
          go_wp2
          go_loopw [7] (fun i wr => ∃ k : Nat, k ≤ qn2 ∧ i = .int .i64 k ∧ ∃ q, wr = w0.drewN q) (fun i _ => qn2 - (intOf i).toNat)
          case atStart => exact ⟨0, by omega, rfl, _, rfl⟩
          case round =>
            obtain ⟨k2, hk, rfl, q2, rfl⟩ := hrel
            by_cases hlt : k2 < qn2
            · obtain ⟨x, hx⟩ : ∃ x, l_procs[k2]? = some x := ⟨_, List.getElem?_eq_getElem (by rw [Hp2.out.len]; exact hlt)⟩
              obtain ⟨b, o, cs, rfl, hFb, hcl, hr, hE⟩ := Hp2.out.at' k2 x hx
              obtain ⟨b', o', cs', rfl, hGb, hcl', hr', hE'⟩ := Hq2.out.at' k2 x hx
              have hcs := hE.1
              have hcs' := hE'.1
              subst hcs hcs'
              have r0 : w0.cell? ⟨b, o + k2 * 6, none⟩ = some (.int .i64 x.en) := HK0.out.cell (hr 0 _ rfl) (fun h => h)
              have t0 : w0.cell? ⟨b', o' + k2 * 6, none⟩ = some (.int .i64 x.en) := HK0.out.cell (hr' 0 _ rfl) (fun h => h)
              have r1 : w0.cell? ⟨b, o + k2 * 6 + 1, none⟩ = some (.int .i64 x.pr) := HK0.out.cell (hr 1 _ rfl) (fun h => h)
              have t1 : w0.cell? ⟨b', o' + k2 * 6 + 1, none⟩ = some (.int .i64 x.pr) := HK0.out.cell (hr' 1 _ rfl) (fun h => h)
              have r2 : w0.cell? ⟨b, o + k2 * 6 + 2, none⟩ = some (.int .i64 x.pe) := HK0.out.cell (hr 2 _ rfl) (fun h => h)
              have t2 : w0.cell? ⟨b', o' + k2 * 6 + 2, none⟩ = some (.int .i64 x.pe) := HK0.out.cell (hr' 2 _ rfl) (fun h => h)
              have r3 : w0.cell? ⟨b, o + k2 * 6 + 3, none⟩ = some (.int .i64 x.li) := HK0.out.cell (hr 3 _ rfl) (fun h => h)
              have t3 : w0.cell? ⟨b', o' + k2 * 6 + 3, none⟩ = some (.int .i64 x.li) := HK0.out.cell (hr' 3 _ rfl) (fun h => h)
              have r4 : w0.cell? ⟨b, o + k2 * 6 + 4, none⟩ = some (.int .i64 x.ca) := HK0.out.cell (hr 4 _ rfl) (fun h => h)
              have t4 : w0.cell? ⟨b', o' + k2 * 6 + 4, none⟩ = some (.int .i64 x.ca) := HK0.out.cell (hr' 4 _ rfl) (fun h => h)
              have r5 : w0.cell? ⟨b, o + k2 * 6 + 5, none⟩ = some (.bool x.auto) := HK0.out.cell (hr 5 _ rfl) (fun h => h)
              have t5 : w0.cell? ⟨b', o' + k2 * 6 + 5, none⟩ = some (.bool x.auto) := HK0.out.cell (hr' 5 _ rfl) (fun h => h)
              clear hr hr' hcl hcl' hE hE' hx
              go_wp2
              go_quiet (fail)
              go_wp2
              go_roundw
              case rel => exact ⟨k2 + 1, by omega, by go_num, _, rfl⟩
              case measure => simp [intOf]; omega
            · have hkn : k2 = qn2 := by omega
              subst hkn
              go_wp2
              go_loopw [8] (fun i wr => ∃ k : Nat, k ≤ qn3 ∧ i = .int .i64 k ∧ ∃ q, wr = w0.drewN q) (fun i _ => qn3 - (intOf i).toNat)
              case atStart => exact ⟨0, by omega, rfl, _, rfl⟩
              case round =>
                obtain ⟨k3, hk, rfl, q3, rfl⟩ := hrel
                by_cases hlt : k3 < qn3
                · obtain ⟨x, hx⟩ : ∃ x, l_sems[k3]? = some x := ⟨_, List.getElem?_eq_getElem (by rw [Hp3.out.len]; exact hlt)⟩
                  obtain ⟨b, o, cs, rfl, hFb, hcl, hr, hE⟩ := Hp3.out.at' k3 x hx
                  obtain ⟨b', o', cs', rfl, hGb, hcl', hr', hE'⟩ := Hq3.out.at' k3 x hx
                  have hcs := hE.1
                  have hcs' := hE'.1
                  subst hcs hcs'
                  have r0 : w0.cell? ⟨b, o + k3 * 2, none⟩ = some (.int .i64 x.st) := HK0.out.cell (hr 0 _ rfl) (fun h => h)
                  have t0 : w0.cell? ⟨b', o' + k3 * 2, none⟩ = some (.int .i64 x.st) := HK0.out.cell (hr' 0 _ rfl) (fun h => h)
                  have r1 : w0.cell? ⟨b, o + k3 * 2 + 1, none⟩ = some (.int .i64 x.mx) := HK0.out.cell (hr 1 _ rfl) (fun h => h)
                  have t1 : w0.cell? ⟨b', o' + k3 * 2 + 1, none⟩ = some (.int .i64 x.mx) := HK0.out.cell (hr' 1 _ rfl) (fun h => h)
                  clear hr hr' hcl hcl' hE hE' hx
                  go_wp2
                  go_quiet (fail)
                  go_wp2
                  go_roundw
                  case rel => exact ⟨k3 + 1, by omega, by go_num, _, rfl⟩
                  case measure => simp [intOf]; omega
                · have hkn : k3 = qn3 := by omega
                  subst hkn
                  go_wp2
                  go_loopw [9] (fun i wr => ∃ k : Nat, k ≤ qn4 ∧ i = .int .i64 k ∧ ∃ q, wr = w0.drewN q) (fun i _ => qn4 - (intOf i).toNat)
                  case atStart => exact ⟨0, by omega, rfl, _, rfl⟩
                  case round =>
                    obtain ⟨k4, hk, rfl, q4, rfl⟩ := hrel
                    by_cases hlt : k4 < qn4
                    · obtain ⟨x, hx⟩ : ∃ x, l_evs[k4]? = some x := ⟨_, List.getElem?_eq_getElem (by rw [Hp4.out.len]; exact hlt)⟩
                      obtain ⟨b, o, cs, rfl, hFb, hcl, hr, hE⟩ := Hp4.out.at' k4 x hx
                      obtain ⟨b', o', cs', rfl, hGb, hcl', hr', hE'⟩ := Hq4.out.at' k4 x hx
                      have hcs := hE
                      have hcs' := hE'
                      subst hcs hcs'
                      have r0 : w0.cell? ⟨b, o + k4, none⟩ = some (.bool x) := by have := HK0.out.cell (hr 0 _ rfl) (fun h => h); rwa [Nat.mul_one] at this
                      have t0 : w0.cell? ⟨b', o' + k4, none⟩ = some (.bool x) := by have := HK0.out.cell (hr' 0 _ rfl) (fun h => h); rwa [Nat.mul_one] at this
                      clear hr hr' hcl hcl' hE hE' hx
                      go_wp2
                      go_quiet (fail)
                      go_wp2
                      go_roundw
                      case rel => exact ⟨k4 + 1, by omega, by go_num, _, rfl⟩
                      case measure => simp [intOf]; omega
                    · have hkn : k4 = qn4 := by omega
                      subst hkn
                      go_wp2
                      go_loopw [10] (fun i wr => ∃ k : Nat, k ≤ qn5 ∧ i = .int .i64 k ∧ ∃ q, wr = w0.drewN q) (fun i _ => qn5 - (intOf i).toNat)
                      case atStart => exact ⟨0, by omega, rfl, _, rfl⟩
                      case round =>
                        obtain ⟨k5, hk, rfl, q5, rfl⟩ := hrel
                        by_cases hlt : k5 < qn5
                        · obtain ⟨x, hx⟩ : ∃ x, l_bufs[k5]? = some x := ⟨_, List.getElem?_eq_getElem (by rw [Hp5.out.len]; exact hlt)⟩
                          obtain ⟨b, o, cs, rfl, hFb, hcl, hr, hE⟩ := Hp5.out.at' k5 x hx
                          obtain ⟨b', o', cs', rfl, hGb, hcl', hr', hE'⟩ := Hq5.out.at' k5 x hx
                          have hcs := hE.1
                          have hcs' := hE'.1
                          subst hcs hcs'
                          have r0 : w0.cell? ⟨b, o + k5 * 2, none⟩ = some (.int .i64 x.sz) := HK0.out.cell (hr 0 _ rfl) (fun h => h)
                          have t0 : w0.cell? ⟨b', o' + k5 * 2, none⟩ = some (.int .i64 x.sz) := HK0.out.cell (hr' 0 _ rfl) (fun h => h)
                          have r1 : w0.cell? ⟨b, o + k5 * 2 + 1, none⟩ = some (.int .i64 x.dp) := HK0.out.cell (hr 1 _ rfl) (fun h => h)
                          have t1 : w0.cell? ⟨b', o' + k5 * 2 + 1, none⟩ = some (.int .i64 x.dp) := HK0.out.cell (hr' 1 _ rfl) (fun h => h)
                          clear hr hr' hcl hcl' hE hE' hx
                          go_wp2
                          go_quiet (fail)
                          go_wp2
                          go_roundw
                          case rel => exact ⟨k5 + 1, by omega, by go_num, _, rfl⟩
                          case measure => simp [intOf]; omega
                        · have hkn : k5 = qn5 := by omega
                          subst hkn
                          go_wp2
                          go_ret
                          exact ⟨rfl, HK0.out.drewN _⟩

end Go.Proofs.YtolmhoenjcinjaaGreat
