/-
  'Same': two images that are one.
-/
import Derived.Test.YtolmhoenjcinjaaGreatISamePt
import Derived.BigQuiet
namespace Go.Proofs.YtolmhoenjcinjaaGreat
open Go.RowKit
set_option linter.unusedVariables false
set_option maxRecDepth 100000

theorem samePart_el (F G : Nat → Prop) (cs ds : List Value) (x : Pn) (w : World) (h1 : elPn w F cs x) (h2 : elPn w G ds x) :
    Calls Tryz.prog 28 #[.agg cs.toArray, .agg ds.toArray] w fun ex w' => ex = .returned (.bool true) ∧ Kept No w w' := by
  obtain ⟨pa0, pn0, pc0, pa1, pn1, pc1, pa2, pn2, pc2, pa3, pn3, pc3, pa4, pn4, pc4, pa5, pn5, pc5, rfl, l0, l1, l2, l3, l4, l5⟩ := h1.sl
  obtain ⟨qa0, qn0, qc0, qa1, qn1, qc1, qa2, qn2, qc2, qa3, qn3, qc3, qa4, qn4, qc4, qa5, qn5, qc5, rfl, m0, m1, m2, m3, m4, m5⟩ := h2.sl
  exact samePart_one F G pa0 pn0 pc0 pa1 pn1 pc1 pa2 pn2 pc2 pa3 pn3 pc3 pa4 pn4 pc4 pa5 pn5 pc5 qa0 qn0 qc0 qa1 qn1 qc1 qa2 qn2 qc2 qa3 qn3 qc3 qa4 qn4 qc4 qa5 qn5 qc5 x w l0 l1 l2 l3 l4 l5 m0 m1 m2 m3 m4 m5

/-- a region that draws, whose callees turn nothing old -/
theorem wp_region_kept {id : Nat} {Q : Exit → Act → World → Prop} {a : Act} {w : World} {l : List Oper} (w0 : World) (hm : Tryz.prog.follows .mixedOrders = true) (hB : Region.lexB .any l.toArray = true) (hw : Kept No w0 w)
    (h : wpQuiet Tryz.prog l.toArray (fun w' => Kept No w0 w') (fun a' => ∀ w', Kept No w0 w' → Q .normal a' w') l a) : (Code.region id l.toArray true).wp Tryz.prog Q a w :=
  wp_region_quiet (C := fun w' => Kept No w0 w') hm hB (hw.drewN 1) (by simpa using h)
section
variable {C : World → Prop} {a : Act} {o : Oper} {K : Act → Prop}
theorem quiet_val' {v : Value} (h : ∀ w, C w → (execOp a.eval o).run Tryz.prog w = .ok (.value v) w) (hk : K (a.put o.dst v)) : o.quiet Tryz.prog a C K :=
  ⟨v, fun w hw => by unfold Oper.quietAt; rw [h w hw]; exact ⟨rfl, rfl⟩, hk⟩
theorem quiet_call' {f : FuncId} {args : Array Value} {v : Value} (hrun : ∀ w, (execOp a.eval o).run Tryz.prog w = .ok (.enter f args) w) (hc : ∀ w, C w → Calls Tryz.prog f args w fun e w'' => e = .returned v ∧ C w'') (hk : K (a.put o.dst v)) : o.quiet Tryz.prog a C K :=
  ⟨v, fun w hw => by unfold Oper.quietAt; rw [hrun w]; exact ⟨rfl, hc w hw⟩, hk⟩
theorem quiet_same (x0 x1 : Operand) (ho : o.op = .call { callee := .value (.func 28), args := #[x0, x1], argTypes := #[66, 66] }) (v0 v1 v : Value) (h0 : a.eval x0 = v0) (h1 : a.eval x1 = v1)
    (hc : ∀ w, C w → Calls Tryz.prog 28 #[v0, v1] w fun e w'' => e = .returned v ∧ C w'') (hk : K (a.put o.dst v)) : o.quiet Tryz.prog a C K :=
  quiet_call' (f := 28) (args := #[v0, v1]) (fun w => by subst h0 h1; simp [execOp, ho, go_sem, Act.eval]) hc hk
end
theorem er_not {w : World} {a : Act} {o : Oper} (x : Operand) (t : TypeId) (ho : o.op = .unOp .not t x) (b : Bool) (hx : a.eval x = .bool b) : (execOp a.eval o).run Tryz.prog w = .ok (.value (.bool (!b))) w := by
  simp only [execOp, ho, hx]; simp [go_sem]

set_option maxHeartbeats 16000000 in
theorem same_one (F G : Nat → Prop) (a0 : Option Addr) (n0 c0 : Nat) (a1 : Option Addr) (n1 c1 : Nat) (a2 : Option Addr) (n2 c2 : Nat) (b0 : Option Addr) (m0 d0 : Nat) (b1 : Option Addr) (m1 d1 : Nat) (b2 : Option Addr) (m2 d2 : Nat) (x : Im) (w : World) (hI : Img w F a0 n0 c0 a1 n1 c1 a2 n2 c2 x) (hJ : Img w G b0 m0 d0 b1 m1 d1 b2 m2 d2 x) :
    Calls Tryz.prog 12 #[.agg #[.slice a0 n0 c0, .slice a1 n1 c1, .slice a2 n2 c2], .agg #[.slice b0 m0 d0, .slice b1 m1 d1, .slice b2 m2 d2]] w fun ex w' => ex = .returned (.bool true) ∧ Kept No w w' := by
  have e0 : m0 = n0 := hJ.ps.len.symm.trans hI.ps.len
  have e1 : m1 = n1 := hJ.qs.len.symm.trans hI.qs.len
  have e2 : m2 = n2 := hJ.cs.len.symm.trans hI.cs.len
  subst e0 e1 e2
  have hm0 : m0 ≤ 9223372036854775807 := Nat.le_trans hI.ps.cap hI.ps.max
  have hm1 : m1 ≤ 9223372036854775807 := Nat.le_trans hI.qs.cap hI.qs.max
  have hm2 : m2 ≤ 9223372036854775807 := Nat.le_trans hI.cs.cap hI.cs.max
  have HK : Hid (Kept No w ((w.alloc (.cells #[.slice a0 m0 c0, .slice a1 m1 c1, .slice a2 m2 c2] 26)).alloc (.cells #[.slice b0 m0 d0, .slice b1 m1 d1, .slice b2 m2 d2] 26))) := ((Kept.refl No w).alloc _).alloc _
  have HP : Hid (Bk ((w.alloc (.cells #[.slice a0 m0 c0, .slice a1 m1 c1, .slice a2 m2 c2] 26)).alloc (.cells #[.slice b0 m0 d0, .slice b1 m1 d1, .slice b2 m2 d2] 26)) w.heap.size [.slice a0 m0 c0, .slice a1 m1 c1, .slice a2 m2 c2] 26) := Bk.kept (G := No) (heap_alloc_new w _) ((Kept.refl No _).alloc _) (fun h => h)
  have HQ : Hid (Bk ((w.alloc (.cells #[.slice a0 m0 c0, .slice a1 m1 c1, .slice a2 m2 c2] 26)).alloc (.cells #[.slice b0 m0 d0, .slice b1 m1 d1, .slice b2 m2 d2] 26)) (w.heap.size + 1) [.slice b0 m0 d0, .slice b1 m1 d1, .slice b2 m2 d2] 26) := Bk.two w _ _ _
  have HI : Hid (Img w F a0 m0 c0 a1 m1 c1 a2 m2 c2 x) := hI
  have HJ : Hid (Img w G b0 m0 d0 b1 m1 d1 b2 m2 d2 x) := hJ
  clear hI hJ
  go_enter Tryz.func12, Tryz.ntmps12
  go_upto_region 1 with fail
  generalize (w.alloc (.cells #[.slice a0 m0 c0, .slice a1 m1 c1, .slice a2 m2 c2] 26)).alloc (.cells #[.slice b0 m0 d0, .slice b1 m1 d1, .slice b2 m2 d2] 26) = w0 at *
  have y0 := HP.out.cell (j := 0) rfl
  have y1 := HP.out.cell (j := 1) rfl
  have y2 := HP.out.cell (j := 2) rfl
  have z0 := HQ.out.cell (j := 0) rfl
  have z1 := HQ.out.cell (j := 1) rfl
  have z2 := HQ.out.cell (j := 2) rfl
  go_wp2
  clear y0 y1 y2 z0 z1 z2
  go_loopw [5] (fun i wr => ∃ k : Nat, k ≤ m0 ∧ i = .int .i64 k ∧ Kept No w0 wr) (fun i _ => m0 - (intOf i).toNat)
  case atStart => exact ⟨0, by omega, rfl, Kept.refl _ _⟩
  case round =>
    obtain ⟨k, hk, rfl, hkr⟩ := hrel
    have y0 := (HP.out.kept hkr (fun h => h)).cell (j := 0) rfl
    have y1 := (HP.out.kept hkr (fun h => h)).cell (j := 1) rfl
    have y2 := (HP.out.kept hkr (fun h => h)).cell (j := 2) rfl
    have z0 := (HQ.out.kept hkr (fun h => h)).cell (j := 0) rfl
    have z1 := (HQ.out.kept hkr (fun h => h)).cell (j := 1) rfl
    have z2 := (HQ.out.kept hkr (fun h => h)).cell (j := 2) rfl
    by_cases hlt : k < m0
    · obtain ⟨p, hp⟩ : ∃ p, x.parts[k]? = some p := ⟨_, List.getElem?_eq_getElem (by rw [HI.out.ps.len]; exact hlt)⟩
      obtain ⟨b, o, cs, ea, hFb, hcl, hr, hE⟩ := HI.out.ps.at' k p hp
      obtain ⟨b', o', cs', eb, hGb, hcl', hr', hE'⟩ := HJ.out.ps.at' k p hp
      subst ea eb
      have HR : Hid (∀ w5, Kept No w0 w5 → (Instr.loadAt 66 (.pointer (some ⟨b, o + k * 21, none⟩))).run Tryz.prog w5 = .ok (.agg cs.toArray) w5) := fun w5 h5 => run_loadAt_mid w5 b (o + k * 21) _ cs _ (rangeAt_kept (rangeAt_kept hr HK.out (fun h => h)) h5 (fun h => h)) Tryz.underlying66 rfl (by rw [hcl]; exact sizePn)
      have HR' : Hid (∀ w5, Kept No w0 w5 → (Instr.loadAt 66 (.pointer (some ⟨b', o' + k * 21, none⟩))).run Tryz.prog w5 = .ok (.agg cs'.toArray) w5) := fun w5 h5 => run_loadAt_mid w5 b' (o' + k * 21) _ cs' _ (rangeAt_kept (rangeAt_kept hr' HK.out (fun h => h)) h5 (fun h => h)) Tryz.underlying66 rfl (by rw [hcl']; exact sizePn)
      have HC : Hid (∀ w5, Kept No w0 w5 → Calls Tryz.prog 28 #[.agg cs.toArray, .agg cs'.toArray] w5 fun e w6 => e = .returned (.bool true) ∧ Kept No w0 w6) := fun w5 h5 => (samePart_el F G cs cs' p w5 (elPn_kept h5 (fun _ _ h => h) _ _ (elPn_kept HK.out (fun _ _ h => h) _ _ hE)) (elPn_kept h5 (fun _ _ h => h) _ _ (elPn_kept HK.out (fun _ _ h => h) _ _ hE'))).mono (fun e w6 ⟨h1, h2⟩ => ⟨h1, h5.trans h2 (fun _ h => h.elim)⟩)
      have HKR : Hid (Kept No w0 wr) := hkr
      clear hr hr' hcl hcl' hE hE' hp hkr y1 y2 z1 z2
      go_upto_region 6 with fail
      refine wp_region_kept w0 (by kernel_rfl) (by kernel_rfl) HKR.out ?_
      refine BigFrame.wpQuiet_want rfl (fun K hK => ?_)
      refine quiet_val' (fun w5 hw5 => er_fIm0 _ rfl w.heap.size rfl) ?_
      refine hK _ ?_
      clear hK K
      simp only [Act.put, List.setIfInBounds_toArray, List.set_cons_zero, List.set_cons_succ]
      refine BigFrame.wpQuiet_want rfl (fun K hK => ?_)
      refine quiet_val' (fun w5 hw5 => er_ldSP _ rfl w.heap.size 0 _ rfl ((HP.out.kept hw5 (fun h => h)).cell (j := 0) rfl)) ?_
      refine hK _ ?_
      clear hK K
      simp only [Act.put, List.setIfInBounds_toArray, List.set_cons_zero, List.set_cons_succ]
      refine BigFrame.wpQuiet_want rfl (fun K hK => ?_)
      refine quiet_val' (fun w5 hw5 => er_mv _ rfl (.int .i64 k) rfl) ?_
      refine hK _ ?_
      clear hK K
      simp only [Act.put, List.setIfInBounds_toArray, List.set_cons_zero, List.set_cons_succ]
      refine BigFrame.wpQuiet_want rfl (fun K hK => ?_)
      refine quiet_val' (fun w5 hw5 => er_idxPn _ _ rfl b o m0 c0 k hlt hm0 rfl rfl) ?_
      refine hK _ ?_
      clear hK K
      simp only [Act.put, List.setIfInBounds_toArray, List.set_cons_zero, List.set_cons_succ]
      refine BigFrame.wpQuiet_want rfl (fun K hK => ?_)
      refine quiet_val' (fun w5 hw5 => er_ld _ _ rfl _ _ rfl (HR.out w5 hw5)) ?_
      refine hK _ ?_
      clear hK K
      simp only [Act.put, List.setIfInBounds_toArray, List.set_cons_zero, List.set_cons_succ]
      refine BigFrame.wpQuiet_want rfl (fun K hK => ?_)
      refine quiet_val' (fun w5 hw5 => er_fIm0 _ rfl (w.heap.size + 1) rfl) ?_
      refine hK _ ?_
      clear hK K
      simp only [Act.put, List.setIfInBounds_toArray, List.set_cons_zero, List.set_cons_succ]
      refine BigFrame.wpQuiet_want rfl (fun K hK => ?_)
      refine quiet_val' (fun w5 hw5 => er_ldSP _ rfl (w.heap.size + 1) 0 _ rfl ((HQ.out.kept hw5 (fun h => h)).cell (j := 0) rfl)) ?_
      refine hK _ ?_
      clear hK K
      simp only [Act.put, List.setIfInBounds_toArray, List.set_cons_zero, List.set_cons_succ]
      refine BigFrame.wpQuiet_want rfl (fun K hK => ?_)
      refine quiet_val' (fun w5 hw5 => er_mv _ rfl (.int .i64 k) rfl) ?_
      refine hK _ ?_
      clear hK K
      simp only [Act.put, List.setIfInBounds_toArray, List.set_cons_zero, List.set_cons_succ]
      refine BigFrame.wpQuiet_want rfl (fun K hK => ?_)
      refine quiet_val' (fun w5 hw5 => er_idxPn _ _ rfl b' o' m0 d0 k hlt hm0 rfl rfl) ?_
      refine hK _ ?_
      clear hK K
      simp only [Act.put, List.setIfInBounds_toArray, List.set_cons_zero, List.set_cons_succ]
      refine BigFrame.wpQuiet_want rfl (fun K hK => ?_)
      refine quiet_val' (fun w5 hw5 => er_ld _ _ rfl _ _ rfl (HR'.out w5 hw5)) ?_
      refine hK _ ?_
      clear hK K
      simp only [Act.put, List.setIfInBounds_toArray, List.set_cons_zero, List.set_cons_succ]
      refine BigFrame.wpQuiet_want rfl (fun K hK => ?_)
      refine quiet_same _ _ rfl (.agg cs.toArray) (.agg cs'.toArray) (.bool true) rfl rfl (fun w5 hw5 => HC.out w5 hw5) ?_
      refine hK _ ?_
      clear hK K
      simp only [Act.put, List.setIfInBounds_toArray, List.set_cons_zero, List.set_cons_succ]
      refine BigFrame.wpQuiet_want rfl (fun K hK => ?_)
      refine quiet_val' (fun w5 hw5 => er_not _ _ rfl true rfl) ?_
      refine hK _ ?_
      clear hK K
      simp only [Act.put, List.setIfInBounds_toArray, List.set_cons_zero, List.set_cons_succ]
      refine wpQuiet_nil ?_
      intro w6 hw6
      have HW6 : Hid (Kept No w0 w6) := hw6
      clear hw6
      go_wp2
      go_roundw
      case rel => exact ⟨k + 1, by omega, by go_num, HW6.out⟩
      case measure => simp [intOf]; omega
    · have hkn : k = m0 := by omega
      subst hkn
      go_wp2
      clear y0 z0
      go_loopw [6] (fun i wq => ∃ k1 : Nat, k1 ≤ m1 ∧ i = .int .i64 k1 ∧ ∃ q, wq = wr.drewN q) (fun i _ => m1 - (intOf i).toNat)
      case atStart => exact ⟨0, by omega, rfl, 0, rfl⟩
      case round =>
        obtain ⟨k1, hk1, rfl, q, rfl⟩ := hrel
        by_cases hlt1 : k1 < m1
        · obtain ⟨v, hv⟩ : ∃ v, x.ports[k1]? = some v := ⟨_, List.getElem?_eq_getElem (by rw [HI.out.qs.len]; exact hlt1)⟩
          obtain ⟨b, o, cs, ea, hFb, hcl, hr, hE⟩ := HI.out.qs.at' k1 v hv
          obtain ⟨b', o', cs', eb, hGb, hcl', hr', hE'⟩ := HJ.out.qs.at' k1 v hv
          have hcs := hE.1
          have hcs' := hE'.1
          subst ea eb hcs hcs'
          have r0 : wr.cell? ⟨b, o + k1 * 6, none⟩ = some (.int .i64 v.pt) := hkr.cell (HK.out.cell (hr 0 _ rfl) (fun h => h)) (fun h => h)
          have t0 : wr.cell? ⟨b', o' + k1 * 6, none⟩ = some (.int .i64 v.pt) := hkr.cell (HK.out.cell (hr' 0 _ rfl) (fun h => h)) (fun h => h)
          have r1 : wr.cell? ⟨b, o + k1 * 6 + 1, none⟩ = some (.int .i64 v.kd) := hkr.cell (HK.out.cell (hr 1 _ rfl) (fun h => h)) (fun h => h)
          have t1 : wr.cell? ⟨b', o' + k1 * 6 + 1, none⟩ = some (.int .i64 v.kd) := hkr.cell (HK.out.cell (hr' 1 _ rfl) (fun h => h)) (fun h => h)
          have r2 : wr.cell? ⟨b, o + k1 * 6 + 2, none⟩ = some (.bool v.out) := hkr.cell (HK.out.cell (hr 2 _ rfl) (fun h => h)) (fun h => h)
          have t2 : wr.cell? ⟨b', o' + k1 * 6 + 2, none⟩ = some (.bool v.out) := hkr.cell (HK.out.cell (hr' 2 _ rfl) (fun h => h)) (fun h => h)
          have r3 : wr.cell? ⟨b, o + k1 * 6 + 3, none⟩ = some (.int .i64 v.sz) := hkr.cell (HK.out.cell (hr 3 _ rfl) (fun h => h)) (fun h => h)
          have t3 : wr.cell? ⟨b', o' + k1 * 6 + 3, none⟩ = some (.int .i64 v.sz) := hkr.cell (HK.out.cell (hr' 3 _ rfl) (fun h => h)) (fun h => h)
          have r4 : wr.cell? ⟨b, o + k1 * 6 + 4, none⟩ = some (.int .i64 v.dp) := hkr.cell (HK.out.cell (hr 4 _ rfl) (fun h => h)) (fun h => h)
          have t4 : wr.cell? ⟨b', o' + k1 * 6 + 4, none⟩ = some (.int .i64 v.dp) := hkr.cell (HK.out.cell (hr' 4 _ rfl) (fun h => h)) (fun h => h)
          have r5 : wr.cell? ⟨b, o + k1 * 6 + 5, none⟩ = some (.int .i64 v.rf) := hkr.cell (HK.out.cell (hr 5 _ rfl) (fun h => h)) (fun h => h)
          have t5 : wr.cell? ⟨b', o' + k1 * 6 + 5, none⟩ = some (.int .i64 v.rf) := hkr.cell (HK.out.cell (hr' 5 _ rfl) (fun h => h)) (fun h => h)
          clear hr hr' hcl hcl' hE hE' hv
          go_wp2
          go_quiet (fail)
          go_wp2
          go_roundw
          case rel => exact ⟨k1 + 1, by omega, by go_num, _, rfl⟩
          case measure => simp [intOf]; omega
        · have hkn1 : k1 = m1 := by omega
          subst hkn1
          have HKQ : Hid (Kept No w0 (wr.drewN q)) := hkr.drewN q
          go_wp2
          clear y1 y2 z1 z2 hkr
          generalize wr.drewN q = ws at *
          go_loopw [7] (fun i wq => ∃ k2 : Nat, k2 ≤ m2 ∧ i = .int .i64 k2 ∧ Kept No w0 wq) (fun i _ => m2 - (intOf i).toNat)
          case atStart => exact ⟨0, by omega, rfl, HKQ.out⟩
          case round =>
            obtain ⟨k2, hk2, rfl, hkq⟩ := hrel
            have y2 := (HP.out.kept hkq (fun h => h)).cell (j := 2) rfl
            have z2 := (HQ.out.kept hkq (fun h => h)).cell (j := 2) rfl
            by_cases hlt2 : k2 < m2
            · obtain ⟨v, hv⟩ : ∃ v, x.chans[k2]? = some v := ⟨_, List.getElem?_eq_getElem (by rw [HI.out.cs.len]; exact hlt2)⟩
              obtain ⟨b, o, cs, ea, hFb, hcl, hr, hE⟩ := HI.out.cs.at' k2 v hv
              obtain ⟨b', o', cs', eb, hGb, hcl', hr', hE'⟩ := HJ.out.cs.at' k2 v hv
              subst ea eb
              obtain ⟨la, ln, lc, ec, hl⟩ := hE.sl
              obtain ⟨la', ln', lc', ec', hl'⟩ := hE'.sl
              subst ec ec'
              have HKQ : Hid (Kept No w0 wr) := hkq
              have HR : Hid (w.rangeAt b' (o' + k2 * 5) [.int .i64 v.kd, .int .i64 v.fr, .slice la' ln' lc', .int .i64 v.ph, .int .i64 v.pe]) := hr'
              have HL : Hid (Ls 1 elI w F la ln lc v.dst) := hl
              have HL' : Hid (Ls 1 elI w G la' ln' lc' v.dst) := hl'
              have r0 : wr.cell? ⟨b, o + k2 * 5, none⟩ = some (.int .i64 v.kd) := hkq.cell (HK.out.cell (hr 0 _ rfl) (fun h => h)) (fun h => h)
              have r1 : wr.cell? ⟨b, o + k2 * 5 + 1, none⟩ = some (.int .i64 v.fr) := hkq.cell (HK.out.cell (hr 1 _ rfl) (fun h => h)) (fun h => h)
              have r2 : wr.cell? ⟨b, o + k2 * 5 + 2, none⟩ = some (.slice la ln lc) := hkq.cell (HK.out.cell (hr 2 _ rfl) (fun h => h)) (fun h => h)
              have r3 : wr.cell? ⟨b, o + k2 * 5 + 3, none⟩ = some (.int .i64 v.ph) := hkq.cell (HK.out.cell (hr 3 _ rfl) (fun h => h)) (fun h => h)
              have r4 : wr.cell? ⟨b, o + k2 * 5 + 4, none⟩ = some (.int .i64 v.pe) := hkq.cell (HK.out.cell (hr 4 _ rfl) (fun h => h)) (fun h => h)
              have HA : Hid (Bk (wr.alloc (.cells #[.int .i64 v.kd, .int .i64 v.fr, .slice la ln lc, .int .i64 v.ph, .int .i64 v.pe] 68)) wr.heap.size [.int .i64 v.kd, .int .i64 v.fr, .slice la ln lc, .int .i64 v.ph, .int .i64 v.pe] 68) := heap_alloc_new wr _
              have HK1 : Hid (Kept No w0 (wr.alloc (.cells #[.int .i64 v.kd, .int .i64 v.fr, .slice la ln lc, .int .i64 v.ph, .int .i64 v.pe] 68))) := hkq.alloc _
              clear hr hr' hcl hcl' hE hE' hv hl hl' z2 hkq
              go_upto_region 17 with fail
              generalize wr.alloc (.cells #[.int .i64 v.kd, .int .i64 v.fr, .slice la ln lc, .int .i64 v.ph, .int .i64 v.pe] 68) = w1 at *
              clear r0 r1 r2 r3 r4 y2
              have z2 := (HQ.out.kept HK1.out (fun h => h)).cell (j := 2) rfl
              have t0 : w1.cell? ⟨b', o' + k2 * 5, none⟩ = some (.int .i64 v.kd) := HK1.out.cell (HK.out.cell (HR.out 0 _ rfl) (fun h => h)) (fun h => h)
              have t1 : w1.cell? ⟨b', o' + k2 * 5 + 1, none⟩ = some (.int .i64 v.fr) := HK1.out.cell (HK.out.cell (HR.out 1 _ rfl) (fun h => h)) (fun h => h)
              have t2 : w1.cell? ⟨b', o' + k2 * 5 + 2, none⟩ = some (.slice la' ln' lc') := HK1.out.cell (HK.out.cell (HR.out 2 _ rfl) (fun h => h)) (fun h => h)
              have t3 : w1.cell? ⟨b', o' + k2 * 5 + 3, none⟩ = some (.int .i64 v.ph) := HK1.out.cell (HK.out.cell (HR.out 3 _ rfl) (fun h => h)) (fun h => h)
              have t4 : w1.cell? ⟨b', o' + k2 * 5 + 4, none⟩ = some (.int .i64 v.pe) := HK1.out.cell (HK.out.cell (HR.out 4 _ rfl) (fun h => h)) (fun h => h)
              obtain ⟨ba, hba⟩ : ∃ ba, ba = wr.heap.size := ⟨_, rfl⟩
              rw [← hba] at HA ⊢
              clear hba
              have HB2 : Hid (Bk (w1.alloc (.cells #[.int .i64 v.kd, .int .i64 v.fr, .slice la' ln' lc', .int .i64 v.ph, .int .i64 v.pe] 68)) w1.heap.size [.int .i64 v.kd, .int .i64 v.fr, .slice la' ln' lc', .int .i64 v.ph, .int .i64 v.pe] 68) := heap_alloc_new w1 _
              have HA2 : Hid (Bk (w1.alloc (.cells #[.int .i64 v.kd, .int .i64 v.fr, .slice la' ln' lc', .int .i64 v.ph, .int .i64 v.pe] 68)) ba [.int .i64 v.kd, .int .i64 v.fr, .slice la ln lc, .int .i64 v.ph, .int .i64 v.pe] 68) := HA.out.kept ((Kept.refl No w1).alloc _) (fun h => h)
              have HK2 : Hid (Kept No w0 (w1.alloc (.cells #[.int .i64 v.kd, .int .i64 v.fr, .slice la' ln' lc', .int .i64 v.ph, .int .i64 v.pe] 68))) := HK1.out.alloc _
              go_upto_region 18 with fail
              generalize w1.alloc (.cells #[.int .i64 v.kd, .int .i64 v.fr, .slice la' ln' lc', .int .i64 v.ph, .int .i64 v.pe] 68) = w2 at *
              clear t0 t1 t2 t3 t4 z2
              have HKW : Hid (Kept No w w2) := HK.out.trans HK2.out (fun _ h => h.elim)
              have cI := sameInts_one F G la la' ln ln' lc lc' v.dst w2 (HL.out.kept HKW.out (fun _ _ h => h) (elI_kept HKW.out (fun _ _ h => h))) (HL'.out.kept HKW.out (fun _ _ h => h) (elI_kept HKW.out (fun _ _ h => h)))
              have r0 := HA2.out.cell (j := 0) rfl
              have t0 := HB2.out.cell (j := 0) rfl
              have r1 := HA2.out.cell (j := 1) rfl
              have t1 := HB2.out.cell (j := 1) rfl
              have r2 := HA2.out.cell (j := 2) rfl
              have t2 := HB2.out.cell (j := 2) rfl
              have r3 := HA2.out.cell (j := 3) rfl
              have t3 := HB2.out.cell (j := 3) rfl
              have r4 := HA2.out.cell (j := 4) rfl
              have t4 := HB2.out.cell (j := 4) rfl
              go_wp2_with (go_at_call 29; refine cI.mono ?_; rintro ex w3 ⟨rfl, hk3⟩; have HK3 : Hid (Kept No w0 w3) := HK2.out.trans hk3 (fun _ h => h.elim); clear hk3)
              go_roundw
              case rel => exact ⟨k2 + 1, by omega, by go_num, HK3.out⟩
              case measure => simp [intOf]; omega
            · have hkn2 : k2 = m2 := by omega
              subst hkn2
              have HKQ2 : Hid (Kept No w0 wr) := hkq
              go_wp2
              go_ret
              exact ⟨rfl, HK.out.trans HKQ2.out (fun _ h => h.elim)⟩

end Go.Proofs.YtolmhoenjcinjaaGreat
