/-
  The document's look at one partition.
-/
import Derived.Test.YtggejpccjmolhaaGreatDoorG35
namespace Go.Proofs.YtggejpccjmolhaaGreatDoor
open Go.RowKit Plain
set_option linter.unusedVariables false
set_option linter.unusedSimpArgs false
set_option maxRecDepth 100000

theorem wp_region_keptA {id : Nat} {Q : Exit → Act → World → Prop} {a : Act} {w : World} {l : List Oper} (w0 : World) (hm : Tryz.prog.follows .mixedOrders = true) (hB : Region.lexB .any l.toArray = true) (hw : Kept No w0 w)
    (h : wpQuiet Tryz.prog l.toArray (fun w' => Kept No w0 w') (fun a' => ∀ w', Kept No w0 w' → Q .normal a' w') l a) : (Code.region id l.toArray true).wp Tryz.prog Q a w :=
  wp_region_quiet (C := fun w' => Kept No w0 w') hm hB (hw.drewN 1) (by simpa using h)
section
variable {C : World → Prop} {a : Act} {o : Oper} {K : Act → Prop}
theorem quiet_valP {v : Value} (h : ∀ w, C w → (execOp a.eval o).run Tryz.prog w = .ok (.value v) w) (hk : K (a.put o.dst v)) : o.quiet Tryz.prog a C K :=
  ⟨v, fun w hw => by unfold Oper.quietAt; rw [h w hw]; exact ⟨rfl, rfl⟩, hk⟩
theorem quiet_callP {f : FuncId} {args : Array Value} {v : Value} (hrun : ∀ w, (execOp a.eval o).run Tryz.prog w = .ok (.enter f args) w) (hc : ∀ w, C w → Calls Tryz.prog f args w fun e w'' => e = .returned v ∧ C w'') (hk : K (a.put o.dst v)) : o.quiet Tryz.prog a C K :=
  ⟨v, fun w hw => by unfold Oper.quietAt; rw [hrun w]; exact ⟨rfl, hc w hw⟩, hk⟩
theorem quiet_proc (x0 x1 : Operand) (ho : o.op = .call { callee := .value (.func 32), args := #[x0, x1], argTypes := #[59, 69] }) (v0 v1 v : Value) (h0 : a.eval x0 = v0) (h1 : a.eval x1 = v1)
    (hc : ∀ w, C w → Calls Tryz.prog 32 #[v0, v1] w fun e w'' => e = .returned v ∧ C w'') (hk : K (a.put o.dst v)) : o.quiet Tryz.prog a C K :=
  quiet_callP (f := 32) (args := #[v0, v1]) (fun w => by subst h0 h1; simp [execOp, ho, go_sem, Act.eval]) hc hk
end
section
variable {o : Oper} {a : Act} {w : World}
theorem er_fPn5x (x : Operand) (ho : o.op = .fieldAddr 59 x 5) (g k : Nat) (hx : a.eval x = .pointer (some ⟨g, k, none⟩)) : (execOp a.eval o).run Tryz.prog w = .ok (.value (.pointer (some ⟨g, k + 8, none⟩))) w := by
  simp only [execOp, ho, hx]; simp [go_sem, add_none]
theorem er_ldPcx (x : Operand) (ho : o.op = .load 53 x) (g off : Nat) (v : Value) (hx : a.eval x = .pointer (some ⟨g, off, none⟩)) (hr : w.cell? ⟨g, off, none⟩ = some v) : (execOp a.eval o).run Tryz.prog w = .ok (.value v) w := by
  simp only [execOp, ho, hx]; simp [go_sem, hr]
theorem er_idxPrx (x y : Operand) (ho : o.op = .indexAddr 53 x y) (b off n c d : Nat) (hd : d < n) (hn : n ≤ 9223372036854775807) (hx : a.eval x = .slice (some ⟨b, off, none⟩) n c) (hy : a.eval y = .int .i64 d) : (execOp a.eval o).run Tryz.prog w = .ok (.value (.pointer (some ⟨b, off + d * 6, none⟩))) w := by
  simp only [execOp, ho, hx, hy]
  simp [go_sem, add_none]
  omega
theorem er_notx (x : Operand) (t : TypeId) (ho : o.op = .unOp .not t x) (b : Bool) (hx : a.eval x = .bool b) : (execOp a.eval o).run Tryz.prog w = .ok (.value (.bool (!b))) w := by
  simp only [execOp, ho, hx]; simp [go_sem]
end
theorem sizeEPrc : (Tryz.prog.info? 69).map (·.size) = some 6 := by kernel_rfl
def prcV (z : Prc) : Value := .agg #[.int .i64 z.en, .int .i64 z.pr, .int .i64 z.pe, .int .i64 z.li, .int .i64 z.ca, .bool z.auto]

set_option maxHeartbeats 16000000 in
theorem rpart_any {F : Nat → Prop} {w : World} {cs : List Value} {y : Pn} (hE : elPn w F cs y) (hl : cs.length = 21) :
    Calls Tryz.prog 19 #[.agg cs.toArray] w fun e w' => e = .returned (.int .i64 (rptE y)) ∧ Kept No w w' := by
  obtain ⟨a0, n0, c0, a1, n1, c1, a2, n2, c2, a3, n3, c3, a4, n4, c4, a5, n5, c5, e, l0, l1, l2, l3, l4, l5⟩ := hE.sl
  have HK : Hid (Kept No w (w.alloc (.cells cs.toArray 59))) := (Kept.refl No w).alloc _
  have m0 : n0 ≤ 9223372036854775807 := Nat.le_trans l0.cap l0.max
  have m1 : n1 ≤ 9223372036854775807 := Nat.le_trans l1.cap l1.max
  have hm2 : n2 ≤ 9223372036854775807 := Nat.le_trans l2.cap l2.max
  have HCS : Hid (∀ j v, cs[j]? = some v → ∀ W, Kept No (w.alloc (.cells cs.toArray 59)) W → W.cell? ⟨w.heap.size, j, none⟩ = some v) := fun j v h W k => k.cell (pn_cell w cs 59 j v h) (fun h => h)
  have HLD : Hid (∀ W, Kept No (w.alloc (.cells cs.toArray 59)) W → (Instr.loadAt 59 (.pointer (some ⟨w.heap.size, 0, none⟩))).run Tryz.prog W = .ok (.agg cs.toArray) W) := fun W k => run_loadAt_mid W w.heap.size 0 _ cs _ (fun j v hv => by rw [Nat.zero_add]; exact HCS.out j v hv W k) Tryz.underlying59 rfl (by rw [hl]; exact sizeEPn)
  have D8 : Hid (∀ W, Kept No (w.alloc (.cells cs.toArray 59)) W → W.cell? ⟨w.heap.size, 0 + 8, none⟩ = some (.slice a2 n2 c2)) := fun W k => HCS.out 8 _ (by rw [e]; rfl) W k
  have d4 := HCS.out 4 (.int .i64 y.wo) (by rw [e]; rfl) _ (Kept.refl No _)
  have d5 := HCS.out 5 (.int .i64 y.fi) (by rw [e]; rfl) _ (Kept.refl No _)
  have d6 := HCS.out 6 (.slice a0 n0 c0) (by rw [e]; rfl) _ (Kept.refl No _)
  have d7 := HCS.out 7 (.slice a1 n1 c1) (by rw [e]; rfl) _ (Kept.refl No _)
  have HPR : Hid (∀ (W : World) (z : Prc), Kept No (w.alloc (.cells cs.toArray 59)) W → Calls Tryz.prog 32 #[.agg cs.toArray, prcV z] W fun e w' => e = .returned (.bool (rpB y.code.length z)) ∧ Kept No W w') := fun W z k => rproc_any z (elPn_kept (HK.out.trans k (fun _ h => h.elim)) (fun _ _ h => h) _ _ hE)
  have HOB : Hid (∀ (W : World), Kept No (w.alloc (.cells cs.toArray 59)) W → Calls Tryz.prog 33 #[.agg cs.toArray] W fun e w' => e = .returned (.bool (allF (smP y.sems) y.sems.length && allF (bfP y.bufs) y.bufs.length)) ∧ Kept No W w') := fun W k => by
    have kk := HK.out.trans k (fun _ h => h.elim)
    have := robjects_any F cs a3 n3 c3 y.sems a5 n5 c5 y.bufs W (by rw [e]; rfl) (by rw [e]; rfl) (l3.kept kk (fun _ _ h => h) (elSm_kept kk (fun _ _ h => h))) (l5.kept kk (fun _ _ h => h) (elBf_kept kk (fun _ _ h => h)))
    rw [← l3.len, ← l5.len] at this
    exact this
  have HHE : Hid (∀ (W : World), Kept No (w.alloc (.cells cs.toArray 59)) W → Calls Tryz.prog 34 #[.agg cs.toArray] W fun e w' => e = .returned (.bool (hlF (hv8 y.h0 y.h1 y.h2 y.h3 y.h4 y.h5 y.h6 y.h7) 8 && hanF y.ha y.procs y.procs.length)) ∧ Kept No W w') := fun W k => by
    have kk := HK.out.trans k (fun _ h => h.elim)
    have := rhealth_any F cs y.ha (hv8 y.h0 y.h1 y.h2 y.h3 y.h4 y.h5 y.h6 y.h7) a2 n2 c2 y.procs W (by rw [e]; rfl) (by rw [e]; rfl) (fun q hq => by
      rw [e]
      match q, hq with
      | 0, _ => rfl
      | 1, _ => rfl
      | 2, _ => rfl
      | 3, _ => rfl
      | 4, _ => rfl
      | 5, _ => rfl
      | 6, _ => rfl
      | 7, _ => rfl) (l2.kept kk (fun _ _ h => h) (elPrc_kept kk (fun _ _ h => h)))
    rw [← l2.len] at this
    exact this
  have HL2 : Hid (Ls 6 elPrc w F a2 n2 c2 y.procs) := l2
  obtain ⟨R, hR⟩ : ∃ R, R = rptE y := ⟨_, rfl⟩
  rw [← hR]
  have HR : Hid (R = rptE y) := hR
  have HLEN : Hid (y.init.length = n0 ∧ y.code.length = n1 ∧ y.procs.length = n2) := ⟨l0.len, l1.len, l2.len⟩
  clear hR hE e l0 l1 l2 l3 l4 l5 hl HCS
  unfold rptE at HR
  rw [HLEN.out.1] at HR
  obtain ⟨fi, hfi⟩ : ∃ fi, fi = y.fi := ⟨_, rfl⟩
  obtain ⟨wo, hwo⟩ : ∃ wo, wo = y.wo := ⟨_, rfl⟩
  rw [← hfi, ← hwo] at HR
  rw [← hfi] at d5
  rw [← hwo] at d4
  clear hfi hwo
  go_enter Tryz.func19, Tryz.ntmps19
  go_upto_region 1 with fail
  generalize w.alloc (.cells cs.toArray 59) = w1 at *
  cases g0 : inB fi 0 wo
  · have HR1 : Hid (R = 110) := HR.out.trans (by rw [g0]; simp)
    go_wp2_with (go_at_call 29; refine (rwithin_any _ _ _ _).mono ?_; rintro e w' ⟨rfl, rfl⟩)
    go_ret
    exact ⟨by rw [HR1.out]; rfl, HK.out⟩
  by_cases g1 : wo < (n0 : Int)
  · have HR1 : Hid (R = 110) := HR.out.trans (by rw [g0]; simp [g1])
    go_wp2_with (go_at_call 29; refine (rwithin_any _ _ _ _).mono ?_; rintro e w' ⟨rfl, rfl⟩)
    go_ret
    exact ⟨by rw [HR1.out]; rfl, HK.out⟩
  have HR1 : Hid (R = if y.code.length = 0 then 104 else if allF (fun i => rpB y.code.length (y.procs.getD i dPrc)) y.procs.length = false then 105 else if (allF (smP y.sems) y.sems.length && allF (bfP y.bufs) y.bufs.length) = false then 106 else if (hlF (hv8 y.h0 y.h1 y.h2 y.h3 y.h4 y.h5 y.h6 y.h7) 8 && hanF y.ha y.procs y.procs.length) = false then 109 else 0) := HR.out.trans (by rw [g0]; simp [g1])
  clear HR
  by_cases g2 : n1 = 0
  · subst g2
    have HR2 : Hid (R = 104) := HR1.out.trans (by rw [HLEN.out.2.1]; rfl)
    go_wp2_with (go_at_call 29; refine (rwithin_any _ _ _ _).mono ?_; rintro e w' ⟨rfl, rfl⟩)
    go_ret
    exact ⟨by rw [HR2.out]; rfl, HK.out⟩
  have HR2 : Hid (R = if allF (fun i => rpB y.code.length (y.procs.getD i dPrc)) n2 = false then 105 else if (allF (smP y.sems) y.sems.length && allF (bfP y.bufs) y.bufs.length) = false then 106 else if (hlF (hv8 y.h0 y.h1 y.h2 y.h3 y.h4 y.h5 y.h6 y.h7) 8 && hanF y.ha y.procs y.procs.length) = false then 109 else 0) := HR1.out.trans (by rw [if_neg (by rw [HLEN.out.2.1]; exact g2), HLEN.out.2.2])
  clear HR1
  have g3 : ((n1 : Int) == 0) = false := by simp [g2]
  have g4 : ¬ (n1 : Int) = 0 := by omega
  go_upto_region 5 with (go_at_call 29; refine (rwithin_any _ _ _ _).mono ?_; rintro e w' ⟨rfl, hw⟩; obtain rfl := hw.symm)
  clear d4 d5 d6 d7 g3 g4
  go_wp2
  go_loopw [3] (fun i wr => ∃ k : Nat, k ≤ n2 ∧ i = .int .i64 k ∧ Kept No w1 wr ∧ allF (fun i => rpB y.code.length (y.procs.getD i dPrc)) k = true) (fun i _ => n2 - (intOf i).toNat)
  case atStart => exact ⟨0, by omega, rfl, Kept.refl _ _, rfl⟩
  case round =>
    obtain ⟨k, hk, rfl, K, hb⟩ := hrel
    have HB : Hid (allF (fun i => rpB y.code.length (y.procs.getD i dPrc)) k = true) := hb
    have HKr : Hid (Kept No w1 wr) := K
    have d8 := D8.out wr K
    rw [Nat.zero_add] at d8
    clear hb K
    by_cases hlt : k < n2
    · have hx : y.procs[k]? = some (y.procs.getD k dPrc) := by rw [List.getD, List.getElem?_eq_getElem (by rw [HLEN.out.2.2]; exact hlt)]; rfl
      obtain ⟨bb, oo, ds, rfl, _, hdl, hr, hE⟩ := HL2.out.at' k _ hx
      have HS : Hid (allF (fun i => rpB y.code.length (y.procs.getD i dPrc)) (k + 1) = (allF (fun i => rpB y.code.length (y.procs.getD i dPrc)) k && rpB y.code.length (y.procs.getD k dPrc))) := rfl
      have HN : Hid (rpB y.code.length (y.procs.getD k dPrc) = false → allF (fun i => rpB y.code.length (y.procs.getD i dPrc)) n2 = false) := fun h => allF_no (p := fun i => rpB y.code.length (y.procs.getD i dPrc)) h n2 hlt
      obtain ⟨z, hz⟩ : ∃ z, z = y.procs.getD k dPrc := ⟨_, rfl⟩
      rw [← hz] at HS HN hE
      have hds : ds = [.int .i64 z.en, .int .i64 z.pr, .int .i64 z.pe, .int .i64 z.li, .int .i64 z.ca, .bool z.auto] := hE.1
      subst hds
      have HZ : Hid (∀ W, Kept No w1 W → (Instr.loadAt 69 (.pointer (some ⟨bb, oo + k * 6, none⟩))).run Tryz.prog W = .ok (prcV z) W) := fun W kw => run_loadAt_mid W bb (oo + k * 6) _ _ _ (rangeAt_kept hr (HK.out.trans kw (fun _ h => h.elim)) (fun h => h)) Tryz.underlying69 rfl sizeEPrc
      have hgk : (k : Int) < (n2 : Int) := by omega
      clear hr hE hx hz hdl
      go_upto_region 8 with fail
      clear d8
      refine wp_region_keptA wr (by kernel_rfl) (by kernel_rfl) (Kept.refl No wr) ?_
      refine BigFrame.wpQuiet_want rfl (fun K hK => ?_)
      refine quiet_valP (fun w5 hw5 => er_ld _ _ rfl _ _ rfl (HLD.out w5 (HKr.out.trans hw5 (fun _ h => h.elim)))) ?_
      refine hK _ ?_
      clear hK K
      simp only [Act.put, List.setIfInBounds_toArray, List.set_cons_zero, List.set_cons_succ]
      refine BigFrame.wpQuiet_want rfl (fun K hK => ?_)
      refine quiet_valP (fun w5 hw5 => er_fPn5x _ rfl w.heap.size 0 rfl) ?_
      refine hK _ ?_
      clear hK K
      simp only [Act.put, List.setIfInBounds_toArray, List.set_cons_zero, List.set_cons_succ]
      refine BigFrame.wpQuiet_want rfl (fun K hK => ?_)
      refine quiet_valP (fun w5 hw5 => er_ldPcx _ rfl w.heap.size (0 + 8) _ rfl (D8.out w5 (HKr.out.trans hw5 (fun _ h => h.elim)))) ?_
      refine hK _ ?_
      clear hK K
      simp only [Act.put, List.setIfInBounds_toArray, List.set_cons_zero, List.set_cons_succ]
      refine BigFrame.wpQuiet_want rfl (fun K hK => ?_)
      refine quiet_valP (fun w5 hw5 => er_mv _ rfl (.int .i64 k) rfl) ?_
      refine hK _ ?_
      clear hK K
      simp only [Act.put, List.setIfInBounds_toArray, List.set_cons_zero, List.set_cons_succ]
      refine BigFrame.wpQuiet_want rfl (fun K hK => ?_)
      refine quiet_valP (fun w5 hw5 => er_idxPrx _ _ rfl bb oo n2 c2 k hlt hm2 rfl rfl) ?_
      refine hK _ ?_
      clear hK K
      simp only [Act.put, List.setIfInBounds_toArray, List.set_cons_zero, List.set_cons_succ]
      refine BigFrame.wpQuiet_want rfl (fun K hK => ?_)
      refine quiet_valP (fun w5 hw5 => er_ld _ _ rfl _ _ rfl (HZ.out w5 (HKr.out.trans hw5 (fun _ h => h.elim)))) ?_
      refine hK _ ?_
      clear hK K
      simp only [Act.put, List.setIfInBounds_toArray, List.set_cons_zero, List.set_cons_succ]
      refine BigFrame.wpQuiet_want rfl (fun K hK => ?_)
      refine quiet_proc _ _ rfl (.agg cs.toArray) (prcV z) (.bool (rpB y.code.length z)) rfl rfl (fun w5 hw5 => (HPR.out w5 z (HKr.out.trans hw5 (fun _ h => h.elim))).mono fun e w6 ⟨h1, h2⟩ => ⟨h1, hw5.trans h2 (fun _ h => h.elim)⟩) ?_
      refine hK _ ?_
      clear hK K
      simp only [Act.put, List.setIfInBounds_toArray, List.set_cons_zero, List.set_cons_succ]
      refine BigFrame.wpQuiet_want rfl (fun K hK => ?_)
      refine quiet_valP (fun w5 hw5 => er_notx _ _ rfl (rpB y.code.length z) rfl) ?_
      refine hK _ ?_
      clear hK K
      simp only [Act.put, List.setIfInBounds_toArray, List.set_cons_zero, List.set_cons_succ]
      refine wpQuiet_nil ?_
      intro w9 k9
      have HK9 : Hid (Kept No w1 w9) := HKr.out.trans k9 (fun _ h => h.elim)
      clear k9
      cases g : rpB y.code.length z
      · have HN2 : Hid (allF (fun i => rpB y.code.length (y.procs.getD i dPrc)) n2 = false) := HN.out g
        have HR3 : Hid (R = 105) := HR2.out.trans (by rw [HN2.out]; rfl)
        go_wp2
        go_ret
        exact ⟨by rw [HR3.out]; rfl, HK.out.trans HK9.out (fun _ h => h.elim)⟩
      · have HY : Hid (allF (fun i => rpB y.code.length (y.procs.getD i dPrc)) (k + 1) = true) := HS.out.trans (by rw [HB.out, g]; rfl)
        go_wp2
        go_roundw
        case rel => exact ⟨k + 1, by omega, by go_num, HK9.out, HY.out⟩
        case measure => simp [intOf]; omega
    · have hkn : k = n2 := by omega
      subst hkn
      have HR3 : Hid (R = if (allF (smP y.sems) y.sems.length && allF (bfP y.bufs) y.bufs.length) = false then 106 else if (hlF (hv8 y.h0 y.h1 y.h2 y.h3 y.h4 y.h5 y.h6 y.h7) 8 && hanF y.ha y.procs y.procs.length) = false then 109 else 0) := HR2.out.trans (by rw [HB.out]; rfl)
      clear HR2 HB HLEN
      generalize (allF (smP y.sems) y.sems.length && allF (bfP y.bufs) y.bufs.length) = bo at *
      generalize (hlF (hv8 y.h0 y.h1 y.h2 y.h3 y.h4 y.h5 y.h6 y.h7) 8 && hanF y.ha y.procs y.procs.length) = bh at *
      have co := HOB.out wr HKr.out
      have HLr : Hid ((Instr.loadAt 59 (.pointer (some ⟨w.heap.size, 0, none⟩))).run Tryz.prog wr = .ok (.agg cs.toArray) wr) := HLD.out wr HKr.out
      go_upto_region 10 with fail
      refine wp_region_lit ?_
      refine l_take 37 rfl rfl (er_ld _ _ rfl _ _ rfl HLr.out) ?_
      simp only [Act.put, List.setIfInBounds_toArray, List.set_cons_zero, List.set_cons_succ]
      generalize hca : Value.agg cs.toArray = av at *
      go_wp2_with fail
      refine co.mono ?_
      rintro e wo ⟨rfl, ko⟩
      have KO : Hid (Kept No w1 wo) := HKr.out.trans ko (fun _ h => h.elim)
      clear ko co HLr
      cases bo
      · have HR4 : Hid (R = 106) := HR3.out.trans rfl
        go_wp2
        go_ret
        exact ⟨by rw [HR4.out]; rfl, HK.out.trans KO.out (fun _ h => h.elim)⟩
      have ch := HHE.out wo KO.out
      have HLo : Hid ((Instr.loadAt 59 (.pointer (some ⟨w.heap.size, 0, none⟩))).run Tryz.prog wo = .ok av wo) := HLD.out wo KO.out
      go_upto_region 12 with fail
      refine wp_region_lit ?_
      refine l_take 40 rfl rfl (er_ld _ _ rfl _ _ rfl HLo.out) ?_
      simp only [Act.put, List.setIfInBounds_toArray, List.set_cons_zero, List.set_cons_succ]
      clear hca
      go_wp2_with fail
      refine ch.mono ?_
      rintro e wh ⟨rfl, kh⟩
      have KH : Hid (Kept No w1 wh) := KO.out.trans kh (fun _ h => h.elim)
      clear kh ch HLo
      cases bh
      · have HR4 : Hid (R = 109) := HR3.out.trans rfl
        go_wp2
        go_ret
        exact ⟨by rw [HR4.out]; rfl, HK.out.trans KH.out (fun _ h => h.elim)⟩
      · have HR4 : Hid (R = 0) := HR3.out.trans rfl
        go_wp2
        go_ret
        exact ⟨by rw [HR4.out]; rfl, HK.out.trans KH.out (fun _ h => h.elim)⟩
end Go.Proofs.YtggejpccjmolhaaGreatDoor
