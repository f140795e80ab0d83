/-
  One text: CEPn, RLn, RJobs.
-/
import Derived.Test.YtnmhcnppdhdhfaaGreatDoorG03
import Derived.Test.YtnmhcnppdhdhfaaGreatDoorG13
import Derived.Test.YtnmhcnppdhdhfaaGreatDoorG14
namespace Go.Proofs.YtnmhcnppdhdhfaaGreatDoor
open Go.RowKit
set_option linter.unusedVariables false
set_option maxRecDepth 100000

theorem sizeEPn : (Tryz.prog.info? 48).map (·.size) = some 21 := by kernel_rfl
section
variable {o : Oper} {a : Act} {w : World}
theorem er_st (t : TypeId) (x y : Operand) (ho : o.op = .store t x y) (pv v : Value) (hx : a.eval x = pv) (hy : a.eval y = v) {w' : World} (hr : (Instr.storeAt t pv v).run Tryz.prog w = .ok () w') : (execOp a.eval o).run Tryz.prog w = .ok .skip w' := by
  simp only [execOp, ho, hx, hy, Sem.run_bind, hr]; rfl
theorem er_alPn (ho : o.op = .alloc 48) : (execOp a.eval o).run Tryz.prog w = .ok (.value (.pointer (some ⟨w.heap.size, 0, none⟩))) (w.alloc (.cells #[.int .i64 0, .int .i64 0, .int .i64 0, .int .i64 0, .int .i64 0, .int .i64 0, .slice none 0 0, .slice none 0 0, .slice none 0 0, .int .i64 0, .int .i64 0, .int .i64 0, .int .i64 0, .int .i64 0, .int .i64 0, .int .i64 0, .int .i64 0, .int .i64 0, .slice none 0 0, .slice none 0 0, .slice none 0 0] 48)) := by
  simp only [execOp, ho, Instr.alloc, newVar]; simp [Value.cells, go_sem]
theorem er_idxPn (x y : Operand) (ho : o.op = .indexAddr 22 x y) (b off n c d : Nat) (hd : d < n) (hn : n ≤ 9223372036854775807) (hx : a.eval x = .slice (some ⟨b, off, none⟩) n c) (hy : a.eval y = .int .i64 d) : (execOp a.eval o).run Tryz.prog w = .ok (.value (.pointer (some ⟨b, off + d * 21, none⟩))) w := by
  simp only [execOp, ho, hx, hy]
  simp [go_sem, add_none]
  omega
end
theorem setCells_kept (b : Nat) : ∀ (vs : List Value) (o : Nat) (w w0 : World), Kept No w0 w → w0.heap.size ≤ b → Kept No w0 (w.setCells b o vs)
  | [], o, w, w0, h, hb => h
  | v :: vs, o, w, w0, h, hb => setCells_kept b vs (o + 1) _ w0 (h.setCell (p := ⟨b, o, none⟩) (.inr hb) v) hb
theorem box_PnE (w : World) (cs : List Value) (hl : cs.length = 21) (h1 : ∀ v ∈ cs, v.oneCell' = true) :
    ∃ w2, (Instr.storeAt 48 (.pointer (some ⟨w.heap.size, 0, none⟩)) (.agg cs.toArray)).run Tryz.prog (w.alloc (.cells #[.int .i64 0, .int .i64 0, .int .i64 0, .int .i64 0, .int .i64 0, .int .i64 0, .slice none 0 0, .slice none 0 0, .slice none 0 0, .int .i64 0, .int .i64 0, .int .i64 0, .int .i64 0, .int .i64 0, .int .i64 0, .int .i64 0, .int .i64 0, .int .i64 0, .slice none 0 0, .slice none 0 0, .slice none 0 0] 48)) = .ok () w2 ∧
      w2.rangeAt w.heap.size 0 cs ∧ Kept No w w2 := by
  have hb : Bk (w.alloc (.cells #[.int .i64 0, .int .i64 0, .int .i64 0, .int .i64 0, .int .i64 0, .int .i64 0, .slice none 0 0, .slice none 0 0, .slice none 0 0, .int .i64 0, .int .i64 0, .int .i64 0, .int .i64 0, .int .i64 0, .int .i64 0, .int .i64 0, .int .i64 0, .int .i64 0, .slice none 0 0, .slice none 0 0, .slice none 0 0] 48)) w.heap.size [.int .i64 0, .int .i64 0, .int .i64 0, .int .i64 0, .int .i64 0, .int .i64 0, .slice none 0 0, .slice none 0 0, .slice none 0 0, .int .i64 0, .int .i64 0, .int .i64 0, .int .i64 0, .int .i64 0, .int .i64 0, .int .i64 0, .int .i64 0, .int .i64 0, .slice none 0 0, .slice none 0 0, .slice none 0 0] 48 := heap_alloc_new w _
  have ht : (w.alloc (.cells #[.int .i64 0, .int .i64 0, .int .i64 0, .int .i64 0, .int .i64 0, .int .i64 0, .slice none 0 0, .slice none 0 0, .slice none 0 0, .int .i64 0, .int .i64 0, .int .i64 0, .int .i64 0, .int .i64 0, .int .i64 0, .int .i64 0, .int .i64 0, .int .i64 0, .slice none 0 0, .slice none 0 0, .slice none 0 0] 48)).there w.heap.size 0 21 := by
    intro j hj
    rw [Nat.zero_add]
    refine ⟨?_, hb.fz j⟩
    obtain ⟨v, hv⟩ : ∃ v, ([.int .i64 0, .int .i64 0, .int .i64 0, .int .i64 0, .int .i64 0, .int .i64 0, .slice none 0 0, .slice none 0 0, .slice none 0 0, .int .i64 0, .int .i64 0, .int .i64 0, .int .i64 0, .int .i64 0, .int .i64 0, .int .i64 0, .int .i64 0, .int .i64 0, .slice none 0 0, .slice none 0 0, .slice none 0 0] : List Value)[j]? = some v := ⟨_, List.getElem?_eq_getElem (by simpa using hj)⟩
    rw [hb.cell hv]; rfl
  refine ⟨(w.alloc (.cells #[.int .i64 0, .int .i64 0, .int .i64 0, .int .i64 0, .int .i64 0, .int .i64 0, .slice none 0 0, .slice none 0 0, .slice none 0 0, .int .i64 0, .int .i64 0, .int .i64 0, .int .i64 0, .int .i64 0, .int .i64 0, .int .i64 0, .int .i64 0, .int .i64 0, .slice none 0 0, .slice none 0 0, .slice none 0 0] 48)).setCells w.heap.size 0 cs, ?_, ?_, ?_⟩
  · exact run_storeAt_mid _ w.heap.size 0 _ cs.toArray (by simpa [hl] using ht) (by rw [sizeEPn]; simp [hl]) (all_oneCell_toArray h1)
  · exact World.rangeAt_setCells_same _ _ _ _ (by rw [hl]; exact ht)
  · exact setCells_kept _ _ _ _ _ ((Kept.refl No w).alloc _) (Nat.le_refl _)

theorem er_cutPn {w : World} {a : Act} {o : Oper} (x y : Operand) (ho : o.op = .slice 22 x none (some y) none) (b off n c k : Nat) (hk : k ≤ c) (hc : c ≤ 9223372036854775807) (hx : a.eval x = .slice (some ⟨b, off, none⟩) n c) (hy : a.eval y = .int .i64 k) : (execOp a.eval o).run Tryz.prog w = .ok (.value (.slice (some ⟨b, off, none⟩) k c)) w := by
  simp only [execOp, ho, Option.map_none, Option.map_some, hx, hy]
  simp [go_sem, hk]
  try omega
theorem quiet_findsPn {C : World → Prop} {a : Act} {o : Oper} {K : Act → Prop} (x0 x1 x2 : Operand) (ho : o.op = .call { callee := .value (.func 104), args := #[x0, x1, x2], argTypes := #[187, 48, 22] }) (v0 v1 v2 v : Value) (h0 : a.eval x0 = v0) (h1 : a.eval x1 = v1) (h2 : a.eval x2 = v2)
    (hc : ∀ w, C w → Calls Tryz.prog 104 #[v0, v1, v2] w fun e w'' => e = .returned v ∧ C w'') (hk : K (a.put o.dst v)) : o.quiet Tryz.prog a C K :=
  quiet_call' (f := 104) (args := #[v0, v1, v2]) (fun w => by subst h0 h1 h2; simp [execOp, ho, go_sem, Act.eval]) hc hk

set_option maxHeartbeats 16000000 in
theorem eachPn (first : Int) (a : Option Addr) (n c : Nat) (cs : Nat → List Value) (tb m mc : Nat) (rs : Nat → Rw) (E : Nat → Nat → Int) (w : World) (hnc : n ≤ c) (hcm : c ≤ 9223372036854775807)
    (h : ∀ i, i < n → ∃ b o, a = some ⟨b, o, none⟩ ∧ w.rangeAt b (o + i * 21) (cs i)) (ho : ∀ i, i < n → (cs i).length = 21 ∧ ∀ v ∈ cs i, v.oneCell' = true) (hm : m ≤ 1000) (hT : Tb w tb m rs) (hf : 0 ≤ first) (hf2 : first ≤ 1)
    (hE : ∀ i j w', i < n → j < m → Kept No w w' → Calls Tryz.prog 104 #[(rs j).v, .agg (cs i).toArray, .slice a i c] w' fun e w'' => e = .returned (.int .i64 (E i j)) ∧ Kept No w' w'') :
    Calls Tryz.prog 67 #[.slice a n c, .int .i64 first, .slice (some ⟨tb, 0, none⟩) m mc] w fun e w' => e = .returned (fv (eachF (fun i => rowsF (E i) m) first n)) ∧ Kept No w w' := by
  have hn : n ≤ 9223372036854775807 := Nat.le_trans hnc hcm
  have H : Hid (∀ i, i < n → ∃ b o, a = some ⟨b, o, none⟩ ∧ w.rangeAt b (o + i * 21) (cs i)) := h
  have HO : Hid (∀ i, i < n → (cs i).length = 21 ∧ ∀ v ∈ cs i, v.oneCell' = true) := ho
  have HT : Hid (Tb w tb m rs) := hT
  have HE : Hid (∀ i j w', i < n → j < m → Kept No w w' → Calls Tryz.prog 104 #[(rs j).v, (.agg (cs i).toArray), .slice a i c] w' fun e w'' => e = .returned (.int .i64 (E i j)) ∧ Kept No w' w'') := hE
  clear h ho hT hE
  go_enter Tryz.func67, Tryz.ntmps67
  go_wp2
  go_loopw [14] (fun x wr => ∃ k : Nat, k ≤ n ∧ x = .int .i64 k ∧ Kept No w wr ∧ eachF (fun i => rowsF (E i) m) first k = none) (fun x _ => n - (intOf x).toNat)
  case atStart => exact ⟨0, by omega, rfl, Kept.refl No w, rfl⟩
  case round =>
    obtain ⟨k, hk, rfl, hkr, hno⟩ := hrel
    by_cases hlt : k < n
    · generalize wr = wo at *
      obtain ⟨b, o, rfl, hr⟩ := H.out k hlt
      obtain ⟨hl, h1⟩ := HO.out k hlt
      obtain ⟨w1, hst, hrg, hk1⟩ := box_PnE wo (cs k) hl h1
      have HLD : Hid ((Instr.loadAt 48 (.pointer (some ⟨b, o + k * 21, none⟩))).run Tryz.prog wo = .ok (.agg (cs k).toArray) wo) := run_loadAt_mid wo b (o + k * 21) _ (cs k) _ (rangeAt_kept hr hkr (fun h => h)) Tryz.underlying48 rfl (by rw [hl]; exact sizeEPn)
      have HST : Hid ((Instr.storeAt 48 (.pointer (some ⟨wo.heap.size, 0, none⟩)) (.agg (cs k).toArray)).run Tryz.prog (wo.alloc (.cells #[.int .i64 0, .int .i64 0, .int .i64 0, .int .i64 0, .int .i64 0, .int .i64 0, .slice none 0 0, .slice none 0 0, .slice none 0 0, .int .i64 0, .int .i64 0, .int .i64 0, .int .i64 0, .int .i64 0, .int .i64 0, .int .i64 0, .int .i64 0, .int .i64 0, .slice none 0 0, .slice none 0 0, .slice none 0 0] 48)) = .ok () w1) := hst
      have HW : Hid (Kept No w w1) := hkr.trans hk1 (fun _ h => h.elim)
      have HRC : Hid (∀ w5, Kept No w1 w5 → (Instr.loadAt 48 (.pointer (some ⟨wo.heap.size, 0, none⟩))).run Tryz.prog w5 = .ok (.agg (cs k).toArray) w5) := fun w5 h5 => run_loadAt_mid w5 wo.heap.size 0 _ (cs k) _ (rangeAt_kept hrg h5 (fun h => h)) Tryz.underlying48 rfl (by rw [hl]; exact sizeEPn)
      have HEk : Hid (∀ j w', j < m → Kept No w w' → Calls Tryz.prog 104 #[(rs j).v, .agg (cs k).toArray, .slice (some ⟨b, o, none⟩) k c] w' fun e w'' => e = .returned (.int .i64 (E k j)) ∧ Kept No w' w'') := fun j w' hj hw => HE.out k j w' hlt hj hw
      have HNO : Hid (eachF (fun i => rowsF (E i) m) first k = none) := hno
      have hcap : k ≤ c := by omega
      clear hno hkr hr hl h1 hst hrg hk1
      generalize Value.agg (cs k).toArray = av at *
      go_upto_region 3 with fail
      refine wp_region_lit ?_
      refine l_take 16 rfl rfl (er_mv _ rfl (.int .i64 k) rfl) ?_
      simp only [Act.put, List.setIfInBounds_toArray, List.set_cons_zero, List.set_cons_succ]
      refine l_take 17 rfl rfl (er_idxPn _ _ rfl b o n c k hlt hn rfl rfl) ?_
      simp only [Act.put, List.setIfInBounds_toArray, List.set_cons_zero, List.set_cons_succ]
      refine l_take 18 rfl rfl (er_ld _ _ rfl _ _ rfl HLD.out) ?_
      simp only [Act.put, List.setIfInBounds_toArray, List.set_cons_zero, List.set_cons_succ]
      refine l_make 8 rfl rfl (er_alPn rfl) ?_
      simp only [Act.put, List.setIfInBounds_toArray, List.set_cons_zero, List.set_cons_succ]
      refine l_take 7 rfl rfl (er_as _ rfl (.int .i64 k) rfl) ?_
      simp only [Act.put, List.setIfInBounds_toArray, List.set_cons_zero, List.set_cons_succ]
      refine l_turn rfl rfl (er_st _ _ _ rfl _ _ rfl rfl HST.out) ?_
      clear HST HLD
      go_wp2
      go_loopw [21] (fun y wr => ∃ j : Nat, j ≤ m ∧ y = .int .i64 j ∧ Kept No w1 wr ∧ rowsF (E k) j = 0) (fun y _ => m - (intOf y).toNat)
      case atStart => exact ⟨0, by omega, rfl, Kept.refl No _, rfl⟩
      case round =>
        obtain ⟨j, hj, rfl, hkr2, hno2⟩ := hrel
        have HR0 : Hid (rowsF (E k) j = 0) := hno2
        clear hno2
        by_cases hjt : j < m
        · obtain ⟨t0, t1, t2, t3⟩ := ((HT.out.kept HW.out).kept hkr2) j hjt
          have HK2 : Hid (Kept No w1 (wr.alloc (.cells #[.int .i64 (rs j).err, (rs j).f1, (rs j).f2, (rs j).f3] 187))) := hkr2.alloc _
          have HRW : Hid (∀ w5, Kept No (wr.alloc (.cells #[.int .i64 (rs j).err, (rs j).f1, (rs j).f2, (rs j).f3] 187)) w5 → (Instr.loadAt 187 (.pointer (some ⟨wr.heap.size, 0, none⟩))).run Tryz.prog w5 = .ok (rs j).v w5) := fun w5 h5 => by
            have z0 := h5.cell (p := ⟨wr.heap.size, 0, none⟩) (v := .int .i64 (rs j).err) (by simp) (fun h => h)
            have z1 := h5.cell (p := ⟨wr.heap.size, 1, none⟩) (v := (rs j).f1) (by simp) (fun h => h)
            have z2 := h5.cell (p := ⟨wr.heap.size, 2, none⟩) (v := (rs j).f2) (by simp) (fun h => h)
            have z3 := h5.cell (p := ⟨wr.heap.size, 3, none⟩) (v := (rs j).f3) (by simp) (fun h => h)
            simp [go_sem, z0, z1, z2, z3, Rw.v]
          have HEj : Hid (∀ w', Kept No w1 w' → Calls Tryz.prog 104 #[(rs j).v, av, .slice (some ⟨b, o, none⟩) k c] w' fun e w'' => e = .returned (.int .i64 (E k j)) ∧ Kept No w' w'') := fun w' hw => HEk.out j w' hjt (HW.out.trans hw (fun _ h => h.elim))
          have HW0 : Hid (Kept No w w1) := HW.out
          clear hkr2 HW HEk HT HE H
          have s1 : ∀ (ad : Addr) (mo : Mode) (W : World), (store ad (rs j).f1 mo).run Tryz.prog W = stored Tryz.prog W ad (rs j).f1 mo := fun ad mo W => run_store _ _ _ _ _ (rs j).h1
          have s2 : ∀ (ad : Addr) (mo : Mode) (W : World), (store ad (rs j).f2 mo).run Tryz.prog W = stored Tryz.prog W ad (rs j).f2 mo := fun ad mo W => run_store _ _ _ _ _ (rs j).h2
          have s3 : ∀ (ad : Addr) (mo : Mode) (W : World), (store ad (rs j).f3 mo).run Tryz.prog W = stored Tryz.prog W ad (rs j).f3 mo := fun ad mo W => run_store _ _ _ _ _ (rs j).h3
          go_upto_region 7 with fail
          clear t0 t1 t2 t3 s1 s2 s3
          generalize hW2 : wr.alloc (.cells #[.int .i64 (rs j).err, (rs j).f1, (rs j).f2, (rs j).f3] 187) = w2 at *
          clear hW2
          refine wp_region_kept w2 (by kernel_rfl) (by kernel_rfl) (Kept.refl No w2) ?_
          refine BigFrame.wpQuiet_want rfl (fun K hK => ?_)
          refine quiet_val' (fun w5 hw5 => er_ld _ _ rfl _ _ rfl (HRW.out w5 hw5)) ?_
          refine hK _ ?_
          clear hK K
          simp only [Act.put, List.setIfInBounds_toArray, List.set_cons_zero, List.set_cons_succ]
          refine BigFrame.wpQuiet_want rfl (fun K hK => ?_)
          refine quiet_val' (fun w5 hw5 => er_ld _ _ rfl _ _ rfl (HRC.out w5 (HK2.out.trans hw5 (fun _ h => h.elim)))) ?_
          refine hK _ ?_
          clear hK K
          simp only [Act.put, List.setIfInBounds_toArray, List.set_cons_zero, List.set_cons_succ]
          refine BigFrame.wpQuiet_want rfl (fun K hK => ?_)
          refine quiet_val' (fun w5 hw5 => er_mv _ rfl (.slice (some ⟨b, o, none⟩) n c) rfl) ?_
          refine hK _ ?_
          clear hK K
          simp only [Act.put, List.setIfInBounds_toArray, List.set_cons_zero, List.set_cons_succ]
          refine BigFrame.wpQuiet_want rfl (fun K hK => ?_)
          refine quiet_val' (fun w5 hw5 => er_mv _ rfl (.int .i64 k) rfl) ?_
          refine hK _ ?_
          clear hK K
          simp only [Act.put, List.setIfInBounds_toArray, List.set_cons_zero, List.set_cons_succ]
          refine BigFrame.wpQuiet_want rfl (fun K hK => ?_)
          refine quiet_val' (fun w5 hw5 => er_cutPn _ _ rfl b o n c k hcap hcm rfl rfl) ?_
          refine hK _ ?_
          clear hK K
          simp only [Act.put, List.setIfInBounds_toArray, List.set_cons_zero, List.set_cons_succ]
          refine BigFrame.wpQuiet_want rfl (fun K hK => ?_)
          refine quiet_findsPn _ _ _ rfl (rs j).v (av) (.slice (some ⟨b, o, none⟩) k c) (.int .i64 (E k j)) rfl rfl rfl (fun w5 hw5 => (HEj.out w5 (HK2.out.trans hw5 (fun _ h => h.elim))).mono (fun e w6 he => ⟨he.1, hw5.trans he.2 (fun _ h => h.elim)⟩)) ?_
          refine hK _ ?_
          clear hK K
          simp only [Act.put, List.setIfInBounds_toArray, List.set_cons_zero, List.set_cons_succ]
          refine BigFrame.wpQuiet_want rfl (fun K hK => ?_)
          refine quiet_val' (fun w5 hw5 => er_as _ rfl (.int .i64 (E k j)) rfl) ?_
          refine hK _ ?_
          clear hK K
          simp only [Act.put, List.setIfInBounds_toArray, List.set_cons_zero, List.set_cons_succ]
          refine wpQuiet_nil ?_
          intro w6 hw6
          have HW6 : Hid (Kept No w1 w6) := HK2.out.trans hw6 (fun _ h => h.elim)
          clear hw6 HRC HRW HEj HK2
          by_cases he : E k j = 0
          · have HR1 : Hid (rowsF (E k) (j + 1) = 0) := rowsF_miss HR0.out he
            have HE0 : Hid (E k j = 0) := he
            go_wp2
            go_roundw
            case rel => exact ⟨j + 1, by omega, by go_num, HW6.out, HR1.out⟩
            case measure => simp [intOf]; omega
          · have HF : Hid (eachF (fun i => rowsF (E i) m) first n = some (E k j, first + k)) := by
              have e1 := rowsF_hit HR0.out he m hjt
              have e2 := eachF_hit (r := fun i => rowsF (E i) m) HNO.out (by simp only [e1]; exact he) n hlt
              have e3 : eachF (fun i => rowsF (E i) m) first n = some (E k j, first + k) := by rw [e2]; simp only [e1]
              exact e3
            go_wp2
            go_ret
            exact ⟨by rw [HF.out]; rfl, HW0.out.trans HW6.out (fun _ h => h.elim)⟩
        · have hje : j = m := by omega
          subst hje
          have HN1 : Hid (eachF (fun i => rowsF (E i) j) first (k + 1) = none) := eachF_miss HNO.out HR0.out
          have HW6 : Hid (Kept No w wr) := HW.out.trans hkr2 (fun _ h => h.elim)
          clear hkr2 HW HEk HT HE H
          go_wp2
          go_roundw
          case rel => exact ⟨k + 1, by omega, by go_num, HW6.out, HN1.out⟩
          case measure => simp [intOf]; omega
    · have hke : k = n := by omega
      subst hke
      have HF : Hid (eachF (fun i => rowsF (E i) m) first k = none) := hno
      have HW6 : Hid (Kept No w wr) := hkr
      clear hno hkr
      go_wp2
      go_ret
      exact ⟨by rw [HF.out]; rfl, HW6.out⟩

end Go.Proofs.YtnmhcnppdhdhfaaGreatDoor

namespace Go.Proofs.YtnmhcnppdhdhfaaGreatDoor
open Go.RowKit
set_option linter.unusedVariables false
set_option linter.unusedSimpArgs false
set_option maxRecDepth 100000

theorem sizeEPrc : (Tryz.prog.info? 54).map (·.size) = some 6 := by kernel_rfl
section
variable {o : Oper} {a : Act} {w : World}
theorem er_alPrc (ho : o.op = .alloc 54) : (execOp a.eval o).run Tryz.prog w = .ok (.value (.pointer (some ⟨w.heap.size, 0, none⟩))) (w.alloc (.cells #[.int .i64 0, .int .i64 0, .int .i64 0, .int .i64 0, .int .i64 0, .bool false] 54)) := by
  simp only [execOp, ho, Instr.alloc, newVar]; simp [Value.cells, go_sem]
theorem er_idxPrc (x y : Operand) (ho : o.op = .indexAddr 42 x y) (b off n c d : Nat) (hd : d < n) (hn : n ≤ 9223372036854775807) (hx : a.eval x = .slice (some ⟨b, off, none⟩) n c) (hy : a.eval y = .int .i64 d) : (execOp a.eval o).run Tryz.prog w = .ok (.value (.pointer (some ⟨b, off + d * 6, none⟩))) w := by
  simp only [execOp, ho, hx, hy]
  simp [go_sem, add_none]
  omega
end
theorem box_Prc (w : World) (cs : List Value) (hl : cs.length = 6) (h1 : ∀ v ∈ cs, v.oneCell' = true) :
    ∃ w2, (Instr.storeAt 54 (.pointer (some ⟨w.heap.size, 0, none⟩)) (.agg cs.toArray)).run Tryz.prog (w.alloc (.cells #[.int .i64 0, .int .i64 0, .int .i64 0, .int .i64 0, .int .i64 0, .bool false] 54)) = .ok () w2 ∧
      w2.rangeAt w.heap.size 0 cs ∧ Kept No w w2 := by
  have hb : Bk (w.alloc (.cells #[.int .i64 0, .int .i64 0, .int .i64 0, .int .i64 0, .int .i64 0, .bool false] 54)) w.heap.size [.int .i64 0, .int .i64 0, .int .i64 0, .int .i64 0, .int .i64 0, .bool false] 54 := heap_alloc_new w _
  have ht : (w.alloc (.cells #[.int .i64 0, .int .i64 0, .int .i64 0, .int .i64 0, .int .i64 0, .bool false] 54)).there w.heap.size 0 6 := by
    intro j hj
    rw [Nat.zero_add]
    refine ⟨?_, hb.fz j⟩
    obtain ⟨v, hv⟩ : ∃ v, ([.int .i64 0, .int .i64 0, .int .i64 0, .int .i64 0, .int .i64 0, .bool false] : List Value)[j]? = some v := ⟨_, List.getElem?_eq_getElem (by simpa using hj)⟩
    rw [hb.cell hv]; rfl
  refine ⟨(w.alloc (.cells #[.int .i64 0, .int .i64 0, .int .i64 0, .int .i64 0, .int .i64 0, .bool false] 54)).setCells w.heap.size 0 cs, ?_, ?_, ?_⟩
  · exact run_storeAt_mid _ w.heap.size 0 _ cs.toArray (by simpa [hl] using ht) (by rw [sizeEPrc]; simp [hl]) (all_oneCell_toArray h1)
  · exact World.rangeAt_setCells_same _ _ _ _ (by rw [hl]; exact ht)
  · exact setCells_kept _ _ _ _ _ ((Kept.refl No w).alloc _) (Nat.le_refl _)

def line0 (xs : List Prc) : List Wr := (List.range xs.length).map fun i => wrk (xs.getD i dPrc) i
theorem pw_wrk (x : Prc) (i : Nat) (h0 : 0 ≤ x.pe) (h1 : 0 ≤ x.ca) : (pw (wrk x i)).toArray = #[.int .i64 x.en, .int .i64 x.pr, .int .i64 x.pe, .int .i64 x.li, .int .i64 x.ca, .bool x.auto, .int .i64 i, .int .i64 0, .int .i64 0, .int .i64 0, .int .i64 0] := by
  have e0 : ((x.pe.toNat : Nat) : Int) = x.pe := Int.toNat_of_nonneg h0
  have e1 : ((x.ca.toNat : Nat) : Int) = x.ca := Int.toNat_of_nonneg h1
  simp only [pw, wrk, e0, e1]
  rfl
def fillW (xs : List Prc) (k : Nat) : Nat → Wr := fun i => if i < k then wrk (xs.getD i dPrc) i else zeroW
theorem fillW_next (xs : List Prc) (k : Nat) : upd (fillW xs k) k (wrk (xs.getD k dPrc) k) = fillW xs (k + 1) := by
  funext i
  unfold upd fillW
  by_cases h : i = k
  · subst h; rw [if_pos rfl, if_pos (by omega)]
  · rw [if_neg h]
    by_cases h2 : i < k
    · rw [if_pos h2, if_pos (by omega)]
    · rw [if_neg h2, if_neg (by omega)]

set_option maxHeartbeats 8000000 in
theorem lineUp_any (F : Nat → Prop) (a : Option Addr) (n c : Nat) (xs : List Prc) (w : World) (h : Ls 6 elPrc w F a n c xs) (hn : n ≤ 64) (hz : ∀ i, i < n → 0 ≤ (xs.getD i dPrc).pe ∧ 0 ≤ (xs.getD i dPrc).ca) :
    Calls Tryz.prog 29 #[.slice a n c] w fun e w' => ∃ (g : Nat) (d : Array Wr), e = .returned (.slice (some ⟨g, 0, none⟩) n n) ∧ w.heap.size ≤ g ∧ d.size = n ∧ d.toList.Perm (line0 xs) ∧ d.toList.Pairwise (fun x y => y.pr ≤ x.pr) ∧ Ln w' g n (fun i => d[i]!) ∧ Kept No w w' := by
  have H : Hid (Ls 6 elPrc w F a n c xs) := h
  have hlen := h.len
  clear h
  have hm := mkW_run n hn w
  have HF : Hid (Ln (mkW n w) w.heap.size n (fillW xs 0)) := by
    have := mkW_ln n w
    exact this
  have HK : Hid (Kept No w (mkW n w)) := (Kept.refl No w).alloc _
  go_enter Tryz.func29, Tryz.ntmps29
  go_wp2
  clear hm
  generalize mkW n w = w1 at *
  go_loopw [11] (fun x wr => ∃ k : Nat, k ≤ n ∧ x = .int .i64 k ∧ Ln wr w.heap.size n (fillW xs k) ∧ Kept No w wr) (fun x _ => n - (intOf x).toNat)
  case atStart => exact ⟨0, by omega, rfl, HF.out, HK.out⟩
  case round =>
    clear HF HK
    obtain ⟨k, hk, rfl, hf, hkr⟩ := hrel
    by_cases hlt : k < n
    · have hx : xs[k]? = some (xs.getD k dPrc) := by rw [List.getD, List.getElem?_eq_getElem (by rw [hlen]; exact hlt)]; rfl
      obtain ⟨b, o, cs, rfl, hb, hl, hr, he, hok⟩ := H.out.at' k _ hx
      obtain ⟨z0, z1⟩ := hz k hlt
      have HNX := fillW_next xs k
      generalize xs.getD k dPrc = y at *
      have h1 : ∀ v ∈ cs, v.oneCell' = true := by
        rw [he]
        simp [Value.oneCell']
      generalize wr = wo at *
      obtain ⟨w2, hst, hrg, hk2⟩ := box_Prc wo cs hl h1
      have HLD : Hid ((Instr.loadAt 54 (.pointer (some ⟨b, o + k * 6, none⟩))).run Tryz.prog wo = .ok (.agg cs.toArray) wo) := run_loadAt_mid wo b (o + k * 6) _ cs _ (rangeAt_kept hr hkr (fun h => h)) Tryz.underlying54 rfl (by rw [hl]; exact sizeEPrc)
      have HST : Hid ((Instr.storeAt 54 (.pointer (some ⟨wo.heap.size, 0, none⟩)) (.agg cs.toArray)).run Tryz.prog (wo.alloc (.cells #[.int .i64 0, .int .i64 0, .int .i64 0, .int .i64 0, .int .i64 0, .bool false] 54)) = .ok () w2) := hst
      have HRD : Hid ((Instr.loadAt 54 (.pointer (some ⟨wo.heap.size, 0, none⟩))).run Tryz.prog w2 = .ok (.agg #[.int .i64 y.en, .int .i64 y.pr, .int .i64 y.pe, .int .i64 y.li, .int .i64 y.ca, .bool y.auto]) w2) := by
        have := run_loadAt_mid w2 wo.heap.size 0 54 cs _ hrg Tryz.underlying54 rfl (by rw [hl]; exact sizeEPrc)
        rw [he] at this
        exact this
      have hf2 : Ln w2 w.heap.size n (fillW xs k) := Ln.kept hf hk2 (fun h => h)
      have HS2 : Hid ((Instr.storeAt 63 (.pointer (some ⟨w.heap.size, k * 11, none⟩)) (.agg #[.int .i64 y.en, .int .i64 y.pr, .int .i64 y.pe, .int .i64 y.li, .int .i64 y.ca, .bool y.auto, .int .i64 k, .int .i64 0, .int .i64 0, .int .i64 0, .int .i64 0])).run Tryz.prog w2 = .ok () (w2.setCells w.heap.size (k * 11) (pw (wrk y k)))) := by
        have ht := ln_there hf2 hlt
        have := run_storeAt_mid (P := Tryz.prog) w2 w.heap.size (k * 11) 63 (pw (wrk y k)).toArray (by simpa [pw] using ht) (by rw [sizeW]; simp [pw]) (pw_one _)
        rw [pw_wrk y k z0 z1] at this
        have e : (pw (wrk y k)) = [.int .i64 y.en, .int .i64 y.pr, .int .i64 y.pe, .int .i64 y.li, .int .i64 y.ca, .bool y.auto, .int .i64 k, .int .i64 0, .int .i64 0, .int .i64 0, .int .i64 0] := by
          have := congrArg Array.toList (pw_wrk y k z0 z1)
          simpa using this
        rw [e]
        exact this
      have HN : Hid (Ln (w2.setCells w.heap.size (k * 11) (pw (wrk y k))) w.heap.size n (fillW xs (k + 1)) ∧ Kept No w (w2.setCells w.heap.size (k * 11) (pw (wrk y k)))) := by
        refine ⟨?_, setCells_kept _ _ _ _ _ (hkr.trans hk2 (fun _ h => h.elim)) (Nat.le_refl _)⟩
        rw [← HNX]
        exact ln_put hf2 _
      have hcap : k ≤ c := by have := H.out.cap; omega
      have hn' : n ≤ 9223372036854775807 := by omega
      clear HNX hkr hf hf2 hr hl h1 hst hrg hk2 hx hb he hok
      generalize Value.agg cs.toArray = av at *
      generalize w2.setCells w.heap.size (k * 11) (pw (wrk y k)) = w3 at *
      go_upto_region 4 with fail
      refine wp_region_lit ?_
      refine l_take 13 rfl rfl (er_mv _ rfl _ rfl) ?_
      simp only [Act.put, List.setIfInBounds_toArray, List.set_cons_zero, List.set_cons_succ]
      refine l_take 14 rfl rfl (er_idxPrc _ _ rfl b o n c k hlt hn' rfl rfl) ?_
      simp only [Act.put, List.setIfInBounds_toArray, List.set_cons_zero, List.set_cons_succ]
      refine l_take 15 rfl rfl (er_ld _ _ rfl _ _ rfl HLD.out) ?_
      simp only [Act.put, List.setIfInBounds_toArray, List.set_cons_zero, List.set_cons_succ]
      refine l_make 5 rfl rfl (er_alPrc rfl) ?_
      simp only [Act.put, List.setIfInBounds_toArray, List.set_cons_zero, List.set_cons_succ]
      refine l_take 4 rfl rfl (er_as _ rfl _ rfl) ?_
      simp only [Act.put, List.setIfInBounds_toArray, List.set_cons_zero, List.set_cons_succ]
      refine l_turn rfl rfl (er_st _ _ _ rfl _ _ rfl rfl HST.out) ?_
      clear HST HLD
      go_upto_region 5 with fail
      refine wp_region_lit ?_
      refine l_take 16 rfl rfl (er_mv _ rfl _ rfl) ?_
      simp only [Act.put, List.setIfInBounds_toArray, List.set_cons_zero, List.set_cons_succ]
      refine l_take 17 rfl rfl (er_mv _ rfl _ rfl) ?_
      simp only [Act.put, List.setIfInBounds_toArray, List.set_cons_zero, List.set_cons_succ]
      refine l_take 18 rfl rfl (er_ld _ _ rfl _ _ rfl HRD.out) ?_
      simp only [Act.put, List.setIfInBounds_toArray, List.set_cons_zero, List.set_cons_succ]
      refine l_take 19 rfl rfl (er_mv _ rfl _ rfl) ?_
      simp only [Act.put, List.setIfInBounds_toArray, List.set_cons_zero, List.set_cons_succ]
      refine l_take 20 rfl rfl (er_bW _ _ rfl y.en y.pr y.pe y.li y.ca y.auto k rfl rfl) ?_
      simp only [Act.put, List.setIfInBounds_toArray, List.set_cons_zero, List.set_cons_succ]
      refine l_take 21 rfl rfl (er_idxW _ _ rfl w.heap.size n n k hlt hn' rfl rfl) ?_
      simp only [Act.put, List.setIfInBounds_toArray, List.set_cons_zero, List.set_cons_succ]
      refine l_turn rfl rfl (er_st _ _ _ rfl _ _ rfl rfl HS2.out) ?_
      clear HS2 HRD
      go_wp2
      go_roundw
      case rel => exact ⟨k + 1, by omega, by go_num, HN.out.1, HN.out.2⟩
      case measure => simp [intOf]; omega
    · have hke : k = n := by omega
      subst hke
      have HO : Hid (Ln wr w.heap.size k (fillW xs k)) := hf
      have HKR : Hid (Kept No w wr) := hkr
      clear hf hkr
      have hsort := sortW_any (line0 xs).toArray w.heap.size k k wr (by simp [line0, hlen]) (by
        have hs : (line0 xs).toArray.size = k := by simp [line0, hlen]
        rw [hs]
        refine LnF.congr HO.out (fun i j hi _ => ?_)
        have e : (line0 xs).toArray[i]! = wrk (xs.getD i dPrc) i := by
          rw [getElem!_pos _ i (by rw [hs]; exact hi)]
          simp [line0]
        show cellv (fillW xs k i) j = cellv ((line0 xs).toArray[i]!) j
        rw [e]
        unfold fillW
        rw [if_pos hi]) hn (Nat.le_refl _)
      go_wp2_with (go_at_call 47; refine hsort.mono ?_; rintro e w' ⟨⟨v, rfl⟩, d, q1, q2, q3, q4, q5⟩)
      have HQ : Hid (d.size = k ∧ d.toList.Perm (line0 xs) ∧ d.toList.Pairwise (fun x y => y.pr ≤ x.pr) ∧ Ln w' w.heap.size k (fun i => d[i]!) ∧ Kept No w w') := ⟨q1, by simpa using q2, q3, q4, HKR.out.trans q5 (fun g e => .inr (by rw [e]; exact Nat.le_refl _))⟩
      clear q1 q2 q3 q4 q5 HO HKR hsort
      go_wp2
      go_ret
      exact ⟨_, d, rfl, Nat.le_refl _, HQ.out⟩
end Go.Proofs.YtnmhcnppdhdhfaaGreatDoor

namespace Go.Proofs.YtnmhcnppdhdhfaaGreatDoor
open Go.RowKit
set_option linter.unusedVariables false
set_option linter.unusedSimpArgs false
set_option maxRecDepth 100000

def job1 (x : Prc) : Bool := x.auto && (x.pe != 0 && (x.li != 0 && x.ca != 0))
def hjB (xs : List Prc) : Nat → Bool
  | 0 => true
  | n + 1 => hjB xs n && (job1 (xs.getD n dPrc) && !((xs.take n).any (fun o => o.pr == (xs.getD n dPrc).pr)))
theorem hjB_less {xs : List Prc} {k : Nat} (h : hjB xs (k + 1) = false) : ∀ m, hjB xs (k + 1 + m) = false
  | 0 => h
  | m + 1 => by show (hjB xs (k + 1 + m) && _) = false; rw [hjB_less h m]; rfl
theorem hjB_no {xs : List Prc} {k n : Nat} (hk : k < n) (h : hjB xs (k + 1) = false) : hjB xs n = false := by
  have := hjB_less h (n - (k + 1))
  rw [show k + 1 + (n - (k + 1)) = n by omega] at this
  exact this
theorem lsPrc_take {w : World} {F : Nat → Prop} {a : Option Addr} {n c : Nat} {xs : List Prc} (h : Ls 6 elPrc w F a n c xs) (k : Nat) (hk : k ≤ n) : Ls 6 elPrc w F a k c (xs.take k) :=
  ⟨by rw [List.length_take, h.len]; omega, by have := h.cap; omega, h.max, h.nil, fun i x hx => h.at' i x (by
    rw [List.getElem?_take] at hx; split at hx; exact hx; cases hx)⟩
set_option maxHeartbeats 4000000 in
theorem jobs1_any (v0 v2 v3 v4 v5 : Value) (z pr : Int) (g : Nat) (W : World) (hc : W.cell? ⟨g, 1, none⟩ = some (.int .i64 pr)) :
    Calls Tryz.prog 82 #[.agg #[v0, .int .i64 z, v2, v3, v4, v5], .pointer (some ⟨g, 0, none⟩)] W fun e W' => e = .returned (.bool (z == pr)) ∧ Kept No W W' := by
  have HK : Hid (Kept No W (W.alloc (.cells #[v0, .int .i64 z, v2, v3, v4, v5] 54))) := (Kept.refl No W).alloc _
  have c1 := HK.out.cell hc (fun h => h)
  have e1 : (W.alloc (.cells #[v0, .int .i64 z, v2, v3, v4, v5] 54)).cell? ⟨W.heap.size, 1, none⟩ = some (.int .i64 z) := by simp
  go_enter Tryz.func82, Tryz.ntmps82
  go_wp2
  go_ret
  exact ⟨by by_cases h : z = pr <;> simp [h], HK.out⟩

set_option maxHeartbeats 8000000 in
theorem haveJobs_any (F : Nat → Prop) (a : Option Addr) (n c : Nat) (xs : List Prc) (w : World) (h : Ls 6 elPrc w F a n c xs) :
    Calls Tryz.prog 45 #[.slice a n c] w fun e w' => e = .returned (.bool (hjB xs n)) ∧ Kept No w w' := by
  have H : Hid (Ls 6 elPrc w F a n c xs) := h
  have hlen := h.len
  have hmax := h.max
  have hcap := h.cap
  have hen : Enters Tryz.prog 82 := enters_of Tryz.func82 (by kernel_rfl) rfl
  unfold Enters at hen
  clear h
  go_enter Tryz.func45, Tryz.ntmps45
  go_wp2
  go_loopw [7] (fun x wr => ∃ k : Nat, k ≤ n ∧ x = .int .i64 k ∧ Kept No w wr ∧ hjB xs k = true) (fun x _ => n - (intOf x).toNat)
  case atStart => exact ⟨0, by omega, rfl, Kept.refl _ _, rfl⟩
  case round =>
    obtain ⟨k, hk, rfl, hkr, hj⟩ := hrel
    by_cases hlt : k < n
    · have hx : xs[k]? = some (xs.getD k dPrc) := by rw [List.getD, List.getElem?_eq_getElem (by rw [hlen]; exact hlt)]; rfl
      obtain ⟨b, o, cs, rfl, hb, hl, hr, he, hok⟩ := H.out.at' k _ hx
      have HJ : Hid (hjB xs (k + 1) = (job1 (xs.getD k dPrc) && !((xs.take k).any (fun o => o.pr == (xs.getD k dPrc).pr)))) := by
        show (hjB xs k && _) = _
        rw [hj]; rfl
      have HLT : Hid (Ls 6 elPrc w F (some ⟨b, o, none⟩) k c (xs.take k)) := lsPrc_take H.out k hk
      generalize xs.getD k dPrc = y at *
      have h1 : ∀ v ∈ cs, v.oneCell' = true := by
        rw [he]
        simp [Value.oneCell']
      generalize wr = wo at *
      obtain ⟨w2, hst, hrg, hk2⟩ := box_Prc wo cs hl h1
      have HLD : Hid ((Instr.loadAt 54 (.pointer (some ⟨b, o + k * 6, none⟩))).run Tryz.prog wo = .ok (.agg cs.toArray) wo) := run_loadAt_mid wo b (o + k * 6) _ cs _ (rangeAt_kept hr hkr (fun h => h)) Tryz.underlying54 rfl (by rw [hl]; exact sizeEPrc)
      have HST : Hid ((Instr.storeAt 54 (.pointer (some ⟨wo.heap.size, 0, none⟩)) (.agg cs.toArray)).run Tryz.prog (wo.alloc (.cells #[.int .i64 0, .int .i64 0, .int .i64 0, .int .i64 0, .int .i64 0, .bool false] 54)) = .ok () w2) := hst
      rw [he] at hrg
      have r1 := hrg 1 _ rfl
      have r2 := hrg 2 _ rfl
      have r3 := hrg 3 _ rfl
      have r4 := hrg 4 _ rfl
      have r5 := hrg 5 _ rfl
      simp only [Nat.zero_add] at r1 r2 r3 r4 r5
      have HKK : Hid (Kept No w w2) := hkr.trans hk2 (fun _ h => h.elim)
      have hn' : n ≤ 9223372036854775807 := by omega
      clear hkr hr hl h1 hst hrg hk2 hx hb he hok
      generalize Value.agg cs.toArray = av at *
      go_upto_region 3 with fail
      refine wp_region_lit ?_
      refine l_take 9 rfl rfl (er_mv _ rfl (.int .i64 k) rfl) ?_
      simp only [Act.put, List.setIfInBounds_toArray, List.set_cons_zero, List.set_cons_succ]
      refine l_take 10 rfl rfl (er_idxPrc _ _ rfl b o n c k hlt hn' rfl rfl) ?_
      simp only [Act.put, List.setIfInBounds_toArray, List.set_cons_zero, List.set_cons_succ]
      refine l_take 11 rfl rfl (er_ld _ _ rfl _ _ rfl HLD.out) ?_
      simp only [Act.put, List.setIfInBounds_toArray, List.set_cons_zero, List.set_cons_succ]
      refine l_make 4 rfl rfl (er_alPrc rfl) ?_
      simp only [Act.put, List.setIfInBounds_toArray, List.set_cons_zero, List.set_cons_succ]
      refine l_take 3 rfl rfl (er_as _ rfl (.int .i64 k) rfl) ?_
      simp only [Act.put, List.setIfInBounds_toArray, List.set_cons_zero, List.set_cons_succ]
      refine l_turn rfl rfl (er_st _ _ _ rfl _ _ rfl rfl HST.out) ?_
      clear HST HLD
      have r1h : Hid (w2.cell? ⟨wo.heap.size, 1, none⟩ = some (.int .i64 y.pr)) := r1
      have fin0 : job1 y = false → Hid (hjB xs n = false) := fun hf => hjB_no hlt (by rw [HJ.out, hf]; rfl)
      obtain ⟨ye, yp, yt, yl, yc, ya⟩ := y
      simp only at *
      cases ya with
      | false =>
        have HF := fin0 rfl
        clear fin0
        go_wp2
        go_ret
        exact ⟨by rw [HF.out]; rfl, HKK.out⟩
      | true =>
        by_cases z2 : yt = 0
        · subst z2
          have HF := fin0 rfl
          clear fin0
          go_wp2
          go_ret
          exact ⟨by rw [HF.out]; rfl, HKK.out⟩
        by_cases z3 : yl = 0
        · subst z3
          have HF := fin0 (by simp [job1])
          clear fin0
          go_wp2
          go_ret
          exact ⟨by rw [HF.out]; rfl, HKK.out⟩
        by_cases z4 : yc = 0
        · subst z4
          have HF := fin0 (by simp [job1])
          clear fin0
          go_wp2
          go_ret
          exact ⟨by rw [HF.out]; rfl, HKK.out⟩
        clear fin0
        have y2 : (yt == 0) = false := by simpa using z2
        have y3 : (yl == 0) = false := by simpa using z3
        have y4 : (yc == 0) = false := by simpa using z4
        have hJ1 : job1 ⟨ye, yp, yt, yl, yc, true⟩ = true := by simp [job1, z2, z3, z4]
        have hH := HJ.out
        rw [hJ1] at hH
        have cc := containsP_any (p := fun o => o.pr == yp) hen w2 (lb := #[.pointer (some ⟨wo.heap.size, 0, none⟩)]) (fun W x hx K => jobs1_any _ _ _ _ _ x.pr yp wo.heap.size W (K.cell r1h.out (fun h => h))) (HLT.out.kept HKK.out (fun _ _ h => h) (elPrc_kept HKK.out (fun _ _ h => h)))
        have hkc : (k : Int) ≤ c := by omega
        cases hq : (xs.take k).any (fun o => o.pr == yp) with
        | true =>
          rw [hq] at cc hH
          have HF : Hid (hjB xs n = false) := hjB_no hlt (by rw [hH]; rfl)
          clear hH HJ
          go_wp2_with (go_at_call 81; refine cc.mono ?_; rintro e w5 ⟨rfl, k5⟩)
          go_ret
          exact ⟨by rw [HF.out]; rfl, HKK.out.trans k5 (fun _ h => h.elim)⟩
        | false =>
          rw [hq] at cc hH
          have HF : Hid (hjB xs (k + 1) = true) := by rw [hH]; rfl
          clear hH HJ
          go_wp2_with (go_at_call 81; refine cc.mono ?_; rintro e w5 ⟨rfl, k5⟩)
          go_roundw
          case rel => exact ⟨k + 1, by omega, by go_num, HKK.out.trans k5 (fun _ h => h.elim), HF.out⟩
          case measure => simp [intOf]; omega
    · have hke : k = n := by omega
      subst hke
      go_wp2
      go_ret
      exact ⟨by rw [hj]; rfl, hkr⟩
end Go.Proofs.YtnmhcnppdhdhfaaGreatDoor
