/-
  One text: CECh, CFCh, CHyp2.
-/
import Derived.Test.YtnmhcnppdhdhfaaGreatDoorG02
import Derived.Test.YtnmhcnppdhdhfaaGreatDoorG13
namespace Go.Proofs.YtnmhcnppdhdhfaaGreatDoor
open Go.RowKit
set_option linter.unusedVariables false
set_option maxRecDepth 100000

theorem er_cutCh {w : World} {a : Act} {o : Oper} (x y : Operand) (ho : o.op = .slice 24 x none (some y) none) (b off n c k : Nat) (hk : k ≤ c) (hc : c ≤ 9223372036854775807) (hx : a.eval x = .slice (some ⟨b, off, none⟩) n c) (hy : a.eval y = .int .i64 k) : (execOp a.eval o).run Tryz.prog w = .ok (.value (.slice (some ⟨b, off, none⟩) k c)) w := by
  simp only [execOp, ho, Option.map_none, Option.map_some, hx, hy]
  simp [go_sem, hk]
  try omega
theorem quiet_findsCh {C : World → Prop} {a : Act} {o : Oper} {K : Act → Prop} (x0 x1 x2 : Operand) (ho : o.op = .call { callee := .value (.func 134), args := #[x0, x1, x2], argTypes := #[213, 65, 24] }) (v0 v1 v2 v : Value) (h0 : a.eval x0 = v0) (h1 : a.eval x1 = v1) (h2 : a.eval x2 = v2)
    (hc : ∀ w, C w → Calls Tryz.prog 134 #[v0, v1, v2] w fun e w'' => e = .returned v ∧ C w'') (hk : K (a.put o.dst v)) : o.quiet Tryz.prog a C K :=
  quiet_call' (f := 134) (args := #[v0, v1, v2]) (fun w => by subst h0 h1 h2; simp [execOp, ho, go_sem, Act.eval]) hc hk

set_option maxHeartbeats 16000000 in
theorem eachCh (first : Int) (a : Option Addr) (n c : Nat) (f0 f1 f2 f3 f4 : Nat → Value) (tb m mc : Nat) (rs : Nat → Rw) (E : Nat → Nat → Int) (w : World) (hnc : n ≤ c) (hcm : c ≤ 9223372036854775807)
    (h : ∀ i, i < n → ∃ b o, a = some ⟨b, o, none⟩ ∧ w.cell? ⟨b, o + i * 5, none⟩ = some (f0 i) ∧ w.cell? ⟨b, o + i * 5 + 1, none⟩ = some (f1 i) ∧ w.cell? ⟨b, o + i * 5 + 2, none⟩ = some (f2 i) ∧ w.cell? ⟨b, o + i * 5 + 3, none⟩ = some (f3 i) ∧ w.cell? ⟨b, o + i * 5 + 4, none⟩ = some (f4 i)) (ho : ∀ i, i < n → (f0 i).oneCell' = true ∧ (f1 i).oneCell' = true ∧ (f2 i).oneCell' = true ∧ (f3 i).oneCell' = true ∧ (f4 i).oneCell' = true) (hm : m ≤ 1000) (hT : Tb w tb m rs) (hf : 0 ≤ first) (hf2 : first ≤ 1)
    (hE : ∀ i j w', i < n → j < m → rowsF (E i) j = 0 → Kept No w w' → Calls Tryz.prog 134 #[(rs j).v, .agg #[f0 i, f1 i, f2 i, f3 i, f4 i], .slice a i c] w' fun e w'' => e = .returned (.int .i64 (E i j)) ∧ Kept No w' w'') :
    Calls Tryz.prog 77 #[.slice a n c, .int .i64 first, .slice (some ⟨tb, 0, none⟩) m mc] w fun e w' => e = .returned (fv (eachF (fun i => rowsF (E i) m) first n)) ∧ Kept No w w' := by
  have hn : n ≤ 9223372036854775807 := Nat.le_trans hnc hcm
  have H : Hid (∀ i, i < n → ∃ b o, a = some ⟨b, o, none⟩ ∧ w.cell? ⟨b, o + i * 5, none⟩ = some (f0 i) ∧ w.cell? ⟨b, o + i * 5 + 1, none⟩ = some (f1 i) ∧ w.cell? ⟨b, o + i * 5 + 2, none⟩ = some (f2 i) ∧ w.cell? ⟨b, o + i * 5 + 3, none⟩ = some (f3 i) ∧ w.cell? ⟨b, o + i * 5 + 4, none⟩ = some (f4 i)) := h
  have HO : Hid (∀ i, i < n → (f0 i).oneCell' = true ∧ (f1 i).oneCell' = true ∧ (f2 i).oneCell' = true ∧ (f3 i).oneCell' = true ∧ (f4 i).oneCell' = true) := ho
  have HT : Hid (Tb w tb m rs) := hT
  have HE : Hid (∀ i j w', i < n → j < m → rowsF (E i) j = 0 → Kept No w w' → Calls Tryz.prog 134 #[(rs j).v, (.agg #[f0 i, f1 i, f2 i, f3 i, f4 i]), .slice a i c] w' fun e w'' => e = .returned (.int .i64 (E i j)) ∧ Kept No w' w'') := hE
  clear h ho hT hE
  go_enter Tryz.func77, Tryz.ntmps77
  go_wp2
  go_loopw [14] (fun x wr => ∃ k : Nat, k ≤ n ∧ x = .int .i64 k ∧ Kept No w wr ∧ eachF (fun i => rowsF (E i) m) first k = none) (fun x _ => n - (intOf x).toNat)
  case atStart => exact ⟨0, by omega, rfl, Kept.refl No w, rfl⟩
  case round =>
    obtain ⟨k, hk, rfl, hkr, hno⟩ := hrel
    by_cases hlt : k < n
    · generalize wr = wo at *
      obtain ⟨b, o, rfl, c0, c1, c2, c3, c4⟩ := H.out k hlt
      obtain ⟨p0, p1, p2, p3, p4⟩ := HO.out k hlt
      replace c0 := hkr.cell c0 (fun h => h)
      replace c1 := hkr.cell c1 (fun h => h)
      replace c2 := hkr.cell c2 (fun h => h)
      replace c3 := hkr.cell c3 (fun h => h)
      replace c4 := hkr.cell c4 (fun h => h)
      have HW : Hid (Kept No w (wo.alloc (.cells #[f0 k, f1 k, f2 k, f3 k, f4 k] 65))) := hkr.alloc _
      have HEk : Hid (∀ j w', j < m → rowsF (E k) j = 0 → Kept No w w' → Calls Tryz.prog 134 #[(rs j).v, .agg #[f0 k, f1 k, f2 k, f3 k, f4 k], .slice (some ⟨b, o, none⟩) k c] w' fun e w'' => e = .returned (.int .i64 (E k j)) ∧ Kept No w' w'') := fun j w' hj hz hw => HE.out k j w' hlt hj hz hw
      have HNO : Hid (eachF (fun i => rowsF (E i) m) first k = none) := hno
      have hcap : k ≤ c := by omega
      clear hno hkr
      generalize f0 k = y0 at *
      generalize f1 k = y1 at *
      generalize f2 k = y2 at *
      generalize f3 k = y3 at *
      generalize f4 k = y4 at *
      have r0 : ∀ (ad : Addr) (mo : Mode) (W : World), (store ad y0 mo).run Tryz.prog W = stored Tryz.prog W ad y0 mo := fun ad mo W => run_store _ _ _ _ _ p0
      have r1 : ∀ (ad : Addr) (mo : Mode) (W : World), (store ad y1 mo).run Tryz.prog W = stored Tryz.prog W ad y1 mo := fun ad mo W => run_store _ _ _ _ _ p1
      have r2 : ∀ (ad : Addr) (mo : Mode) (W : World), (store ad y2 mo).run Tryz.prog W = stored Tryz.prog W ad y2 mo := fun ad mo W => run_store _ _ _ _ _ p2
      have r3 : ∀ (ad : Addr) (mo : Mode) (W : World), (store ad y3 mo).run Tryz.prog W = stored Tryz.prog W ad y3 mo := fun ad mo W => run_store _ _ _ _ _ p3
      have r4 : ∀ (ad : Addr) (mo : Mode) (W : World), (store ad y4 mo).run Tryz.prog W = stored Tryz.prog W ad y4 mo := fun ad mo W => run_store _ _ _ _ _ p4
      go_upto_region 4 with fail
      generalize hW1 : wo.alloc (.cells #[y0, y1, y2, y3, y4] 65) = w1 at *
      have HCY : Hid (w1.cell? ⟨wo.heap.size, 0, none⟩ = some y0 ∧ w1.cell? ⟨wo.heap.size, 1, none⟩ = some y1 ∧ w1.cell? ⟨wo.heap.size, 2, none⟩ = some y2 ∧ w1.cell? ⟨wo.heap.size, 3, none⟩ = some y3 ∧ w1.cell? ⟨wo.heap.size, 4, none⟩ = some y4) := by subst hW1; exact ⟨by simp, by simp, by simp, by simp, by simp⟩
      clear hW1 c0 c1 c2 c3 c4 r0 r1 r2 r3 r4
      go_wp2
      go_loopw [21] (fun y wr => ∃ j : Nat, j ≤ m ∧ y = .int .i64 j ∧ Kept No w1 wr ∧ rowsF (E k) j = 0) (fun y _ => m - (intOf y).toNat)
      case atStart => exact ⟨0, by omega, rfl, Kept.refl No _, rfl⟩
      case round =>
        obtain ⟨j, hj, rfl, hkr2, hno2⟩ := hrel
        have HR0 : Hid (rowsF (E k) j = 0) := hno2
        clear hno2
        by_cases hjt : j < m
        · obtain ⟨t0, t1, t2, t3⟩ := ((HT.out.kept HW.out).kept hkr2) j hjt
          have HK2 : Hid (Kept No w1 (wr.alloc (.cells #[.int .i64 (rs j).err, (rs j).f1, (rs j).f2, (rs j).f3] 213))) := hkr2.alloc _
          have HRC : Hid (∀ w5, Kept No w1 w5 → (Instr.loadAt 65 (.pointer (some ⟨wo.heap.size, 0, none⟩))).run Tryz.prog w5 = .ok (.agg #[y0, y1, y2, y3, y4]) w5) := fun w5 h5 => by
            obtain ⟨z0, z1, z2, z3, z4⟩ := HCY.out
            replace z0 := h5.cell z0 (fun h => h)
            replace z1 := h5.cell z1 (fun h => h)
            replace z2 := h5.cell z2 (fun h => h)
            replace z3 := h5.cell z3 (fun h => h)
            replace z4 := h5.cell z4 (fun h => h)
            simp [go_sem, z0, z1, z2, z3, z4]
          have HRW : Hid (∀ w5, Kept No (wr.alloc (.cells #[.int .i64 (rs j).err, (rs j).f1, (rs j).f2, (rs j).f3] 213)) w5 → (Instr.loadAt 213 (.pointer (some ⟨wr.heap.size, 0, none⟩))).run Tryz.prog w5 = .ok (rs j).v w5) := fun w5 h5 => by
            have z0 := h5.cell (p := ⟨wr.heap.size, 0, none⟩) (v := .int .i64 (rs j).err) (by simp) (fun h => h)
            have z1 := h5.cell (p := ⟨wr.heap.size, 1, none⟩) (v := (rs j).f1) (by simp) (fun h => h)
            have z2 := h5.cell (p := ⟨wr.heap.size, 2, none⟩) (v := (rs j).f2) (by simp) (fun h => h)
            have z3 := h5.cell (p := ⟨wr.heap.size, 3, none⟩) (v := (rs j).f3) (by simp) (fun h => h)
            simp [go_sem, z0, z1, z2, z3, Rw.v]
          have HEj : Hid (∀ w', Kept No w1 w' → Calls Tryz.prog 134 #[(rs j).v, .agg #[y0, y1, y2, y3, y4], .slice (some ⟨b, o, none⟩) k c] w' fun e w'' => e = .returned (.int .i64 (E k j)) ∧ Kept No w' w'') := fun w' hw => HEk.out j w' hjt HR0.out (HW.out.trans hw (fun _ h => h.elim))
          have HW0 : Hid (Kept No w w1) := HW.out
          clear hkr2 HW HEk HT HE H HCY
          have hrc := HRC.out
          have s1 : ∀ (ad : Addr) (mo : Mode) (W : World), (store ad (rs j).f1 mo).run Tryz.prog W = stored Tryz.prog W ad (rs j).f1 mo := fun ad mo W => run_store _ _ _ _ _ (rs j).h1
          have s2 : ∀ (ad : Addr) (mo : Mode) (W : World), (store ad (rs j).f2 mo).run Tryz.prog W = stored Tryz.prog W ad (rs j).f2 mo := fun ad mo W => run_store _ _ _ _ _ (rs j).h2
          have s3 : ∀ (ad : Addr) (mo : Mode) (W : World), (store ad (rs j).f3 mo).run Tryz.prog W = stored Tryz.prog W ad (rs j).f3 mo := fun ad mo W => run_store _ _ _ _ _ (rs j).h3
          go_upto_region 7 with fail
          clear t0 t1 t2 t3 hrc s1 s2 s3
          generalize hW2 : wr.alloc (.cells #[.int .i64 (rs j).err, (rs j).f1, (rs j).f2, (rs j).f3] 213) = w2 at *
          clear hW2
          refine wp_region_kept w2 (by kernel_rfl) (by kernel_rfl) (Kept.refl No w2) ?_
          refine BigFrame.wpQuiet_want rfl (fun K hK => ?_)
          refine quiet_val' (fun w5 hw5 => er_ld _ _ rfl _ _ rfl (HRW.out w5 hw5)) ?_
          refine hK _ ?_
          clear hK K
          simp only [Act.put, List.setIfInBounds_toArray, List.set_cons_zero, List.set_cons_succ]
          refine BigFrame.wpQuiet_want rfl (fun K hK => ?_)
          refine quiet_val' (fun w5 hw5 => er_ld _ _ rfl _ _ rfl (HRC.out w5 (HK2.out.trans hw5 (fun _ h => h.elim)))) ?_
          refine hK _ ?_
          clear hK K
          simp only [Act.put, List.setIfInBounds_toArray, List.set_cons_zero, List.set_cons_succ]
          refine BigFrame.wpQuiet_want rfl (fun K hK => ?_)
          refine quiet_val' (fun w5 hw5 => er_mv _ rfl (.slice (some ⟨b, o, none⟩) n c) rfl) ?_
          refine hK _ ?_
          clear hK K
          simp only [Act.put, List.setIfInBounds_toArray, List.set_cons_zero, List.set_cons_succ]
          refine BigFrame.wpQuiet_want rfl (fun K hK => ?_)
          refine quiet_val' (fun w5 hw5 => er_mv _ rfl (.int .i64 k) rfl) ?_
          refine hK _ ?_
          clear hK K
          simp only [Act.put, List.setIfInBounds_toArray, List.set_cons_zero, List.set_cons_succ]
          refine BigFrame.wpQuiet_want rfl (fun K hK => ?_)
          refine quiet_val' (fun w5 hw5 => er_cutCh _ _ rfl b o n c k hcap hcm rfl rfl) ?_
          refine hK _ ?_
          clear hK K
          simp only [Act.put, List.setIfInBounds_toArray, List.set_cons_zero, List.set_cons_succ]
          refine BigFrame.wpQuiet_want rfl (fun K hK => ?_)
          refine quiet_findsCh _ _ _ rfl (rs j).v (.agg #[y0, y1, y2, y3, y4]) (.slice (some ⟨b, o, none⟩) k c) (.int .i64 (E k j)) rfl rfl rfl (fun w5 hw5 => (HEj.out w5 (HK2.out.trans hw5 (fun _ h => h.elim))).mono (fun e w6 he => ⟨he.1, hw5.trans he.2 (fun _ h => h.elim)⟩)) ?_
          refine hK _ ?_
          clear hK K
          simp only [Act.put, List.setIfInBounds_toArray, List.set_cons_zero, List.set_cons_succ]
          refine BigFrame.wpQuiet_want rfl (fun K hK => ?_)
          refine quiet_val' (fun w5 hw5 => er_as _ rfl (.int .i64 (E k j)) rfl) ?_
          refine hK _ ?_
          clear hK K
          simp only [Act.put, List.setIfInBounds_toArray, List.set_cons_zero, List.set_cons_succ]
          refine wpQuiet_nil ?_
          intro w6 hw6
          have HW6 : Hid (Kept No w1 w6) := HK2.out.trans hw6 (fun _ h => h.elim)
          clear hw6 HRC HRW HEj HK2
          by_cases he : E k j = 0
          · have HR1 : Hid (rowsF (E k) (j + 1) = 0) := rowsF_miss HR0.out he
            have HE0 : Hid (E k j = 0) := he
            go_wp2
            go_roundw
            case rel => exact ⟨j + 1, by omega, by go_num, HW6.out, HR1.out⟩
            case measure => simp [intOf]; omega
          · have HF : Hid (eachF (fun i => rowsF (E i) m) first n = some (E k j, first + k)) := by
              have e1 := rowsF_hit HR0.out he m hjt
              have e2 := eachF_hit (r := fun i => rowsF (E i) m) HNO.out (by simp only [e1]; exact he) n hlt
              have e3 : eachF (fun i => rowsF (E i) m) first n = some (E k j, first + k) := by rw [e2]; simp only [e1]
              exact e3
            go_wp2
            go_ret
            exact ⟨by rw [HF.out]; rfl, HW0.out.trans HW6.out (fun _ h => h.elim)⟩
        · have hje : j = m := by omega
          subst hje
          have HN1 : Hid (eachF (fun i => rowsF (E i) j) first (k + 1) = none) := eachF_miss HNO.out HR0.out
          have HW6 : Hid (Kept No w wr) := HW.out.trans hkr2 (fun _ h => h.elim)
          clear hkr2 HW HEk HT HE H HCY
          go_wp2
          go_roundw
          case rel => exact ⟨k + 1, by omega, by go_num, HW6.out, HN1.out⟩
          case measure => simp [intOf]; omega
    · have hke : k = n := by omega
      subst hke
      have HF : Hid (eachF (fun i => rowsF (E i) m) first k = none) := hno
      have HW6 : Hid (Kept No w wr) := hkr
      clear hno hkr
      go_wp2
      go_ret
      exact ⟨by rw [HF.out]; rfl, HW6.out⟩

end Go.Proofs.YtnmhcnppdhdhfaaGreatDoor

namespace Go.Proofs.YtnmhcnppdhdhfaaGreatDoor
open Go.RowKit
set_option linter.unusedVariables false
set_option maxRecDepth 100000

set_option maxHeartbeats 4000000 in
theorem findsCh_alone_true (err : Int) (k : Nat) (caps : Array Value) (v0 v1 v2 v3 v4 : Value) (aa : Option Addr) (an ac : Nat) (w : World) (hen : Enters Tryz.prog k)
    (hc : ∀ w', Kept No w w' → Calls Tryz.prog k (#[(.agg #[v0, v1, v2, v3, v4])] ++ caps) w' fun e w'' => e = .returned (.bool true) ∧ Kept No w' w'') :
    Calls Tryz.prog 134 #[.agg #[.int .i64 err, .func (.func k) #[] caps, .nilFunc, .nilFunc], (.agg #[v0, v1, v2, v3, v4]), .slice aa an ac] w fun e w' => e = .returned (.int .i64 0) ∧ Kept No w w' := by
  have HK : Hid (Kept No w ((w.alloc (.cells #[.int .i64 err, .func (.func k) #[] caps, .nilFunc, .nilFunc] 213)).alloc (.cells #[v0, v1, v2, v3, v4] 65))) := ((Kept.refl No w).alloc _).alloc _
  have hc1 := hc _ HK.out
  have HM : Hid (∀ w', Kept No ((w.alloc (.cells #[.int .i64 err, .func (.func k) #[] caps, .nilFunc, .nilFunc] 213)).alloc (.cells #[v0, v1, v2, v3, v4] 65)) w' → w'.cell? ⟨w.heap.size, 0, none⟩ = some (.int .i64 err) ∧ w'.cell? ⟨w.heap.size, 1, none⟩ = some (.func (.func k) #[] caps) ∧ w'.cell? ⟨w.heap.size, 2, none⟩ = some (.nilFunc) ∧ w'.cell? ⟨w.heap.size, 3, none⟩ = some (.nilFunc)) := fun w' k => ⟨k.cell (by simp) (fun h => h), k.cell (by simp) (fun h => h), k.cell (by simp) (fun h => h), k.cell (by simp) (fun h => h)⟩
  clear hc
  unfold Enters at hen
  have q1 : ∀ w : World, (binOp .neq 209 (.func (.func k) #[] caps) .nilFunc).run Tryz.prog w = .ok (.bool true) w := fun w => by kernel_rfl
  have q2 : ∀ w : World, (binOp .neq 210 (.nilFunc) .nilFunc).run Tryz.prog w = .ok (.bool false) w := fun w => by kernel_rfl
  have q3 : ∀ w : World, (binOp .neq 211 .nilFunc .nilFunc).run Tryz.prog w = .ok (.bool false) w := fun w => by kernel_rfl
  go_enter Tryz.func134, Tryz.ntmps134
  go_wp2_with (go_at_fn k; refine hc1.mono ?_; rintro e w' ⟨rfl, hk⟩; have HK2 : Hid (Kept No w w') := HK.out.trans hk (fun _ h => h.elim); obtain ⟨m0, m1, m2, m3⟩ := HM.out _ hk; clear hk)
  go_ret
  exact ⟨rfl, HK2.out⟩

set_option maxHeartbeats 4000000 in
theorem findsCh_alone_false (err : Int) (k : Nat) (caps : Array Value) (v0 v1 v2 v3 v4 : Value) (aa : Option Addr) (an ac : Nat) (w : World) (hen : Enters Tryz.prog k)
    (hc : ∀ w', Kept No w w' → Calls Tryz.prog k (#[(.agg #[v0, v1, v2, v3, v4])] ++ caps) w' fun e w'' => e = .returned (.bool false) ∧ Kept No w' w'') :
    Calls Tryz.prog 134 #[.agg #[.int .i64 err, .func (.func k) #[] caps, .nilFunc, .nilFunc], (.agg #[v0, v1, v2, v3, v4]), .slice aa an ac] w fun e w' => e = .returned (.int .i64 err) ∧ Kept No w w' := by
  have HK : Hid (Kept No w ((w.alloc (.cells #[.int .i64 err, .func (.func k) #[] caps, .nilFunc, .nilFunc] 213)).alloc (.cells #[v0, v1, v2, v3, v4] 65))) := ((Kept.refl No w).alloc _).alloc _
  have hc1 := hc _ HK.out
  have HM : Hid (∀ w', Kept No ((w.alloc (.cells #[.int .i64 err, .func (.func k) #[] caps, .nilFunc, .nilFunc] 213)).alloc (.cells #[v0, v1, v2, v3, v4] 65)) w' → w'.cell? ⟨w.heap.size, 0, none⟩ = some (.int .i64 err) ∧ w'.cell? ⟨w.heap.size, 1, none⟩ = some (.func (.func k) #[] caps) ∧ w'.cell? ⟨w.heap.size, 2, none⟩ = some (.nilFunc) ∧ w'.cell? ⟨w.heap.size, 3, none⟩ = some (.nilFunc)) := fun w' k => ⟨k.cell (by simp) (fun h => h), k.cell (by simp) (fun h => h), k.cell (by simp) (fun h => h), k.cell (by simp) (fun h => h)⟩
  clear hc
  unfold Enters at hen
  have q1 : ∀ w : World, (binOp .neq 209 (.func (.func k) #[] caps) .nilFunc).run Tryz.prog w = .ok (.bool true) w := fun w => by kernel_rfl
  have q2 : ∀ w : World, (binOp .neq 210 (.nilFunc) .nilFunc).run Tryz.prog w = .ok (.bool false) w := fun w => by kernel_rfl
  have q3 : ∀ w : World, (binOp .neq 211 .nilFunc .nilFunc).run Tryz.prog w = .ok (.bool false) w := fun w => by kernel_rfl
  go_enter Tryz.func134, Tryz.ntmps134
  go_wp2_with (go_at_fn k; refine hc1.mono ?_; rintro e w' ⟨rfl, hk⟩; have HK2 : Hid (Kept No w w') := HK.out.trans hk (fun _ h => h.elim); obtain ⟨m0, m1, m2, m3⟩ := HM.out _ hk; clear hk)
  go_ret
  exact ⟨rfl, HK2.out⟩

theorem findsCh_alone (err : Int) (k : Nat) (caps : Array Value) (v0 v1 v2 v3 v4 : Value) (aa : Option Addr) (an ac : Nat) (w : World) (hen : Enters Tryz.prog k) (b : Bool)
    (hc : ∀ w', Kept No w w' → Calls Tryz.prog k (#[(.agg #[v0, v1, v2, v3, v4])] ++ caps) w' fun e w'' => e = .returned (.bool b) ∧ Kept No w' w'') :
    Calls Tryz.prog 134 #[.agg #[.int .i64 err, .func (.func k) #[] caps, .nilFunc, .nilFunc], (.agg #[v0, v1, v2, v3, v4]), .slice aa an ac] w fun e w' => e = .returned (.int .i64 (if b then 0 else err)) ∧ Kept No w w' := by
  cases b
  · exact findsCh_alone_false err k caps v0 v1 v2 v3 v4 aa an ac w hen hc
  · exact findsCh_alone_true err k caps v0 v1 v2 v3 v4 aa an ac w hen hc

set_option maxHeartbeats 4000000 in
theorem findsCh_behind_true (err : Int) (k : Nat) (caps : Array Value) (v0 v1 v2 v3 v4 : Value) (aa : Option Addr) (an ac : Nat) (w : World) (hen : Enters Tryz.prog k)
    (hc : ∀ w', Kept No w w' → Calls Tryz.prog k (#[(.agg #[v0, v1, v2, v3, v4]), .slice aa an ac] ++ caps) w' fun e w'' => e = .returned (.bool true) ∧ Kept No w' w'') :
    Calls Tryz.prog 134 #[.agg #[.int .i64 err, .nilFunc, .func (.func k) #[] caps, .nilFunc], (.agg #[v0, v1, v2, v3, v4]), .slice aa an ac] w fun e w' => e = .returned (.int .i64 0) ∧ Kept No w w' := by
  have HK : Hid (Kept No w ((w.alloc (.cells #[.int .i64 err, .nilFunc, .func (.func k) #[] caps, .nilFunc] 213)).alloc (.cells #[v0, v1, v2, v3, v4] 65))) := ((Kept.refl No w).alloc _).alloc _
  have hc1 := hc _ HK.out
  have HM : Hid (∀ w', Kept No ((w.alloc (.cells #[.int .i64 err, .nilFunc, .func (.func k) #[] caps, .nilFunc] 213)).alloc (.cells #[v0, v1, v2, v3, v4] 65)) w' → w'.cell? ⟨w.heap.size, 0, none⟩ = some (.int .i64 err) ∧ w'.cell? ⟨w.heap.size, 1, none⟩ = some (.nilFunc) ∧ w'.cell? ⟨w.heap.size, 2, none⟩ = some (.func (.func k) #[] caps) ∧ w'.cell? ⟨w.heap.size, 3, none⟩ = some (.nilFunc)) := fun w' k => ⟨k.cell (by simp) (fun h => h), k.cell (by simp) (fun h => h), k.cell (by simp) (fun h => h), k.cell (by simp) (fun h => h)⟩
  clear hc
  unfold Enters at hen
  have q1 : ∀ w : World, (binOp .neq 209 (.nilFunc) .nilFunc).run Tryz.prog w = .ok (.bool false) w := fun w => by kernel_rfl
  have q2 : ∀ w : World, (binOp .neq 210 (.func (.func k) #[] caps) .nilFunc).run Tryz.prog w = .ok (.bool true) w := fun w => by kernel_rfl
  have q3 : ∀ w : World, (binOp .neq 211 .nilFunc .nilFunc).run Tryz.prog w = .ok (.bool false) w := fun w => by kernel_rfl
  go_enter Tryz.func134, Tryz.ntmps134
  go_wp2_with (go_at_fn k; refine hc1.mono ?_; rintro e w' ⟨rfl, hk⟩; have HK2 : Hid (Kept No w w') := HK.out.trans hk (fun _ h => h.elim); obtain ⟨m0, m1, m2, m3⟩ := HM.out _ hk; clear hk)
  go_ret
  exact ⟨rfl, HK2.out⟩

set_option maxHeartbeats 4000000 in
theorem findsCh_behind_false (err : Int) (k : Nat) (caps : Array Value) (v0 v1 v2 v3 v4 : Value) (aa : Option Addr) (an ac : Nat) (w : World) (hen : Enters Tryz.prog k)
    (hc : ∀ w', Kept No w w' → Calls Tryz.prog k (#[(.agg #[v0, v1, v2, v3, v4]), .slice aa an ac] ++ caps) w' fun e w'' => e = .returned (.bool false) ∧ Kept No w' w'') :
    Calls Tryz.prog 134 #[.agg #[.int .i64 err, .nilFunc, .func (.func k) #[] caps, .nilFunc], (.agg #[v0, v1, v2, v3, v4]), .slice aa an ac] w fun e w' => e = .returned (.int .i64 err) ∧ Kept No w w' := by
  have HK : Hid (Kept No w ((w.alloc (.cells #[.int .i64 err, .nilFunc, .func (.func k) #[] caps, .nilFunc] 213)).alloc (.cells #[v0, v1, v2, v3, v4] 65))) := ((Kept.refl No w).alloc _).alloc _
  have hc1 := hc _ HK.out
  have HM : Hid (∀ w', Kept No ((w.alloc (.cells #[.int .i64 err, .nilFunc, .func (.func k) #[] caps, .nilFunc] 213)).alloc (.cells #[v0, v1, v2, v3, v4] 65)) w' → w'.cell? ⟨w.heap.size, 0, none⟩ = some (.int .i64 err) ∧ w'.cell? ⟨w.heap.size, 1, none⟩ = some (.nilFunc) ∧ w'.cell? ⟨w.heap.size, 2, none⟩ = some (.func (.func k) #[] caps) ∧ w'.cell? ⟨w.heap.size, 3, none⟩ = some (.nilFunc)) := fun w' k => ⟨k.cell (by simp) (fun h => h), k.cell (by simp) (fun h => h), k.cell (by simp) (fun h => h), k.cell (by simp) (fun h => h)⟩
  clear hc
  unfold Enters at hen
  have q1 : ∀ w : World, (binOp .neq 209 (.nilFunc) .nilFunc).run Tryz.prog w = .ok (.bool false) w := fun w => by kernel_rfl
  have q2 : ∀ w : World, (binOp .neq 210 (.func (.func k) #[] caps) .nilFunc).run Tryz.prog w = .ok (.bool true) w := fun w => by kernel_rfl
  have q3 : ∀ w : World, (binOp .neq 211 .nilFunc .nilFunc).run Tryz.prog w = .ok (.bool false) w := fun w => by kernel_rfl
  go_enter Tryz.func134, Tryz.ntmps134
  go_wp2_with (go_at_fn k; refine hc1.mono ?_; rintro e w' ⟨rfl, hk⟩; have HK2 : Hid (Kept No w w') := HK.out.trans hk (fun _ h => h.elim); obtain ⟨m0, m1, m2, m3⟩ := HM.out _ hk; clear hk)
  go_ret
  exact ⟨rfl, HK2.out⟩

theorem findsCh_behind (err : Int) (k : Nat) (caps : Array Value) (v0 v1 v2 v3 v4 : Value) (aa : Option Addr) (an ac : Nat) (w : World) (hen : Enters Tryz.prog k) (b : Bool)
    (hc : ∀ w', Kept No w w' → Calls Tryz.prog k (#[(.agg #[v0, v1, v2, v3, v4]), .slice aa an ac] ++ caps) w' fun e w'' => e = .returned (.bool b) ∧ Kept No w' w'') :
    Calls Tryz.prog 134 #[.agg #[.int .i64 err, .nilFunc, .func (.func k) #[] caps, .nilFunc], (.agg #[v0, v1, v2, v3, v4]), .slice aa an ac] w fun e w' => e = .returned (.int .i64 (if b then 0 else err)) ∧ Kept No w w' := by
  cases b
  · exact findsCh_behind_false err k caps v0 v1 v2 v3 v4 aa an ac w hen hc
  · exact findsCh_behind_true err k caps v0 v1 v2 v3 v4 aa an ac w hen hc

end Go.Proofs.YtnmhcnppdhdhfaaGreatDoor

namespace Go.Proofs.YtnmhcnppdhdhfaaGreatDoor
open Go.RowKit Plain
set_option linter.unusedVariables false
set_option maxRecDepth 100000

set_option maxHeartbeats 4000000 in
theorem releases_any (F : Nat → Prop) (a : Option Addr) (n c : Nat) (xs : List Srv) (w : World) (h : Sv w F a n c xs) (hn : n ≤ 32) (hp : ∀ i, i < n → 1 ≤ zP xs i) :
    Calls Tryz.prog 92 #[.slice a n c] w fun e w' => e = .returned (.int .i64 (relF (lcmV (zP xs) n 1048576) xs n)) ∧ Kept No w w' := by
  have hc := multiple_any F a n c xs w h (by omega)
  have H : Hid (Sv w F a n c xs) := h
  have HP : Hid (∀ i, i < n → 1 ≤ zP xs i) := hp
  obtain ⟨l0, l1⟩ := lcm_bd xs n
  clear h hp
  generalize lcmV (zP xs) n 1048576 = z1 at *
  generalize lcmB (zP xs) n 1048576 = z2 at *
  have HBD : Hid (∀ k, k ≤ n → 0 ≤ relF z1 xs k ∧ relF z1 xs k ≤ k * 2097152) := fun k hk => relF_bd (xs := xs) l0 l1 k (fun i hi => HP.out i (by omega))

  go_enter Tryz.func92, Tryz.ntmps92
  go_wp2_with (go_at_call 36; refine hc.mono ?_; rintro e w1 ⟨rfl, hk1⟩; have HK1 : Hid (Kept No w w1) := hk1; clear hk1)
  clear hc
  go_loopw [5, 15] (fun v x wr => ∃ k : Nat, k ≤ n ∧ x = .int .i64 k ∧ Kept No w wr ∧ v = .int .i64 (relF z1 xs k)) (fun _ x _ => n - (intOf x).toNat)
  case atStart => exact ⟨0, by omega, rfl, HK1.out, rfl⟩
  case round =>
    clear HK1
    obtain ⟨k, hk, rfl, hkr, rfl⟩ := hrel
    by_cases hlt : k < n
    · have hx : xs[k]? = some (xs.getD k ⟨0, 0, 0, 0⟩) := by rw [List.getD, List.getElem?_eq_getElem (by rw [H.out.len]; exact hlt)]; rfl
      obtain ⟨hok, b, o, rfl, hb, c0, c1, c2, c3⟩ := (H.out.keep hkr).at' k _ hx
      have hpk : 1 ≤ (xs.getD k ⟨0, 0, 0, 0⟩).p := HP.out k hlt
      have HS : Hid (relF z1 xs (k + 1) = relF z1 xs k + (2 * z1) / (xs.getD k ⟨0, 0, 0, 0⟩).p) := rfl
      have hpm : (xs.getD k ⟨0, 0, 0, 0⟩).p ≤ 9223372036854775807 := hok.1.2
      obtain ⟨r0, r1⟩ := HBD.out k hk
      have r2 : relF z1 xs k ≤ 67108864 := by
        have : (k : Int) * 2097152 ≤ 67108864 := by omega
        omega
      have HKR : Hid (Kept No w wr) := hkr
      clear hx hok hkr r1
      generalize xs.getD k ⟨0, 0, 0, 0⟩ = y at *
      obtain ⟨yp, yb, yo, yq⟩ := y
      simp only at c0 c1 c2 c3 HS hpk hpm
      generalize relF z1 xs k = rk at *
      have hd0 : 0 ≤ (2 * z1) / yp := Int.ediv_nonneg (by omega) (by omega)
      have hd1 : (2 * z1) / yp ≤ 2 * z1 := Int.ediv_le_self _ (by omega)
      go_wp2
      go_roundw
      case rel => exact ⟨k + 1, by omega, by go_num, HKR.out.alloc _, by rw [HS.out]⟩
      case measure => simp [intOf]; omega
    · have hke : k = n := by omega
      subst hke
      have HKR : Hid (Kept No w wr) := hkr
      clear hkr
      go_wp2
      go_ret
      exact ⟨rfl, HKR.out⟩

theorem hasHyper_any (F : Nat → Prop) (a : Option Addr) (n c : Nat) (xs : List Srv) (w : World) (h : Sv w F a n c xs) (hn : n ≤ 70000) :
    Calls Tryz.prog 90 #[.slice a n c] w fun e w' => e = .returned (.bool (lcmB (zP xs) n 1048576)) ∧ Kept No w w' := by
  have hc := multiple_any F a n c xs w h hn
  clear h
  generalize lcmV (zP xs) n 1048576 = z1 at *
  generalize lcmB (zP xs) n 1048576 = z2 at *
  go_enter Tryz.func90, Tryz.ntmps90
  go_wp2_with (go_at_call 36; refine hc.mono ?_; rintro e w1 ⟨rfl, hk1⟩; have HK1 : Hid (Kept No w w1) := hk1; clear hk1)
  go_ret
  exact ⟨rfl, HK1.out⟩

theorem trow2 (F : Nat → Prop) (a : Option Addr) (n c : Nat) (xs : List Srv) (w : World) (h : Sv w F a n c xs) (hn : n ≤ 32) (hp : ∀ i, i < n → 1 ≤ zP xs i) :
    Calls Tryz.prog 91 #[.slice a n c] w fun e w' => e = .returned (.bool (decide (relF (lcmV (zP xs) n 1048576) xs n ≤ 65536))) ∧ Kept No w w' := by
  have hc := releases_any F a n c xs w h hn hp
  clear h hp
  generalize relF (lcmV (zP xs) n 1048576) xs n = z1 at *
  go_enter Tryz.func91, Tryz.ntmps91
  go_wp2_with (go_at_call 92; refine hc.mono ?_; rintro e w1 ⟨rfl, hk1⟩; have HK1 : Hid (Kept No w w1) := hk1; clear hk1)
  go_ret
  exact ⟨rfl, HK1.out⟩

def rsT : Nat → Rw
  | 0 => ⟨102, .func (.func 90) #[] #[], .nilFunc, .nilFunc, rfl, rfl, rfl⟩
  | _ => ⟨103, .func (.func 91) #[] #[], .nilFunc, .nilFunc, rfl, rfl, rfl⟩
theorem table2 (w : World) : Calls Tryz.prog 56 #[] w fun e w' => ∃ tb, e = .returned (.slice (some ⟨tb, 0, none⟩) 2 2) ∧ Tb w' tb 2 rsT ∧ Kept No w w' := by
  have HK : Hid (∀ o, Kept No w (w.alloc o)) := fun o => (Kept.refl No w).alloc o
  go_enter Tryz.func56, Tryz.ntmps56
  go_wp2
  go_ret
  refine ⟨_, rfl, ?_, HK.out _⟩
  intro j hj
  match j, hj with
  | 0, _ => exact ⟨by simp [rsT], by simp [rsT], by simp [rsT], by simp [rsT]⟩
  | 1, _ => exact ⟨by simp [rsT], by simp [rsT], by simp [rsT], by simp [rsT]⟩

/-- of servers that may be one by one: all of them together -/
def togF (xs : List Srv) (n : Nat) : Option (Int × Int) :=
  if lcmB (zP xs) n 1048576 then (if relF (lcmV (zP xs) n 1048576) xs n ≤ 65536 then none else some (103, 0)) else some (102, 0)
def timF (xs : List Srv) (n : Nat) : Option (Int × Int) := match findF xs n with
  | some p => some p
  | none => togF xs n

theorem tog_any (F : Nat → Prop) (a : Option Addr) (n c : Nat) (xs : List Srv) (tb : Nat) (w : World) (h : Sv w F a n c xs) (hf : findF xs n = none) (hT : Tb w tb 2 rsT) :
    Calls Tryz.prog 55 #[.slice a n c, .slice (some ⟨tb, 0, none⟩) 2 2] w fun e w' => e = .returned (fv (togF xs n)) ∧ Kept No w w' := by
  obtain ⟨hn, hp⟩ := findF_none hf
  have := whole_any a n c tb 2 rsT (fun j => match j with | 0 => if lcmB (zP xs) n 1048576 then 0 else 102 | _ => if decide (relF (lcmV (zP xs) n 1048576) xs n ≤ 65536) then 0 else 103) w (by omega) hT (fun j w2 aa hj hw2 => by
    match j, hj with
    | 0, _ => exact findsSl_alone 102 _ #[] a n c aa 0 1 w2 (enters_of Tryz.func90 (by kernel_rfl) rfl) _ (fun w3 hw3 => hasHyper_any F a n c xs w3 ((h.keep hw2).keep hw3) (by omega))
    | 1, _ => exact findsSl_alone 103 _ #[] a n c aa 0 1 w2 (enters_of Tryz.func91 (by kernel_rfl) rfl) _ (fun w3 hw3 => trow2 F a n c xs w3 ((h.keep hw2).keep hw3) hn (fun i hi => (hp i hi).1)))
  have e : (if rowsF (fun j => match j with | 0 => if lcmB (zP xs) n 1048576 then 0 else 102 | _ => if decide (relF (lcmV (zP xs) n 1048576) xs n ≤ 65536) then 0 else 103) 2 = 0 then none else some (rowsF (fun j => match j with | 0 => if lcmB (zP xs) n 1048576 then 0 else 102 | _ => if decide (relF (lcmV (zP xs) n 1048576) xs n ≤ 65536) then 0 else 103) 2, (0 : Int))) = togF xs n := by
    unfold togF
    by_cases h1 : lcmB (zP xs) n 1048576 = true <;> by_cases h2 : relF (lcmV (zP xs) n 1048576) xs n ≤ 65536 <;> simp [rowsF, h1, h2]
  rw [e] at this
  exact this

theorem fv_some (p : Int × Int) : fv (some p) = Value.iface 123 (.agg #[.int .i64 p.1, .int .i64 p.2]) := rfl

set_option maxHeartbeats 2000000 in
theorem findTiming_any (F : Nat → Prop) (a : Option Addr) (n c : Nat) (xs : List Srv) (w : World) (h : Sv w F a n c xs) :
    Calls Tryz.prog 34 #[.slice a n c] w fun e w' => e = .returned (fv (timF xs n)) ∧ Kept No w w' := by
  have hc := findServer_any F a n c xs w h
  cases hf : findF xs n with
  | some p =>
    have HF : Hid (timF xs n = some p) := by show timF xs n = some p; unfold timF; rw [hf]
    rw [HF.out, fv_some]
    rw [hf, fv_some] at hc
    clear hf h
    go_enter Tryz.func34, Tryz.ntmps34
    go_wp2_with (go_at_call 54; refine hc.mono ?_; rintro e w1 ⟨rfl, hk1⟩; have HK1 : Hid (Kept No w w1) := hk1; clear hk1)
    go_ret
    exact ⟨rfl, HK1.out⟩
  | none =>
    have HF : Hid (timF xs n = togF xs n) := by show timF xs n = togF xs n; unfold timF; rw [hf]
    have H2 : Hid (∀ w', Kept No w w' → ∀ tb, Tb w' tb 2 rsT → Calls Tryz.prog 55 #[.slice a n c, .slice (some ⟨tb, 0, none⟩) 2 2] w' fun e w'' => e = .returned (fv (togF xs n)) ∧ Kept No w' w'') := fun w' hw tb hT => tog_any F a n c xs tb w' (h.keep hw) hf hT
    rw [HF.out]
    rw [hf, show fv none = Value.nilIface from rfl] at hc
    clear hf h
    generalize togF xs n = z at *
    go_enter Tryz.func34, Tryz.ntmps34
    go_wp2_with (first
      | (go_at_call 54; refine hc.mono ?_; rintro e w1 ⟨rfl, hk1⟩; have HK1 : Hid (Kept No w w1) := hk1; clear hk1)
      | (go_at_call 56; refine (table2 _).mono ?_; rintro e w3 ⟨tb3, rfl, hT, hk1⟩; have HK3 : Hid (Kept No w w3) := HK1.out.trans hk1 (fun _ h => h.elim); have hc3 := H2.out w3 HK3.out tb3 hT; clear hT hk1)
      | (go_at_call 55; refine hc3.mono ?_; rintro e w4 ⟨rfl, hk2⟩; have HK4 : Hid (Kept No w w4) := HK3.out.trans hk2 (fun _ h => h.elim); clear hk2 hc3))
    go_ret
    exact ⟨rfl, HK4.out⟩

def hyV (xs : List Srv) (n : Nat) : Int := match timF xs n with
  | some _ => 0
  | none => lcmV (zP xs) n 1048576
def hyE (xs : List Srv) (n : Nat) : Int := match timF xs n with
  | some p => p.1
  | none => 0

theorem tim_none {xs : List Srv} {n : Nat} (h : timF xs n = none) : findF xs n = none := by
  unfold timF at h
  cases hf : findF xs n with
  | none => rfl
  | some p => rw [hf] at h; cases h

set_option maxHeartbeats 2000000 in
theorem hyper_any (F : Nat → Prop) (a : Option Addr) (n c : Nat) (xs : List Srv) (w : World) (hg : Gl w) (h : Sv w F a n c xs) :
    Calls Tryz.prog 17 #[.slice a n c] w fun e w' => e = .returned (.tuple #[.int .i64 (hyV xs n), .int .i64 (hyE xs n)]) ∧ Kept No w w' := by
  have hc := findTiming_any F a n c xs w h
  cases hf : timF xs n with
  | some p =>
    obtain ⟨px, py⟩ := p
    rw [show hyV xs n = 0 by unfold hyV; rw [hf], show hyE xs n = px by unfold hyE; rw [hf]]
    have H2 : Hid (∀ w', Kept No w w' → Calls Tryz.prog 35 #[.iface 123 (.agg #[.int .i64 px, .int .i64 py])] w' fun e w'' => e = .returned (.tuple #[.int .i64 px, .int .i64 py]) ∧ Kept No w' w'') := fun w' hw => told_any (some (px, py)) w' (hg.kept hw)
    rw [hf, fv_some] at hc
    clear hf h hg
    go_enter Tryz.func17, Tryz.ntmps17
    go_wp2_with (first
      | (go_at_call 34; refine hc.mono ?_; rintro e w1 ⟨rfl, hk1⟩; have HK1 : Hid (Kept No w w1) := hk1; have hc2 := H2.out w1 hk1; clear hk1)
      | (go_at_call 35; refine hc2.mono ?_; rintro e w2 ⟨rfl, hk1⟩; have HK2 : Hid (Kept No w w2) := HK1.out.trans hk1 (fun _ h => h.elim); clear hk1))
    go_ret2
    exact ⟨rfl, HK2.out⟩
  | none =>
    have hn := (findF_none (tim_none hf)).1
    rw [show hyV xs n = lcmV (zP xs) n 1048576 by unfold hyV; rw [hf], show hyE xs n = 0 by unfold hyE; rw [hf]]
    have H2 : Hid (∀ w', Kept No w w' → Calls Tryz.prog 36 #[.slice a n c] w' fun e w' => e = .returned (.tuple #[.int .i64 (lcmV (zP xs) n 1048576), .bool (lcmB (zP xs) n 1048576)]) ∧ Kept No w w') := fun w' hw => (multiple_any F a n c xs w' (h.keep hw) (by omega)).mono (fun e w2 he => ⟨he.1, hw.trans he.2 (fun _ h => h.elim)⟩)
    rw [hf, show fv none = Value.nilIface from rfl] at hc
    clear hf h hg
    generalize lcmV (zP xs) n 1048576 = z1 at *
    generalize lcmB (zP xs) n 1048576 = z2 at *
    go_enter Tryz.func17, Tryz.ntmps17
    go_wp2_with (first
      | (go_at_call 34; refine hc.mono ?_; rintro e w1 ⟨rfl, hk1⟩; have HK1 : Hid (Kept No w w1) := hk1; have hc2 := H2.out w1 hk1; clear hk1)
      | (go_at_call 36; refine hc2.mono ?_; rintro e w2 ⟨rfl, hk1⟩; have HK2 : Hid (Kept No w w2) := hk1; clear hk1))
    go_ret2
    exact ⟨rfl, HK2.out⟩
end Go.Proofs.YtnmhcnppdhdhfaaGreatDoor
