/-
  One text: CEIm, CImg, CStep, CInner2.
-/
import Derived.Test.YtknobeiggmghoaaGreatDoorG02
import Derived.Test.YtknobeiggmghoaaGreatDoorG25
import Derived.Test.YtknobeiggmghoaaGreatDoorG04
import Derived.Deep.RegionWith
import Derived.Test.YtknobeiggmghoaaGreatDoorG21
namespace Go.Proofs.YtknobeiggmghoaaGreatDoor
open Go.RowKit
set_option linter.unusedVariables false
set_option maxRecDepth 100000

theorem er_cutIm {w : World} {a : Act} {o : Oper} (x y : Operand) (ho : o.op = .slice 129 x none (some y) none) (b off n c k : Nat) (hk : k ≤ c) (hc : c ≤ 9223372036854775807) (hx : a.eval x = .slice (some ⟨b, off, none⟩) n c) (hy : a.eval y = .int .i64 k) : (execOp a.eval o).run Tryz.prog w = .ok (.value (.slice (some ⟨b, off, none⟩) k c)) w := by
  simp only [execOp, ho, Option.map_none, Option.map_some, hx, hy]
  simp [go_sem, hk]
  try omega
theorem quiet_findsIm {C : World → Prop} {a : Act} {o : Oper} {K : Act → Prop} (x0 x1 x2 : Operand) (ho : o.op = .call { callee := .value (.func 140), args := #[x0, x1, x2], argTypes := #[133, 26, 129] }) (v0 v1 v2 v : Value) (h0 : a.eval x0 = v0) (h1 : a.eval x1 = v1) (h2 : a.eval x2 = v2)
    (hc : ∀ w, C w → Calls Tryz.prog 140 #[v0, v1, v2] w fun e w'' => e = .returned v ∧ C w'') (hk : K (a.put o.dst v)) : o.quiet Tryz.prog a C K :=
  quiet_call' (f := 140) (args := #[v0, v1, v2]) (fun w => by subst h0 h1 h2; simp [execOp, ho, go_sem, Act.eval]) hc hk

set_option maxHeartbeats 16000000 in
theorem eachIm (first : Int) (a : Option Addr) (n c : Nat) (f0 f1 f2 : Nat → Value) (tb m mc : Nat) (rs : Nat → Rw) (E : Nat → Nat → Int) (w : World) (hnc : n ≤ c) (hcm : c ≤ 9223372036854775807)
    (h : ∀ i, i < n → ∃ b o, a = some ⟨b, o, none⟩ ∧ w.cell? ⟨b, o + i * 3, none⟩ = some (f0 i) ∧ w.cell? ⟨b, o + i * 3 + 1, none⟩ = some (f1 i) ∧ w.cell? ⟨b, o + i * 3 + 2, none⟩ = some (f2 i)) (ho : ∀ i, i < n → (f0 i).oneCell' = true ∧ (f1 i).oneCell' = true ∧ (f2 i).oneCell' = true) (hm : m ≤ 1000) (hT : Tb w tb m rs) (hf : 0 ≤ first) (hf2 : first ≤ 1)
    (hE : ∀ i j w', i < n → j < m → Kept No w w' → Calls Tryz.prog 140 #[(rs j).v, .agg #[f0 i, f1 i, f2 i], .slice a i c] w' fun e w'' => e = .returned (.int .i64 (E i j)) ∧ Kept No w' w'') :
    Calls Tryz.prog 65 #[.slice a n c, .int .i64 first, .slice (some ⟨tb, 0, none⟩) m mc] w fun e w' => e = .returned (fv (eachF (fun i => rowsF (E i) m) first n)) ∧ Kept No w w' := by
  have hn : n ≤ 9223372036854775807 := Nat.le_trans hnc hcm
  have H : Hid (∀ i, i < n → ∃ b o, a = some ⟨b, o, none⟩ ∧ w.cell? ⟨b, o + i * 3, none⟩ = some (f0 i) ∧ w.cell? ⟨b, o + i * 3 + 1, none⟩ = some (f1 i) ∧ w.cell? ⟨b, o + i * 3 + 2, none⟩ = some (f2 i)) := h
  have HO : Hid (∀ i, i < n → (f0 i).oneCell' = true ∧ (f1 i).oneCell' = true ∧ (f2 i).oneCell' = true) := ho
  have HT : Hid (Tb w tb m rs) := hT
  have HE : Hid (∀ i j w', i < n → j < m → Kept No w w' → Calls Tryz.prog 140 #[(rs j).v, (.agg #[f0 i, f1 i, f2 i]), .slice a i c] w' fun e w'' => e = .returned (.int .i64 (E i j)) ∧ Kept No w' w'') := hE
  clear h ho hT hE
  go_enter Tryz.func65, Tryz.ntmps65
  go_wp2
  go_loopw [14] (fun x wr => ∃ k : Nat, k ≤ n ∧ x = .int .i64 k ∧ Kept No w wr ∧ eachF (fun i => rowsF (E i) m) first k = none) (fun x _ => n - (intOf x).toNat)
  case atStart => exact ⟨0, by omega, rfl, Kept.refl No w, rfl⟩
  case round =>
    obtain ⟨k, hk, rfl, hkr, hno⟩ := hrel
    by_cases hlt : k < n
    · generalize wr = wo at *
      obtain ⟨b, o, rfl, c0, c1, c2⟩ := H.out k hlt
      obtain ⟨p0, p1, p2⟩ := HO.out k hlt
      replace c0 := hkr.cell c0 (fun h => h)
      replace c1 := hkr.cell c1 (fun h => h)
      replace c2 := hkr.cell c2 (fun h => h)
      have HW : Hid (Kept No w (wo.alloc (.cells #[f0 k, f1 k, f2 k] 26))) := hkr.alloc _
      have HEk : Hid (∀ j w', j < m → Kept No w w' → Calls Tryz.prog 140 #[(rs j).v, .agg #[f0 k, f1 k, f2 k], .slice (some ⟨b, o, none⟩) k c] w' fun e w'' => e = .returned (.int .i64 (E k j)) ∧ Kept No w' w'') := fun j w' hj hw => HE.out k j w' hlt hj hw
      have HNO : Hid (eachF (fun i => rowsF (E i) m) first k = none) := hno
      have hcap : k ≤ c := by omega
      clear hno hkr
      generalize f0 k = y0 at *
      generalize f1 k = y1 at *
      generalize f2 k = y2 at *
      have r0 : ∀ (ad : Addr) (mo : Mode) (W : World), (store ad y0 mo).run Tryz.prog W = stored Tryz.prog W ad y0 mo := fun ad mo W => run_store _ _ _ _ _ p0
      have r1 : ∀ (ad : Addr) (mo : Mode) (W : World), (store ad y1 mo).run Tryz.prog W = stored Tryz.prog W ad y1 mo := fun ad mo W => run_store _ _ _ _ _ p1
      have r2 : ∀ (ad : Addr) (mo : Mode) (W : World), (store ad y2 mo).run Tryz.prog W = stored Tryz.prog W ad y2 mo := fun ad mo W => run_store _ _ _ _ _ p2
      go_upto_region 4 with fail
      generalize hW1 : wo.alloc (.cells #[y0, y1, y2] 26) = w1 at *
      have HCY : Hid (w1.cell? ⟨wo.heap.size, 0, none⟩ = some y0 ∧ w1.cell? ⟨wo.heap.size, 1, none⟩ = some y1 ∧ w1.cell? ⟨wo.heap.size, 2, none⟩ = some y2) := by subst hW1; exact ⟨by simp, by simp, by simp⟩
      clear hW1 c0 c1 c2 r0 r1 r2
      go_wp2
      go_loopw [21] (fun y wr => ∃ j : Nat, j ≤ m ∧ y = .int .i64 j ∧ Kept No w1 wr ∧ rowsF (E k) j = 0) (fun y _ => m - (intOf y).toNat)
      case atStart => exact ⟨0, by omega, rfl, Kept.refl No _, rfl⟩
      case round =>
        obtain ⟨j, hj, rfl, hkr2, hno2⟩ := hrel
        have HR0 : Hid (rowsF (E k) j = 0) := hno2
        clear hno2
        by_cases hjt : j < m
        · obtain ⟨t0, t1, t2, t3⟩ := ((HT.out.kept HW.out).kept hkr2) j hjt
          have HK2 : Hid (Kept No w1 (wr.alloc (.cells #[.int .i64 (rs j).err, (rs j).f1, (rs j).f2, (rs j).f3] 133))) := hkr2.alloc _
          have HRC : Hid (∀ w5, Kept No w1 w5 → (Instr.loadAt 26 (.pointer (some ⟨wo.heap.size, 0, none⟩))).run Tryz.prog w5 = .ok (.agg #[y0, y1, y2]) w5) := fun w5 h5 => by
            obtain ⟨z0, z1, z2⟩ := HCY.out
            replace z0 := h5.cell z0 (fun h => h)
            replace z1 := h5.cell z1 (fun h => h)
            replace z2 := h5.cell z2 (fun h => h)
            simp [go_sem, z0, z1, z2]
          have HRW : Hid (∀ w5, Kept No (wr.alloc (.cells #[.int .i64 (rs j).err, (rs j).f1, (rs j).f2, (rs j).f3] 133)) w5 → (Instr.loadAt 133 (.pointer (some ⟨wr.heap.size, 0, none⟩))).run Tryz.prog w5 = .ok (rs j).v w5) := fun w5 h5 => by
            have z0 := h5.cell (p := ⟨wr.heap.size, 0, none⟩) (v := .int .i64 (rs j).err) (by simp) (fun h => h)
            have z1 := h5.cell (p := ⟨wr.heap.size, 1, none⟩) (v := (rs j).f1) (by simp) (fun h => h)
            have z2 := h5.cell (p := ⟨wr.heap.size, 2, none⟩) (v := (rs j).f2) (by simp) (fun h => h)
            have z3 := h5.cell (p := ⟨wr.heap.size, 3, none⟩) (v := (rs j).f3) (by simp) (fun h => h)
            simp [go_sem, z0, z1, z2, z3, Rw.v]
          have HEj : Hid (∀ w', Kept No w1 w' → Calls Tryz.prog 140 #[(rs j).v, .agg #[y0, y1, y2], .slice (some ⟨b, o, none⟩) k c] w' fun e w'' => e = .returned (.int .i64 (E k j)) ∧ Kept No w' w'') := fun w' hw => HEk.out j w' hjt (HW.out.trans hw (fun _ h => h.elim))
          have HW0 : Hid (Kept No w w1) := HW.out
          clear hkr2 HW HEk HT HE H HCY
          have hrc := HRC.out
          have s1 : ∀ (ad : Addr) (mo : Mode) (W : World), (store ad (rs j).f1 mo).run Tryz.prog W = stored Tryz.prog W ad (rs j).f1 mo := fun ad mo W => run_store _ _ _ _ _ (rs j).h1
          have s2 : ∀ (ad : Addr) (mo : Mode) (W : World), (store ad (rs j).f2 mo).run Tryz.prog W = stored Tryz.prog W ad (rs j).f2 mo := fun ad mo W => run_store _ _ _ _ _ (rs j).h2
          have s3 : ∀ (ad : Addr) (mo : Mode) (W : World), (store ad (rs j).f3 mo).run Tryz.prog W = stored Tryz.prog W ad (rs j).f3 mo := fun ad mo W => run_store _ _ _ _ _ (rs j).h3
          go_upto_region 7 with fail
          clear t0 t1 t2 t3 hrc s1 s2 s3
          generalize hW2 : wr.alloc (.cells #[.int .i64 (rs j).err, (rs j).f1, (rs j).f2, (rs j).f3] 133) = w2 at *
          clear hW2
          refine wp_region_kept w2 (by kernel_rfl) (by kernel_rfl) (Kept.refl No w2) ?_
          refine BigFrame.wpQuiet_want rfl (fun K hK => ?_)
          refine quiet_val' (fun w5 hw5 => er_ld _ _ rfl _ _ rfl (HRW.out w5 hw5)) ?_
          refine hK _ ?_
          clear hK K
          simp only [Act.put, List.setIfInBounds_toArray, List.set_cons_zero, List.set_cons_succ]
          refine BigFrame.wpQuiet_want rfl (fun K hK => ?_)
          refine quiet_val' (fun w5 hw5 => er_ld _ _ rfl _ _ rfl (HRC.out w5 (HK2.out.trans hw5 (fun _ h => h.elim)))) ?_
          refine hK _ ?_
          clear hK K
          simp only [Act.put, List.setIfInBounds_toArray, List.set_cons_zero, List.set_cons_succ]
          refine BigFrame.wpQuiet_want rfl (fun K hK => ?_)
          refine quiet_val' (fun w5 hw5 => er_mv _ rfl (.slice (some ⟨b, o, none⟩) n c) rfl) ?_
          refine hK _ ?_
          clear hK K
          simp only [Act.put, List.setIfInBounds_toArray, List.set_cons_zero, List.set_cons_succ]
          refine BigFrame.wpQuiet_want rfl (fun K hK => ?_)
          refine quiet_val' (fun w5 hw5 => er_mv _ rfl (.int .i64 k) rfl) ?_
          refine hK _ ?_
          clear hK K
          simp only [Act.put, List.setIfInBounds_toArray, List.set_cons_zero, List.set_cons_succ]
          refine BigFrame.wpQuiet_want rfl (fun K hK => ?_)
          refine quiet_val' (fun w5 hw5 => er_cutIm _ _ rfl b o n c k hcap hcm rfl rfl) ?_
          refine hK _ ?_
          clear hK K
          simp only [Act.put, List.setIfInBounds_toArray, List.set_cons_zero, List.set_cons_succ]
          refine BigFrame.wpQuiet_want rfl (fun K hK => ?_)
          refine quiet_findsIm _ _ _ rfl (rs j).v (.agg #[y0, y1, y2]) (.slice (some ⟨b, o, none⟩) k c) (.int .i64 (E k j)) rfl rfl rfl (fun w5 hw5 => (HEj.out w5 (HK2.out.trans hw5 (fun _ h => h.elim))).mono (fun e w6 he => ⟨he.1, hw5.trans he.2 (fun _ h => h.elim)⟩)) ?_
          refine hK _ ?_
          clear hK K
          simp only [Act.put, List.setIfInBounds_toArray, List.set_cons_zero, List.set_cons_succ]
          refine BigFrame.wpQuiet_want rfl (fun K hK => ?_)
          refine quiet_val' (fun w5 hw5 => er_as _ rfl (.int .i64 (E k j)) rfl) ?_
          refine hK _ ?_
          clear hK K
          simp only [Act.put, List.setIfInBounds_toArray, List.set_cons_zero, List.set_cons_succ]
          refine wpQuiet_nil ?_
          intro w6 hw6
          have HW6 : Hid (Kept No w1 w6) := HK2.out.trans hw6 (fun _ h => h.elim)
          clear hw6 HRC HRW HEj HK2
          by_cases he : E k j = 0
          · have HR1 : Hid (rowsF (E k) (j + 1) = 0) := rowsF_miss HR0.out he
            have HE0 : Hid (E k j = 0) := he
            go_wp2
            go_roundw
            case rel => exact ⟨j + 1, by omega, by go_num, HW6.out, HR1.out⟩
            case measure => simp [intOf]; omega
          · have HF : Hid (eachF (fun i => rowsF (E i) m) first n = some (E k j, first + k)) := by
              have e1 := rowsF_hit HR0.out he m hjt
              have e2 := eachF_hit (r := fun i => rowsF (E i) m) HNO.out (by simp only [e1]; exact he) n hlt
              have e3 : eachF (fun i => rowsF (E i) m) first n = some (E k j, first + k) := by rw [e2]; simp only [e1]
              exact e3
            go_wp2
            go_ret
            exact ⟨by rw [HF.out]; rfl, HW0.out.trans HW6.out (fun _ h => h.elim)⟩
        · have hje : j = m := by omega
          subst hje
          have HN1 : Hid (eachF (fun i => rowsF (E i) j) first (k + 1) = none) := eachF_miss HNO.out HR0.out
          have HW6 : Hid (Kept No w wr) := HW.out.trans hkr2 (fun _ h => h.elim)
          clear hkr2 HW HEk HT HE H HCY
          go_wp2
          go_roundw
          case rel => exact ⟨k + 1, by omega, by go_num, HW6.out, HN1.out⟩
          case measure => simp [intOf]; omega
    · have hke : k = n := by omega
      subst hke
      have HF : Hid (eachF (fun i => rowsF (E i) m) first k = none) := hno
      have HW6 : Hid (Kept No w wr) := hkr
      clear hno hkr
      go_wp2
      go_ret
      exact ⟨by rw [HF.out]; rfl, HW6.out⟩

end Go.Proofs.YtknobeiggmghoaaGreatDoor

namespace Go.Proofs.YtknobeiggmghoaaGreatDoor
open Go.RowKit
set_option linter.unusedVariables false
set_option linter.unusedSimpArgs false
set_option maxRecDepth 100000

theorem img1 (a0 : Option Addr) (n0 c0 : Nat) (v1 v2 : Value) (hn : n0 ≤ 9223372036854775807) (w : World) : Calls Tryz.prog 66 #[.agg #[.slice a0 n0 c0, v1, v2]] w fun e w' => e = .returned (.bool (decide ((n0 : Int) ≤ 32))) ∧ Kept No w w' := by
  have HK : Hid (Kept No w (w.alloc (.cells #[.slice a0 n0 c0, v1, v2] 26))) := (Kept.refl No w).alloc _
  go_enter Tryz.func66, Tryz.ntmps66
  go_wp2
  go_ret
  exact ⟨rfl, HK.out⟩
theorem img2 (v0 : Value) (a1 : Option Addr) (n1 c1 : Nat) (v2 : Value) (hn : n1 ≤ 9223372036854775807) (w : World) : Calls Tryz.prog 67 #[.agg #[v0, .slice a1 n1 c1, v2]] w fun e w' => e = .returned (.bool (decide ((n1 : Int) ≤ 64))) ∧ Kept No w w' := by
  have HK : Hid (Kept No w (w.alloc (.cells #[v0, .slice a1 n1 c1, v2] 26))) := (Kept.refl No w).alloc _
  go_enter Tryz.func67, Tryz.ntmps67
  go_wp2
  go_ret
  exact ⟨rfl, HK.out⟩
theorem img3 (v0 v1 : Value) (a2 : Option Addr) (n2 c2 : Nat) (hn : n2 ≤ 9223372036854775807) (w : World) : Calls Tryz.prog 68 #[.agg #[v0, v1, .slice a2 n2 c2]] w fun e w' => e = .returned (.bool (decide ((n2 : Int) ≤ 64))) ∧ Kept No w w' := by
  have HK : Hid (Kept No w (w.alloc (.cells #[v0, v1, .slice a2 n2 c2] 26))) := (Kept.refl No w).alloc _
  go_enter Tryz.func68, Tryz.ntmps68
  go_wp2
  go_ret
  exact ⟨rfl, HK.out⟩
def rsIm : Nat → Rw
  | 0 => ⟨100, .func (.func 66) #[] #[], .nilFunc, .nilFunc, rfl, rfl, rfl⟩
  | 1 => ⟨100, .func (.func 67) #[] #[], .nilFunc, .nilFunc, rfl, rfl, rfl⟩
  | _ => ⟨100, .func (.func 68) #[] #[], .nilFunc, .nilFunc, rfl, rfl, rfl⟩
theorem tableIm (w : World) : Calls Tryz.prog 39 #[] w fun e w' => ∃ tb, e = .returned (.slice (some ⟨tb, 0, none⟩) 3 3) ∧ Tb w' tb 3 rsIm ∧ Kept No w w' := by
  have HK : Hid (∀ o, Kept No w (w.alloc o)) := fun o => (Kept.refl No w).alloc o
  go_enter Tryz.func39, Tryz.ntmps39
  go_wp2
  go_ret
  refine ⟨_, rfl, ?_, HK.out _⟩
  intro j hj
  match j, hj with
  | 0, _ => exact ⟨by simp [rsIm], by simp [rsIm], by simp [rsIm], by simp [rsIm]⟩
  | 1, _ => exact ⟨by simp [rsIm], by simp [rsIm], by simp [rsIm], by simp [rsIm]⟩
  | 2, _ => exact ⟨by simp [rsIm], by simp [rsIm], by simp [rsIm], by simp [rsIm]⟩
def bIm (n0 n1 n2 : Nat) : Nat → Bool
  | 0 => decide ((n0 : Int) ≤ 32)
  | 1 => decide ((n1 : Int) ≤ 64)
  | _ => decide ((n2 : Int) ≤ 64)

set_option maxHeartbeats 2000000 in
theorem wholeIm (a0 : Option Addr) (n0 c0 : Nat) (a1 : Option Addr) (n1 c1 : Nat) (a2 : Option Addr) (n2 c2 : Nat) (tb : Nat) (w : World) (h0 : n0 ≤ 9223372036854775807) (h1 : n1 ≤ 9223372036854775807) (h2 : n2 ≤ 9223372036854775807) (hT : Tb w tb 3 rsIm) :
    Calls Tryz.prog 38 #[.agg #[.slice a0 n0 c0, .slice a1 n1 c1, .slice a2 n2 c2], .slice (some ⟨tb, 0, none⟩) 3 3] w fun e w' => e = .returned (fv (if n0 ≤ 32 ∧ n1 ≤ 64 ∧ n2 ≤ 64 then none else some (100, 0))) ∧ Kept No w w' := by
  have HK : Hid (Kept No w ((w.alloc (.cells #[.slice a0 n0 c0, .slice a1 n1 c1, .slice a2 n2 c2] 26)).alloc (.cells #[.slice a0 n0 c0, .slice a1 n1 c1, .slice a2 n2 c2] 26))) := ((Kept.refl No w).alloc _).alloc _
  have hc := eachIm 0 (some ⟨w.heap.size + 1, 0, none⟩) 1 1 (fun _ => .slice a0 n0 c0) (fun _ => .slice a1 n1 c1) (fun _ => .slice a2 n2 c2) tb 3 3 rsIm (fun _ j => if bIm n0 n1 n2 j then 0 else 100) ((w.alloc (.cells #[.slice a0 n0 c0, .slice a1 n1 c1, .slice a2 n2 c2] 26)).alloc (.cells #[.slice a0 n0 c0, .slice a1 n1 c1, .slice a2 n2 c2] 26)) (by omega) (by omega)
    (fun i hi => ⟨w.heap.size + 1, 0, rfl, by obtain rfl : i = 0 := by omega
                                              simp [World.cell?_alloc_at], by obtain rfl : i = 0 := by omega
                                                                              simp [World.cell?_alloc_at], by obtain rfl : i = 0 := by omega
                                                                                                              simp [World.cell?_alloc_at]⟩)
    (fun i hi => ⟨rfl, rfl, rfl⟩) (by omega) (hT.kept HK.out) (by omega) (by omega) (fun i j w' hi hj hw => by
      match j, hj with
      | 0, _ => exact findsIm_alone 100 _ #[] _ _ _ _ i 1 w' (enters_of Tryz.func66 (by kernel_rfl) rfl) _ (fun w2 _ => img1 a0 n0 c0 _ _ h0 w2)
      | 1, _ => exact findsIm_alone 100 _ #[] _ _ _ _ i 1 w' (enters_of Tryz.func67 (by kernel_rfl) rfl) _ (fun w2 _ => img2 _ a1 n1 c1 _ h1 w2)
      | 2, _ => exact findsIm_alone 100 _ #[] _ _ _ _ i 1 w' (enters_of Tryz.func68 (by kernel_rfl) rfl) _ (fun w2 _ => img3 _ _ a2 n2 c2 h2 w2))
  have e1 : eachF (fun i => rowsF (fun j => if bIm n0 n1 n2 j then 0 else 100) 3) 0 1 = (if n0 ≤ 32 ∧ n1 ≤ 64 ∧ n2 ≤ 64 then none else some (100, 0)) := by
    have i0 : decide ((n0 : Int) ≤ 32) = decide (n0 ≤ 32) := by congr 1; simp; omega
    have i1 : decide ((n1 : Int) ≤ 64) = decide (n1 ≤ 64) := by congr 1; simp; omega
    have i2 : decide ((n2 : Int) ≤ 64) = decide (n2 ≤ 64) := by congr 1; simp; omega
    simp only [eachF, rowsF, bIm, i0, i1, i2]
    by_cases g0 : n0 ≤ 32 <;> by_cases g1 : n1 ≤ 64 <;> by_cases g2 : n2 ≤ 64 <;> simp [g0, g1, g2]
  rw [e1] at hc
  clear hT e1
  generalize (if n0 ≤ 32 ∧ n1 ≤ 64 ∧ n2 ≤ 64 then none else some ((100 : Int), (0 : Int))) = z at *
  go_enter Tryz.func38, Tryz.ntmps38
  go_wp2_with (go_at_call 65; refine hc.mono ?_; rintro e w' ⟨rfl, hk2⟩; have HW6 : Hid (Kept No w w') := HK.out.trans hk2 (fun _ h => h.elim); clear hk2)
  go_ret
  exact ⟨rfl, HW6.out⟩
end Go.Proofs.YtknobeiggmghoaaGreatDoor

namespace Go.Proofs.YtknobeiggmghoaaGreatDoor
open Go.RowKit
set_option linter.unusedVariables false
set_option linter.unusedSimpArgs false
set_option maxRecDepth 100000

set_option maxHeartbeats 4000000 in
theorem step1 (a0 : Option Addr) (n0 c0 : Nat) (a1 : Option Addr) (n1 c1 : Nat) (a2 : Option Addr) (n2 c2 : Nat) (w : World) (h0 : n0 ≤ 9223372036854775807) (h1 : n1 ≤ 9223372036854775807) (h2 : n2 ≤ 9223372036854775807) :
    Calls Tryz.prog 37 #[.agg #[.slice a0 n0 c0, .slice a1 n1 c1, .slice a2 n2 c2]] w fun e w' => e = .returned (fv (if n0 ≤ 32 ∧ n1 ≤ 64 ∧ n2 ≤ 64 then none else some (100, 0))) ∧ Kept No w w' := by
  have HK : Hid (Kept No w (w.alloc (.cells #[.slice a0 n0 c0, .slice a1 n1 c1, .slice a2 n2 c2] 26))) := (Kept.refl No w).alloc _
  have HC : Hid (∀ w' tb, Tb w' tb 3 rsIm → Calls Tryz.prog 38 #[.agg #[.slice a0 n0 c0, .slice a1 n1 c1, .slice a2 n2 c2], .slice (some ⟨tb, 0, none⟩) 3 3] w' fun e w'' => e = .returned (fv (if n0 ≤ 32 ∧ n1 ≤ 64 ∧ n2 ≤ 64 then none else some (100, 0))) ∧ Kept No w' w'') := fun w' tb hT => wholeIm a0 n0 c0 a1 n1 c1 a2 n2 c2 tb w' h0 h1 h2 hT
  have HM : Hid (∀ w', Kept No (w.alloc (.cells #[.slice a0 n0 c0, .slice a1 n1 c1, .slice a2 n2 c2] 26)) w' → w'.cell? ⟨w.heap.size, 0, none⟩ = some (.slice a0 n0 c0) ∧ w'.cell? ⟨w.heap.size, 1, none⟩ = some (.slice a1 n1 c1) ∧ w'.cell? ⟨w.heap.size, 2, none⟩ = some (.slice a2 n2 c2)) := fun w' k => ⟨k.cell (by simp) (fun h => h), k.cell (by simp) (fun h => h), k.cell (by simp) (fun h => h)⟩
  clear h0 h1 h2
  generalize (if n0 ≤ 32 ∧ n1 ≤ 64 ∧ n2 ≤ 64 then none else some ((100 : Int), (0 : Int))) = z at *
  go_enter Tryz.func37, Tryz.ntmps37
  go_upto_region 1 with fail
  generalize w.alloc (.cells #[.slice a0 n0 c0, .slice a1 n1 c1, .slice a2 n2 c2] 26) = w0 at *
  obtain ⟨m0, m1, m2⟩ := HM.out w0 (Kept.refl No w0)
  go_region_with (first
    | (go_at_call 39; refine (tableIm _).mono ?_; rintro e w1 ⟨tb, rfl, hT, hk1⟩; have HT : Hid (Tb w1 tb 3 rsIm) := hT; have HK1 : Hid (Kept No w0 w1) := (Kept.refl No w0).drew.trans hk1 (fun _ h => h.elim); obtain ⟨p0, p1, p2⟩ := HM.out w1 HK1.out; clear hT hk1)
    | (go_at_call 38; refine (HC.out _ _ HT.out).mono ?_; rintro e w2 ⟨rfl, hk2⟩; have HK2 : Hid (Kept No w0 w2) := HK1.out.trans hk2 (fun _ h => h.elim); clear hk2))
  all_goals (try go_wp2)
  all_goals (go_ret; exact ⟨rfl, HK.out.trans HK2.out (fun _ h => h.elim)⟩)
end Go.Proofs.YtknobeiggmghoaaGreatDoor

namespace Go.Proofs.YtknobeiggmghoaaGreatDoor
open Go.RowKit
set_option linter.unusedVariables false
set_option linter.unusedSimpArgs false
set_option maxRecDepth 100000

theorem lsPrc_keep {w w' : World} {F : Nat → Prop} {a : Option Addr} {n c : Nat} {xs : List Prc} (h : Ls 6 elPrc w F a n c xs) (k : Kept No w w') : Ls 6 elPrc w' F a n c xs := h.kept k (fun _ _ h => h) (elPrc_kept k (fun _ _ h => h))

set_option maxHeartbeats 8000000 in
theorem part4 (F : Nat → Prop) (cs : List Value) (ca : Option Addr) (cn cc : Nat) (a : Option Addr) (n c : Nat) (xs : List Prc) (w : World) (hcn : cn ≤ 9223372036854775807) (h7 : cs[7]? = some (.slice ca cn cc)) (h8 : cs[8]? = some (.slice a n c)) (hL : Ls 6 elPrc w F a n c xs) :
    Calls Tryz.prog 80 #[.agg cs.toArray] w fun e w' => e = .returned (fv (eachF (fun i => rowsF (fun j => if bPrc cn (xs.getD i ⟨0, 0, 0, 0, 0, false⟩) j then 0 else 105) 6) 1 n)) ∧ Kept No w w' := by
  have HK : Hid (Kept No w (w.alloc (.cells cs.toArray 45))) := (Kept.refl No w).alloc _
  have HC : Hid (∀ w' g tb, Kept No w w' → w'.cell? ⟨g, 0, none⟩ = some (.int .i64 cn) → Tb w' tb 6 (rsPrc g) → Calls Tryz.prog 81 #[.slice a n c, .int .i64 1, .slice (some ⟨tb, 0, none⟩) 6 6] w' fun e w'' => e = .returned (fv (eachF (fun i => rowsF (fun j => if bPrc cn (xs.getD i ⟨0, 0, 0, 0, 0, false⟩) j then 0 else 105) 6) 1 n)) ∧ Kept No w' w'') := fun w' g tb hw hg hT => each_Prc F a n c xs tb g cn w' (lsPrc_keep hL hw) hg hT
  have HM : Hid (∀ w', Kept No (w.alloc (.cells cs.toArray 45)) w' → w'.cell? ⟨w.heap.size, 7, none⟩ = some (.slice ca cn cc) ∧ w'.cell? ⟨w.heap.size, 8, none⟩ = some (.slice a n c)) := fun w' k => ⟨k.cell (pn_cell w cs _ 7 _ h7) (fun h => h), k.cell (pn_cell w cs _ 8 _ h8) (fun h => h)⟩
  clear h7 h8 hL
  generalize eachF (fun i => rowsF (fun j => if bPrc cn (xs.getD i ⟨0, 0, 0, 0, 0, false⟩) j then 0 else 105) 6) 1 n = z at *
  go_enter Tryz.func80, Tryz.ntmps80
  go_upto_region 1 with fail
  generalize w.alloc (.cells cs.toArray 45) = w0 at *
  generalize Value.agg cs.toArray = av at *
  obtain ⟨m0, m1⟩ := HM.out w0 (Kept.refl No w0)
  go_region_with (first
    | (go_at_call 82; refine (tablePrc _ _).mono ?_; rintro e w1 ⟨g, tb, rfl, hT, hg, hk1⟩; have HT : Hid (Tb w1 tb 6 (rsPrc g)) := hT; have HGG : Hid (w1.cell? ⟨g, 0, none⟩ = some (.int .i64 cn)) := hg; have HK1 : Hid (Kept No w0 w1) := (Kept.refl No w0).drew.trans hk1 (fun _ h => h.elim); obtain ⟨p0, p1⟩ := HM.out w1 HK1.out; clear hT hk1 hg)
    | (go_at_call 81; refine (HC.out _ _ _ (HK.out.trans HK1.out (fun _ h => h.elim)) HGG.out HT.out).mono ?_; rintro e w2 ⟨rfl, hk2⟩; have HK2 : Hid (Kept No w0 w2) := HK1.out.trans hk2 (fun _ h => h.elim); clear hk2))
  all_goals (try go_wp2)
  all_goals (go_ret; exact ⟨rfl, HK.out.trans HK2.out (fun _ h => h.elim)⟩)
end Go.Proofs.YtknobeiggmghoaaGreatDoor
