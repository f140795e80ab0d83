/-
  One text: CImg, CStep.
-/
import Derived.Test.YtfjaajjljmbmbaaGreatDoorGFb
import Derived.Test.YtfjaajjljmbmbaaGreatDoorGEb
import Derived.Test.YtfjaajjljmbmbaaGreatDoorGR
import Derived.Deep.RegionWith
namespace Go.Proofs.YtfjaajjljmbmbaaGreatDoor.Ck
open Go.RowKit
set_option linter.unusedVariables false
set_option linter.unusedSimpArgs false
set_option maxRecDepth 100000

theorem img1 (a0 : Option Addr) (n0 c0 : Nat) (v1 v2 : Value) (hn : n0 ≤ 9223372036854775807) (w : World) : Calls Tryz.prog 71 #[.agg #[.slice a0 n0 c0, v1, v2]] w fun e w' => e = .returned (.bool (decide ((n0 : Int) ≤ 32))) ∧ Kept No w w' := by
  have HK : Hid (Kept No w (w.alloc (.cells #[.slice a0 n0 c0, v1, v2] 26))) := (Kept.refl No w).alloc _
  go_enter Tryz.func71, Tryz.ntmps71
  go_wp2
  go_ret
  exact ⟨rfl, HK.out⟩
theorem img2 (v0 : Value) (a1 : Option Addr) (n1 c1 : Nat) (v2 : Value) (hn : n1 ≤ 9223372036854775807) (w : World) : Calls Tryz.prog 72 #[.agg #[v0, .slice a1 n1 c1, v2]] w fun e w' => e = .returned (.bool (decide ((n1 : Int) ≤ 64))) ∧ Kept No w w' := by
  have HK : Hid (Kept No w (w.alloc (.cells #[v0, .slice a1 n1 c1, v2] 26))) := (Kept.refl No w).alloc _
  go_enter Tryz.func72, Tryz.ntmps72
  go_wp2
  go_ret
  exact ⟨rfl, HK.out⟩
theorem img3 (v0 v1 : Value) (a2 : Option Addr) (n2 c2 : Nat) (hn : n2 ≤ 9223372036854775807) (w : World) : Calls Tryz.prog 73 #[.agg #[v0, v1, .slice a2 n2 c2]] w fun e w' => e = .returned (.bool (decide ((n2 : Int) ≤ 64))) ∧ Kept No w w' := by
  have HK : Hid (Kept No w (w.alloc (.cells #[v0, v1, .slice a2 n2 c2] 26))) := (Kept.refl No w).alloc _
  go_enter Tryz.func73, Tryz.ntmps73
  go_wp2
  go_ret
  exact ⟨rfl, HK.out⟩
def rsIm : Nat → Rw
  | 0 => ⟨100, .func (.func 71) #[] #[], .nilFunc, .nilFunc, rfl, rfl, rfl⟩
  | 1 => ⟨100, .func (.func 72) #[] #[], .nilFunc, .nilFunc, rfl, rfl, rfl⟩
  | _ => ⟨100, .func (.func 73) #[] #[], .nilFunc, .nilFunc, rfl, rfl, rfl⟩
theorem tableIm (w : World) : Calls Tryz.prog 39 #[] w fun e w' => ∃ tb, e = .returned (.slice (some ⟨tb, 0, none⟩) 3 3) ∧ Tb w' tb 3 rsIm ∧ Kept No w w' := by
  have HK : Hid (∀ o, Kept No w (w.alloc o)) := fun o => (Kept.refl No w).alloc o
  go_enter Tryz.func39, Tryz.ntmps39
  go_wp2
  go_ret
  refine ⟨_, rfl, ?_, HK.out _⟩
  intro j hj
  match j, hj with
  | 0, _ => exact ⟨by simp [rsIm], by simp [rsIm], by simp [rsIm], by simp [rsIm]⟩
  | 1, _ => exact ⟨by simp [rsIm], by simp [rsIm], by simp [rsIm], by simp [rsIm]⟩
  | 2, _ => exact ⟨by simp [rsIm], by simp [rsIm], by simp [rsIm], by simp [rsIm]⟩
def bIm (n0 n1 n2 : Nat) : Nat → Bool
  | 0 => decide ((n0 : Int) ≤ 32)
  | 1 => decide ((n1 : Int) ≤ 64)
  | _ => decide ((n2 : Int) ≤ 64)

set_option maxHeartbeats 2000000 in
theorem wholeIm (a0 : Option Addr) (n0 c0 : Nat) (a1 : Option Addr) (n1 c1 : Nat) (a2 : Option Addr) (n2 c2 : Nat) (tb : Nat) (w : World) (h0 : n0 ≤ 9223372036854775807) (h1 : n1 ≤ 9223372036854775807) (h2 : n2 ≤ 9223372036854775807) (hT : Tb w tb 3 rsIm) :
    Calls Tryz.prog 38 #[.agg #[.slice a0 n0 c0, .slice a1 n1 c1, .slice a2 n2 c2], .slice (some ⟨tb, 0, none⟩) 3 3] w fun e w' => e = .returned (fv (if n0 ≤ 32 ∧ n1 ≤ 64 ∧ n2 ≤ 64 then none else some (100, 0))) ∧ Kept No w w' := by
  have HK : Hid (Kept No w ((w.alloc (.cells #[.slice a0 n0 c0, .slice a1 n1 c1, .slice a2 n2 c2] 26)).alloc (.cells #[.slice a0 n0 c0, .slice a1 n1 c1, .slice a2 n2 c2] 26))) := ((Kept.refl No w).alloc _).alloc _
  have hc := eachIm 0 (some ⟨w.heap.size + 1, 0, none⟩) 1 1 (fun _ => .slice a0 n0 c0) (fun _ => .slice a1 n1 c1) (fun _ => .slice a2 n2 c2) tb 3 3 rsIm (fun _ j => if bIm n0 n1 n2 j then 0 else 100) ((w.alloc (.cells #[.slice a0 n0 c0, .slice a1 n1 c1, .slice a2 n2 c2] 26)).alloc (.cells #[.slice a0 n0 c0, .slice a1 n1 c1, .slice a2 n2 c2] 26)) (by omega) (by omega)
    (fun i hi => ⟨w.heap.size + 1, 0, rfl, by obtain rfl : i = 0 := by omega
                                              simp [World.cell?_alloc_at], by obtain rfl : i = 0 := by omega
                                                                              simp [World.cell?_alloc_at], by obtain rfl : i = 0 := by omega
                                                                                                              simp [World.cell?_alloc_at]⟩)
    (fun i hi => ⟨rfl, rfl, rfl⟩) (by omega) (hT.kept HK.out) (by omega) (by omega) (fun i j w' hi hj hw => by
      match j, hj with
      | 0, _ => exact findsIm_alone 100 _ #[] _ _ _ _ i 1 w' (enters_of Tryz.func71 (by kernel_rfl) rfl) _ (fun w2 _ => img1 a0 n0 c0 _ _ h0 w2)
      | 1, _ => exact findsIm_alone 100 _ #[] _ _ _ _ i 1 w' (enters_of Tryz.func72 (by kernel_rfl) rfl) _ (fun w2 _ => img2 _ a1 n1 c1 _ h1 w2)
      | 2, _ => exact findsIm_alone 100 _ #[] _ _ _ _ i 1 w' (enters_of Tryz.func73 (by kernel_rfl) rfl) _ (fun w2 _ => img3 _ _ a2 n2 c2 h2 w2))
  have e1 : eachF (fun i => rowsF (fun j => if bIm n0 n1 n2 j then 0 else 100) 3) 0 1 = (if n0 ≤ 32 ∧ n1 ≤ 64 ∧ n2 ≤ 64 then none else some (100, 0)) := by
    have i0 : decide ((n0 : Int) ≤ 32) = decide (n0 ≤ 32) := by congr 1; simp; omega
    have i1 : decide ((n1 : Int) ≤ 64) = decide (n1 ≤ 64) := by congr 1; simp; omega
    have i2 : decide ((n2 : Int) ≤ 64) = decide (n2 ≤ 64) := by congr 1; simp; omega
    simp only [eachF, rowsF, bIm, i0, i1, i2]
    by_cases g0 : n0 ≤ 32 <;> by_cases g1 : n1 ≤ 64 <;> by_cases g2 : n2 ≤ 64 <;> simp [g0, g1, g2]
  rw [e1] at hc
  clear hT e1
  generalize (if n0 ≤ 32 ∧ n1 ≤ 64 ∧ n2 ≤ 64 then none else some ((100 : Int), (0 : Int))) = z at *
  go_enter Tryz.func38, Tryz.ntmps38
  go_wp2_with (go_at_call 70; refine hc.mono ?_; rintro e w' ⟨rfl, hk2⟩; have HW6 : Hid (Kept No w w') := HK.out.trans hk2 (fun _ h => h.elim); clear hk2)
  go_ret
  exact ⟨rfl, HW6.out⟩
end Go.Proofs.YtfjaajjljmbmbaaGreatDoor.Ck

namespace Go.Proofs.YtfjaajjljmbmbaaGreatDoor.Ck
open Go.RowKit
set_option linter.unusedVariables false
set_option linter.unusedSimpArgs false
set_option maxRecDepth 100000

set_option maxHeartbeats 4000000 in
theorem step1 (a0 : Option Addr) (n0 c0 : Nat) (a1 : Option Addr) (n1 c1 : Nat) (a2 : Option Addr) (n2 c2 : Nat) (w : World) (h0 : n0 ≤ 9223372036854775807) (h1 : n1 ≤ 9223372036854775807) (h2 : n2 ≤ 9223372036854775807) :
    Calls Tryz.prog 37 #[.agg #[.slice a0 n0 c0, .slice a1 n1 c1, .slice a2 n2 c2]] w fun e w' => e = .returned (fv (if n0 ≤ 32 ∧ n1 ≤ 64 ∧ n2 ≤ 64 then none else some (100, 0))) ∧ Kept No w w' := by
  have HK : Hid (Kept No w (w.alloc (.cells #[.slice a0 n0 c0, .slice a1 n1 c1, .slice a2 n2 c2] 26))) := (Kept.refl No w).alloc _
  have HC : Hid (∀ w' tb, Tb w' tb 3 rsIm → Calls Tryz.prog 38 #[.agg #[.slice a0 n0 c0, .slice a1 n1 c1, .slice a2 n2 c2], .slice (some ⟨tb, 0, none⟩) 3 3] w' fun e w'' => e = .returned (fv (if n0 ≤ 32 ∧ n1 ≤ 64 ∧ n2 ≤ 64 then none else some (100, 0))) ∧ Kept No w' w'') := fun w' tb hT => wholeIm a0 n0 c0 a1 n1 c1 a2 n2 c2 tb w' h0 h1 h2 hT
  have HM : Hid (∀ w', Kept No (w.alloc (.cells #[.slice a0 n0 c0, .slice a1 n1 c1, .slice a2 n2 c2] 26)) w' → w'.cell? ⟨w.heap.size, 0, none⟩ = some (.slice a0 n0 c0) ∧ w'.cell? ⟨w.heap.size, 1, none⟩ = some (.slice a1 n1 c1) ∧ w'.cell? ⟨w.heap.size, 2, none⟩ = some (.slice a2 n2 c2)) := fun w' k => ⟨k.cell (by simp) (fun h => h), k.cell (by simp) (fun h => h), k.cell (by simp) (fun h => h)⟩
  clear h0 h1 h2
  generalize (if n0 ≤ 32 ∧ n1 ≤ 64 ∧ n2 ≤ 64 then none else some ((100 : Int), (0 : Int))) = z at *
  go_enter Tryz.func37, Tryz.ntmps37
  go_upto_region 1 with fail
  generalize w.alloc (.cells #[.slice a0 n0 c0, .slice a1 n1 c1, .slice a2 n2 c2] 26) = w0 at *
  obtain ⟨m0, m1, m2⟩ := HM.out w0 (Kept.refl No w0)
  go_region_with (first
    | (go_at_call 39; refine (tableIm _).mono ?_; rintro e w1 ⟨tb, rfl, hT, hk1⟩; have HT : Hid (Tb w1 tb 3 rsIm) := hT; have HK1 : Hid (Kept No w0 w1) := (Kept.refl No w0).drew.trans hk1 (fun _ h => h.elim); obtain ⟨p0, p1, p2⟩ := HM.out w1 HK1.out; clear hT hk1)
    | (go_at_call 38; refine (HC.out _ _ HT.out).mono ?_; rintro e w2 ⟨rfl, hk2⟩; have HK2 : Hid (Kept No w0 w2) := HK1.out.trans hk2 (fun _ h => h.elim); clear hk2))
  all_goals (try go_wp2)
  all_goals (go_ret; exact ⟨rfl, HK.out.trans HK2.out (fun _ h => h.elim)⟩)
end Go.Proofs.YtfjaajjljmbmbaaGreatDoor.Ck
