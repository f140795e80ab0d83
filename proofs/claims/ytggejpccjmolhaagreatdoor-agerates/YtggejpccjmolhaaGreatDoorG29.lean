/-
  One text: CImg, CStep, CInner, CInner2, CHand.
-/
import Derived.Test.YtggejpccjmolhaaGreatDoorG28
import Derived.Test.YtggejpccjmolhaaGreatDoorG04
import Derived.Deep.RegionWith
import Derived.Test.YtggejpccjmolhaaGreatDoorCObj
import Derived.Test.YtggejpccjmolhaaGreatDoorG16
namespace Go.Proofs.YtggejpccjmolhaaGreatDoor
open Go.RowKit
set_option linter.unusedVariables false
set_option linter.unusedSimpArgs false
set_option maxRecDepth 100000

theorem img1 (a0 : Option Addr) (n0 c0 : Nat) (v1 v2 : Value) (hn : n0 ≤ 9223372036854775807) (w : World) : Calls Tryz.prog 70 #[.agg #[.slice a0 n0 c0, v1, v2]] w fun e w' => e = .returned (.bool (decide ((n0 : Int) ≤ 32))) ∧ Kept No w w' := by
  have HK : Hid (Kept No w (w.alloc (.cells #[.slice a0 n0 c0, v1, v2] 26))) := (Kept.refl No w).alloc _
  go_enter Tryz.func70, Tryz.ntmps70
  go_wp2
  go_ret
  exact ⟨rfl, HK.out⟩
theorem img2 (v0 : Value) (a1 : Option Addr) (n1 c1 : Nat) (v2 : Value) (hn : n1 ≤ 9223372036854775807) (w : World) : Calls Tryz.prog 71 #[.agg #[v0, .slice a1 n1 c1, v2]] w fun e w' => e = .returned (.bool (decide ((n1 : Int) ≤ 64))) ∧ Kept No w w' := by
  have HK : Hid (Kept No w (w.alloc (.cells #[v0, .slice a1 n1 c1, v2] 26))) := (Kept.refl No w).alloc _
  go_enter Tryz.func71, Tryz.ntmps71
  go_wp2
  go_ret
  exact ⟨rfl, HK.out⟩
theorem img3 (v0 v1 : Value) (a2 : Option Addr) (n2 c2 : Nat) (hn : n2 ≤ 9223372036854775807) (w : World) : Calls Tryz.prog 72 #[.agg #[v0, v1, .slice a2 n2 c2]] w fun e w' => e = .returned (.bool (decide ((n2 : Int) ≤ 64))) ∧ Kept No w w' := by
  have HK : Hid (Kept No w (w.alloc (.cells #[v0, v1, .slice a2 n2 c2] 26))) := (Kept.refl No w).alloc _
  go_enter Tryz.func72, Tryz.ntmps72
  go_wp2
  go_ret
  exact ⟨rfl, HK.out⟩
def rsIm : Nat → Rw
  | 0 => ⟨100, .func (.func 70) #[] #[], .nilFunc, .nilFunc, rfl, rfl, rfl⟩
  | 1 => ⟨100, .func (.func 71) #[] #[], .nilFunc, .nilFunc, rfl, rfl, rfl⟩
  | _ => ⟨100, .func (.func 72) #[] #[], .nilFunc, .nilFunc, rfl, rfl, rfl⟩
theorem tableIm (w : World) : Calls Tryz.prog 51 #[] w fun e w' => ∃ tb, e = .returned (.slice (some ⟨tb, 0, none⟩) 3 3) ∧ Tb w' tb 3 rsIm ∧ Kept No w w' := by
  have HK : Hid (∀ o, Kept No w (w.alloc o)) := fun o => (Kept.refl No w).alloc o
  go_enter Tryz.func51, Tryz.ntmps51
  go_wp2
  go_ret
  refine ⟨_, rfl, ?_, HK.out _⟩
  intro j hj
  match j, hj with
  | 0, _ => exact ⟨by simp [rsIm], by simp [rsIm], by simp [rsIm], by simp [rsIm]⟩
  | 1, _ => exact ⟨by simp [rsIm], by simp [rsIm], by simp [rsIm], by simp [rsIm]⟩
  | 2, _ => exact ⟨by simp [rsIm], by simp [rsIm], by simp [rsIm], by simp [rsIm]⟩
def bIm (n0 n1 n2 : Nat) : Nat → Bool
  | 0 => decide ((n0 : Int) ≤ 32)
  | 1 => decide ((n1 : Int) ≤ 64)
  | _ => decide ((n2 : Int) ≤ 64)

set_option maxHeartbeats 2000000 in
theorem wholeIm (a0 : Option Addr) (n0 c0 : Nat) (a1 : Option Addr) (n1 c1 : Nat) (a2 : Option Addr) (n2 c2 : Nat) (tb : Nat) (w : World) (h0 : n0 ≤ 9223372036854775807) (h1 : n1 ≤ 9223372036854775807) (h2 : n2 ≤ 9223372036854775807) (hT : Tb w tb 3 rsIm) :
    Calls Tryz.prog 50 #[.agg #[.slice a0 n0 c0, .slice a1 n1 c1, .slice a2 n2 c2], .slice (some ⟨tb, 0, none⟩) 3 3] w fun e w' => e = .returned (fv (if n0 ≤ 32 ∧ n1 ≤ 64 ∧ n2 ≤ 64 then none else some (100, 0))) ∧ Kept No w w' := by
  have HK : Hid (Kept No w ((w.alloc (.cells #[.slice a0 n0 c0, .slice a1 n1 c1, .slice a2 n2 c2] 26)).alloc (.cells #[.slice a0 n0 c0, .slice a1 n1 c1, .slice a2 n2 c2] 26))) := ((Kept.refl No w).alloc _).alloc _
  have hc := eachIm 0 (some ⟨w.heap.size + 1, 0, none⟩) 1 1 (fun _ => .slice a0 n0 c0) (fun _ => .slice a1 n1 c1) (fun _ => .slice a2 n2 c2) tb 3 3 rsIm (fun _ j => if bIm n0 n1 n2 j then 0 else 100) ((w.alloc (.cells #[.slice a0 n0 c0, .slice a1 n1 c1, .slice a2 n2 c2] 26)).alloc (.cells #[.slice a0 n0 c0, .slice a1 n1 c1, .slice a2 n2 c2] 26)) (by omega) (by omega)
    (fun i hi => ⟨w.heap.size + 1, 0, rfl, by obtain rfl : i = 0 := by omega
                                              simp [World.cell?_alloc_at], by obtain rfl : i = 0 := by omega
                                                                              simp [World.cell?_alloc_at], by obtain rfl : i = 0 := by omega
                                                                                                              simp [World.cell?_alloc_at]⟩)
    (fun i hi => ⟨rfl, rfl, rfl⟩) (by omega) (hT.kept HK.out) (by omega) (by omega) (fun i j w' hi hj hw => by
      match j, hj with
      | 0, _ => exact findsIm_alone 100 _ #[] _ _ _ _ i 1 w' (enters_of Tryz.func70 (by kernel_rfl) rfl) _ (fun w2 _ => img1 a0 n0 c0 _ _ h0 w2)
      | 1, _ => exact findsIm_alone 100 _ #[] _ _ _ _ i 1 w' (enters_of Tryz.func71 (by kernel_rfl) rfl) _ (fun w2 _ => img2 _ a1 n1 c1 _ h1 w2)
      | 2, _ => exact findsIm_alone 100 _ #[] _ _ _ _ i 1 w' (enters_of Tryz.func72 (by kernel_rfl) rfl) _ (fun w2 _ => img3 _ _ a2 n2 c2 h2 w2))
  have e1 : eachF (fun i => rowsF (fun j => if bIm n0 n1 n2 j then 0 else 100) 3) 0 1 = (if n0 ≤ 32 ∧ n1 ≤ 64 ∧ n2 ≤ 64 then none else some (100, 0)) := by
    have i0 : decide ((n0 : Int) ≤ 32) = decide (n0 ≤ 32) := by congr 1; simp; omega
    have i1 : decide ((n1 : Int) ≤ 64) = decide (n1 ≤ 64) := by congr 1; simp; omega
    have i2 : decide ((n2 : Int) ≤ 64) = decide (n2 ≤ 64) := by congr 1; simp; omega
    simp only [eachF, rowsF, bIm, i0, i1, i2]
    by_cases g0 : n0 ≤ 32 <;> by_cases g1 : n1 ≤ 64 <;> by_cases g2 : n2 ≤ 64 <;> simp [g0, g1, g2]
  rw [e1] at hc
  clear hT e1
  generalize (if n0 ≤ 32 ∧ n1 ≤ 64 ∧ n2 ≤ 64 then none else some ((100 : Int), (0 : Int))) = z at *
  go_enter Tryz.func50, Tryz.ntmps50
  go_wp2_with (go_at_call 69; refine hc.mono ?_; rintro e w' ⟨rfl, hk2⟩; have HW6 : Hid (Kept No w w') := HK.out.trans hk2 (fun _ h => h.elim); clear hk2)
  go_ret
  exact ⟨rfl, HW6.out⟩
end Go.Proofs.YtggejpccjmolhaaGreatDoor

namespace Go.Proofs.YtggejpccjmolhaaGreatDoor
open Go.RowKit
set_option linter.unusedVariables false
set_option linter.unusedSimpArgs false
set_option maxRecDepth 100000

set_option maxHeartbeats 4000000 in
theorem step1 (a0 : Option Addr) (n0 c0 : Nat) (a1 : Option Addr) (n1 c1 : Nat) (a2 : Option Addr) (n2 c2 : Nat) (w : World) (h0 : n0 ≤ 9223372036854775807) (h1 : n1 ≤ 9223372036854775807) (h2 : n2 ≤ 9223372036854775807) :
    Calls Tryz.prog 49 #[.agg #[.slice a0 n0 c0, .slice a1 n1 c1, .slice a2 n2 c2]] w fun e w' => e = .returned (fv (if n0 ≤ 32 ∧ n1 ≤ 64 ∧ n2 ≤ 64 then none else some (100, 0))) ∧ Kept No w w' := by
  have HK : Hid (Kept No w (w.alloc (.cells #[.slice a0 n0 c0, .slice a1 n1 c1, .slice a2 n2 c2] 26))) := (Kept.refl No w).alloc _
  have HC : Hid (∀ w' tb, Tb w' tb 3 rsIm → Calls Tryz.prog 50 #[.agg #[.slice a0 n0 c0, .slice a1 n1 c1, .slice a2 n2 c2], .slice (some ⟨tb, 0, none⟩) 3 3] w' fun e w'' => e = .returned (fv (if n0 ≤ 32 ∧ n1 ≤ 64 ∧ n2 ≤ 64 then none else some (100, 0))) ∧ Kept No w' w'') := fun w' tb hT => wholeIm a0 n0 c0 a1 n1 c1 a2 n2 c2 tb w' h0 h1 h2 hT
  have HM : Hid (∀ w', Kept No (w.alloc (.cells #[.slice a0 n0 c0, .slice a1 n1 c1, .slice a2 n2 c2] 26)) w' → w'.cell? ⟨w.heap.size, 0, none⟩ = some (.slice a0 n0 c0) ∧ w'.cell? ⟨w.heap.size, 1, none⟩ = some (.slice a1 n1 c1) ∧ w'.cell? ⟨w.heap.size, 2, none⟩ = some (.slice a2 n2 c2)) := fun w' k => ⟨k.cell (by simp) (fun h => h), k.cell (by simp) (fun h => h), k.cell (by simp) (fun h => h)⟩
  clear h0 h1 h2
  generalize (if n0 ≤ 32 ∧ n1 ≤ 64 ∧ n2 ≤ 64 then none else some ((100 : Int), (0 : Int))) = z at *
  go_enter Tryz.func49, Tryz.ntmps49
  go_upto_region 1 with fail
  generalize w.alloc (.cells #[.slice a0 n0 c0, .slice a1 n1 c1, .slice a2 n2 c2] 26) = w0 at *
  obtain ⟨m0, m1, m2⟩ := HM.out w0 (Kept.refl No w0)
  go_region_with (first
    | (go_at_call 51; refine (tableIm _).mono ?_; rintro e w1 ⟨tb, rfl, hT, hk1⟩; have HT : Hid (Tb w1 tb 3 rsIm) := hT; have HK1 : Hid (Kept No w0 w1) := (Kept.refl No w0).drew.trans hk1 (fun _ h => h.elim); obtain ⟨p0, p1, p2⟩ := HM.out w1 HK1.out; clear hT hk1)
    | (go_at_call 50; refine (HC.out _ _ HT.out).mono ?_; rintro e w2 ⟨rfl, hk2⟩; have HK2 : Hid (Kept No w0 w2) := HK1.out.trans hk2 (fun _ h => h.elim); clear hk2))
  all_goals (try go_wp2)
  all_goals (go_ret; exact ⟨rfl, HK.out.trans HK2.out (fun _ h => h.elim)⟩)
end Go.Proofs.YtggejpccjmolhaaGreatDoor

namespace Go.Proofs.YtggejpccjmolhaaGreatDoor
open Go.RowKit
set_option linter.unusedVariables false
set_option linter.unusedSimpArgs false
set_option maxRecDepth 100000

theorem lsSm_keep {w w' : World} {F : Nat → Prop} {a : Option Addr} {n c : Nat} {xs : List Sm} (h : Ls 2 elSm w F a n c xs) (k : Kept No w w') : Ls 2 elSm w' F a n c xs := h.kept k (fun _ _ h => h) (elSm_kept k (fun _ _ h => h))
theorem lsBf_keep {w w' : World} {F : Nat → Prop} {a : Option Addr} {n c : Nat} {xs : List Bf} (h : Ls 2 elBf w F a n c xs) (k : Kept No w w') : Ls 2 elBf w' F a n c xs := h.kept k (fun _ _ h => h) (elBf_kept k (fun _ _ h => h))

set_option maxHeartbeats 4000000 in
theorem part5 (F : Nat → Prop) (cs : List Value) (a : Option Addr) (n c : Nat) (xs : List Sm) (w : World) (h : cs[18]? = some (.slice a n c)) (hL : Ls 2 elSm w F a n c xs) :
    Calls Tryz.prog 90 #[.agg cs.toArray] w fun e w' => e = .returned (fv (eachF (fun i => rowsF (fun j => if bSm (xs.getD i ⟨0, 0⟩) j then 0 else 106) 2) 1 n)) ∧ Kept No w w' := by
  have HK : Hid (Kept No w (w.alloc (.cells cs.toArray 59))) := (Kept.refl No w).alloc _
  have HC : Hid (∀ w' tb, Kept No w w' → Tb w' tb 2 rsSm → Calls Tryz.prog 91 #[.slice a n c, .int .i64 1, .slice (some ⟨tb, 0, none⟩) 2 2] w' fun e w'' => e = .returned (fv (eachF (fun i => rowsF (fun j => if bSm (xs.getD i ⟨0, 0⟩) j then 0 else 106) 2) 1 n)) ∧ Kept No w' w'') := fun w' tb hw hT => each_Sm F a n c xs tb w' (lsSm_keep hL hw) hT
  have HM : Hid (∀ w', Kept No (w.alloc (.cells cs.toArray 59)) w' → w'.cell? ⟨w.heap.size, 18, none⟩ = some (.slice a n c)) := fun w' k => k.cell (pn_cell w cs _ 18 _ h) (fun h => h)
  clear h hL
  generalize eachF (fun i => rowsF (fun j => if bSm (xs.getD i ⟨0, 0⟩) j then 0 else 106) 2) 1 n = z at *
  go_enter Tryz.func90, Tryz.ntmps90
  go_upto_region 1 with fail
  generalize w.alloc (.cells cs.toArray 59) = w0 at *
  generalize Value.agg cs.toArray = av at *
  have m0 := HM.out w0 (Kept.refl No w0)
  go_region_with (first
    | (go_at_call 92; refine (tableSm _).mono ?_; rintro e w1 ⟨tb, rfl, hT, hk1⟩; have HT : Hid (Tb w1 tb 2 rsSm) := hT; have HK1 : Hid (Kept No w0 w1) := (Kept.refl No w0).drew.trans hk1 (fun _ h => h.elim); have p0 := HM.out w1 HK1.out; clear hT hk1)
    | (go_at_call 91; refine (HC.out _ _ (HK.out.trans HK1.out (fun _ h => h.elim)) HT.out).mono ?_; rintro e w2 ⟨rfl, hk2⟩; have HK2 : Hid (Kept No w0 w2) := HK1.out.trans hk2 (fun _ h => h.elim); clear hk2))
  all_goals (try go_wp2)
  all_goals (go_ret; exact ⟨rfl, HK.out.trans HK2.out (fun _ h => h.elim)⟩)

set_option maxHeartbeats 4000000 in
theorem part6 (F : Nat → Prop) (cs : List Value) (a : Option Addr) (n c : Nat) (xs : List Bf) (w : World) (h : cs[20]? = some (.slice a n c)) (hL : Ls 2 elBf w F a n c xs) :
    Calls Tryz.prog 93 #[.agg cs.toArray] w fun e w' => e = .returned (fv (eachF (fun i => rowsF (fun j => if bBf (xs.getD i ⟨0, 0⟩) j then 0 else 106) 2) 1 n)) ∧ Kept No w w' := by
  have HK : Hid (Kept No w (w.alloc (.cells cs.toArray 59))) := (Kept.refl No w).alloc _
  have HC : Hid (∀ w' tb, Kept No w w' → Tb w' tb 2 rsBf → Calls Tryz.prog 94 #[.slice a n c, .int .i64 1, .slice (some ⟨tb, 0, none⟩) 2 2] w' fun e w'' => e = .returned (fv (eachF (fun i => rowsF (fun j => if bBf (xs.getD i ⟨0, 0⟩) j then 0 else 106) 2) 1 n)) ∧ Kept No w' w'') := fun w' tb hw hT => each_Bf F a n c xs tb w' (lsBf_keep hL hw) hT
  have HM : Hid (∀ w', Kept No (w.alloc (.cells cs.toArray 59)) w' → w'.cell? ⟨w.heap.size, 20, none⟩ = some (.slice a n c)) := fun w' k => k.cell (pn_cell w cs _ 20 _ h) (fun h => h)
  clear h hL
  generalize eachF (fun i => rowsF (fun j => if bBf (xs.getD i ⟨0, 0⟩) j then 0 else 106) 2) 1 n = z at *
  go_enter Tryz.func93, Tryz.ntmps93
  go_upto_region 1 with fail
  generalize w.alloc (.cells cs.toArray 59) = w0 at *
  generalize Value.agg cs.toArray = av at *
  have m0 := HM.out w0 (Kept.refl No w0)
  go_region_with (first
    | (go_at_call 95; refine (tableBf _).mono ?_; rintro e w1 ⟨tb, rfl, hT, hk1⟩; have HT : Hid (Tb w1 tb 2 rsBf) := hT; have HK1 : Hid (Kept No w0 w1) := (Kept.refl No w0).drew.trans hk1 (fun _ h => h.elim); have p0 := HM.out w1 HK1.out; clear hT hk1)
    | (go_at_call 94; refine (HC.out _ _ (HK.out.trans HK1.out (fun _ h => h.elim)) HT.out).mono ?_; rintro e w2 ⟨rfl, hk2⟩; have HK2 : Hid (Kept No w0 w2) := HK1.out.trans hk2 (fun _ h => h.elim); clear hk2))
  all_goals (try go_wp2)
  all_goals (go_ret; exact ⟨rfl, HK.out.trans HK2.out (fun _ h => h.elim)⟩)

end Go.Proofs.YtggejpccjmolhaaGreatDoor

namespace Go.Proofs.YtggejpccjmolhaaGreatDoor
open Go.RowKit
set_option linter.unusedVariables false
set_option linter.unusedSimpArgs false
set_option maxRecDepth 100000

theorem lsPrc_keep {w w' : World} {F : Nat → Prop} {a : Option Addr} {n c : Nat} {xs : List Prc} (h : Ls 6 elPrc w F a n c xs) (k : Kept No w w') : Ls 6 elPrc w' F a n c xs := h.kept k (fun _ _ h => h) (elPrc_kept k (fun _ _ h => h))

set_option maxHeartbeats 8000000 in
theorem part4 (F : Nat → Prop) (cs : List Value) (ca : Option Addr) (cn cc : Nat) (a : Option Addr) (n c : Nat) (xs : List Prc) (w : World) (hcn : cn ≤ 9223372036854775807) (h7 : cs[7]? = some (.slice ca cn cc)) (h8 : cs[8]? = some (.slice a n c)) (hL : Ls 6 elPrc w F a n c xs) :
    Calls Tryz.prog 87 #[.agg cs.toArray] w fun e w' => e = .returned (fv (eachF (fun i => rowsF (fun j => if bPrc cn (xs.getD i ⟨0, 0, 0, 0, 0, false⟩) j then 0 else 105) 6) 1 n)) ∧ Kept No w w' := by
  have HK : Hid (Kept No w (w.alloc (.cells cs.toArray 59))) := (Kept.refl No w).alloc _
  have HC : Hid (∀ w' g tb, Kept No w w' → w'.cell? ⟨g, 0, none⟩ = some (.int .i64 cn) → Tb w' tb 6 (rsPrc g) → Calls Tryz.prog 88 #[.slice a n c, .int .i64 1, .slice (some ⟨tb, 0, none⟩) 6 6] w' fun e w'' => e = .returned (fv (eachF (fun i => rowsF (fun j => if bPrc cn (xs.getD i ⟨0, 0, 0, 0, 0, false⟩) j then 0 else 105) 6) 1 n)) ∧ Kept No w' w'') := fun w' g tb hw hg hT => each_Prc F a n c xs tb g cn w' (lsPrc_keep hL hw) hg hT
  have HM : Hid (∀ w', Kept No (w.alloc (.cells cs.toArray 59)) w' → w'.cell? ⟨w.heap.size, 7, none⟩ = some (.slice ca cn cc) ∧ w'.cell? ⟨w.heap.size, 8, none⟩ = some (.slice a n c)) := fun w' k => ⟨k.cell (pn_cell w cs _ 7 _ h7) (fun h => h), k.cell (pn_cell w cs _ 8 _ h8) (fun h => h)⟩
  clear h7 h8 hL
  generalize eachF (fun i => rowsF (fun j => if bPrc cn (xs.getD i ⟨0, 0, 0, 0, 0, false⟩) j then 0 else 105) 6) 1 n = z at *
  go_enter Tryz.func87, Tryz.ntmps87
  go_upto_region 1 with fail
  generalize w.alloc (.cells cs.toArray 59) = w0 at *
  generalize Value.agg cs.toArray = av at *
  obtain ⟨m0, m1⟩ := HM.out w0 (Kept.refl No w0)
  go_region_with (first
    | (go_at_call 89; refine (tablePrc _ _).mono ?_; rintro e w1 ⟨g, tb, rfl, hT, hg, hk1⟩; have HT : Hid (Tb w1 tb 6 (rsPrc g)) := hT; have HGG : Hid (w1.cell? ⟨g, 0, none⟩ = some (.int .i64 cn)) := hg; have HK1 : Hid (Kept No w0 w1) := (Kept.refl No w0).drew.trans hk1 (fun _ h => h.elim); obtain ⟨p0, p1⟩ := HM.out w1 HK1.out; clear hT hk1 hg)
    | (go_at_call 88; refine (HC.out _ _ _ (HK.out.trans HK1.out (fun _ h => h.elim)) HGG.out HT.out).mono ?_; rintro e w2 ⟨rfl, hk2⟩; have HK2 : Hid (Kept No w0 w2) := HK1.out.trans hk2 (fun _ h => h.elim); clear hk2))
  all_goals (try go_wp2)
  all_goals (go_ret; exact ⟨rfl, HK.out.trans HK2.out (fun _ h => h.elim)⟩)
end Go.Proofs.YtggejpccjmolhaaGreatDoor

namespace Go.Proofs.YtggejpccjmolhaaGreatDoor
open Go.RowKit
set_option linter.unusedVariables false
set_option linter.unusedSimpArgs false
set_option maxRecDepth 100000

def hanF (ha : Int) (xs : List Prc) (n : Nat) : Bool :=
  if ha = 0 then true else if inB ha 1 n then ((xs.getD (ha.toNat - 1) ⟨0, 0, 0, 0, 0, false⟩).pe == 0 && ((xs.getD (ha.toNat - 1) ⟨0, 0, 0, 0, 0, false⟩).li == 0 && !(xs.getD (ha.toNat - 1) ⟨0, 0, 0, 0, 0, false⟩).auto)) else false

set_option maxHeartbeats 4000000 in
theorem hasHandler_any (F : Nat → Prop) (cs : List Value) (ha : Int) (a : Option Addr) (n c : Nat) (xs : List Prc) (w : World) (h9 : cs[9]? = some (.int .i64 ha)) (h8 : cs[8]? = some (.slice a n c)) (hL : Ls 6 elPrc w F a n c xs) :
    Calls Tryz.prog 98 #[.agg cs.toArray] w fun e w' => e = .returned (.bool (hanF ha xs n)) ∧ Kept No w w' := by
  have hn : n ≤ 9223372036854775807 := Nat.le_trans hL.cap hL.max
  have HK : Hid (Kept No w (w.alloc (.cells cs.toArray 59))) := (Kept.refl No w).alloc _
  have d9 := pn_cell w cs 59 9 _ h9
  have d8 := pn_cell w cs 59 8 _ h8
  by_cases hz : ha = 0
  · rw [show hanF ha xs n = true by unfold hanF; rw [if_pos hz]]
    subst hz
    clear h8 h9 hL
    go_enter Tryz.func98, Tryz.ntmps98
    go_wp2
    go_ret
    exact ⟨rfl, HK.out⟩
  have q := within_any ha 1 n
  cases hb : inB ha 1 n
  · rw [show hanF ha xs n = false by unfold hanF; rw [if_neg hz, hb]; rfl]
    rw [hb] at q
    clear h8 h9 hL hb
    go_enter Tryz.func98, Tryz.ntmps98
    go_wp2_with (go_at_call 75; refine (q _).mono ?_; rintro e w' ⟨rfl, rfl⟩)
    go_ret
    exact ⟨rfl, HK.out⟩
  · have hr : 1 ≤ ha ∧ ha ≤ n := by simp [inB] at hb; exact hb
    obtain ⟨k, hk⟩ : ∃ k : Nat, ha = k + 1 := ⟨(ha - 1).toNat, by omega⟩
    subst hk
    have hkn : k < n := by omega
    have hx : xs[k]? = some (xs.getD k ⟨0, 0, 0, 0, 0, false⟩) := by rw [List.getD, List.getElem?_eq_getElem (by rw [hL.len]; exact hkn)]; rfl
    obtain ⟨b, o, ds, rfl, hb2, hl, hrg, hE⟩ := hL.at' k _ hx
    have hds := hE.1
    have hHan : hanF ((k : Int) + 1) xs n = ((xs.getD k ⟨0, 0, 0, 0, 0, false⟩).pe == 0 && ((xs.getD k ⟨0, 0, 0, 0, 0, false⟩).li == 0 && !(xs.getD k ⟨0, 0, 0, 0, 0, false⟩).auto)) := by
      unfold hanF
      rw [if_neg hz, hb, show ((k : Int) + 1).toNat - 1 = k by omega]
      rfl
    rw [hHan]
    rw [hb] at q
    subst hds
    have kk := HK.out
    have r0 := kk.cell (hrg 0 _ rfl) (fun h => h)
    have r1 := kk.cell (hrg 1 _ rfl) (fun h => h)
    have r2 := kk.cell (hrg 2 _ rfl) (fun h => h)
    have r3 := kk.cell (hrg 3 _ rfl) (fun h => h)
    have r4 := kk.cell (hrg 4 _ rfl) (fun h => h)
    have r5 := kk.cell (hrg 5 _ rfl) (fun h => h)
    rw [Nat.add_zero] at r0
    clear h8 h9 hL hb hx hE hl hrg hHan kk hz
    generalize xs.getD k ⟨0, 0, 0, 0, 0, false⟩ = y at *
    obtain ⟨en, pr, pe, li, ca, auto⟩ := y
    simp only at r0 r1 r2 r3 r4 r5
    have HK2 : Hid (∀ o, Kept No w ((w.alloc (.cells cs.toArray 59)).alloc o)) := fun o => HK.out.alloc o
    cases h1 : (pe == 0)
    · go_enter Tryz.func98, Tryz.ntmps98
      go_wp2_with (go_at_call 75; refine (q _).mono ?_; rintro e w' ⟨rfl, rfl⟩)
      go_ret
      exact ⟨rfl, HK2.out _⟩
    cases h2 : (li == 0)
    · go_enter Tryz.func98, Tryz.ntmps98
      go_wp2_with (go_at_call 75; refine (q _).mono ?_; rintro e w' ⟨rfl, rfl⟩)
      go_ret
      exact ⟨rfl, HK2.out _⟩
    · go_enter Tryz.func98, Tryz.ntmps98
      go_wp2_with (go_at_call 75; refine (q _).mono ?_; rintro e w' ⟨rfl, rfl⟩)
      go_ret
      exact ⟨rfl, HK2.out _⟩
end Go.Proofs.YtggejpccjmolhaaGreatDoor
