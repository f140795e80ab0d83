/-
  One text: CObj, CPrt.
-/
import Derived.Test.YtnmhcnppdhdhfaaGreatDoorG03
import Derived.Test.YtnmhcnppdhdhfaaGreatDoorG11
import Derived.Test.YtnmhcnppdhdhfaaGreatDoorG17
import Derived.Test.YtnmhcnppdhdhfaaGreatDoorG18
import Derived.Test.YtnmhcnppdhdhfaaGreatDoorG19
namespace Go.Proofs.YtnmhcnppdhdhfaaGreatDoor
open Go.RowKit
set_option linter.unusedVariables false
set_option linter.unusedSimpArgs false
set_option maxRecDepth 100000

theorem sem1 (st mx : Int) (w : World) : Calls Tryz.prog 181 #[.agg #[.int .i64 st, .int .i64 mx]] w fun e w' => e = .returned (.bool (inB mx 1 2147483647)) ∧ Kept No w w' := by
  have HK : Hid (Kept No w (w.alloc (.cells #[.int .i64 st, .int .i64 mx] 195))) := (Kept.refl No w).alloc _
  go_enter Tryz.func181, Tryz.ntmps181
  go_wp2_with (go_at_call 106; refine (within_any _ _ _ _).mono ?_; rintro e w' ⟨rfl, rfl⟩)
  go_ret
  exact ⟨rfl, HK.out⟩
theorem sem2 (st mx : Int) (w : World) : Calls Tryz.prog 182 #[.agg #[.int .i64 st, .int .i64 mx]] w fun e w' => e = .returned (.bool (inB st 0 mx)) ∧ Kept No w w' := by
  have HK : Hid (Kept No w (w.alloc (.cells #[.int .i64 st, .int .i64 mx] 195))) := (Kept.refl No w).alloc _
  go_enter Tryz.func182, Tryz.ntmps182
  go_wp2_with (go_at_call 106; refine (within_any _ _ _ _).mono ?_; rintro e w' ⟨rfl, rfl⟩)
  go_ret
  exact ⟨rfl, HK.out⟩
theorem buf1 (sz dp : Int) (w : World) : Calls Tryz.prog 184 #[.agg #[.int .i64 sz, .int .i64 dp]] w fun e w' => e = .returned (.bool (inB sz 1 16)) ∧ Kept No w w' := by
  have HK : Hid (Kept No w (w.alloc (.cells #[.int .i64 sz, .int .i64 dp] 200))) := (Kept.refl No w).alloc _
  go_enter Tryz.func184, Tryz.ntmps184
  go_wp2_with (go_at_call 106; refine (within_any _ _ _ _).mono ?_; rintro e w' ⟨rfl, rfl⟩)
  go_ret
  exact ⟨rfl, HK.out⟩
theorem buf2 (sz dp : Int) (w : World) : Calls Tryz.prog 185 #[.agg #[.int .i64 sz, .int .i64 dp]] w fun e w' => e = .returned (.bool (inB dp 1 64)) ∧ Kept No w w' := by
  have HK : Hid (Kept No w (w.alloc (.cells #[.int .i64 sz, .int .i64 dp] 200))) := (Kept.refl No w).alloc _
  go_enter Tryz.func185, Tryz.ntmps185
  go_wp2_with (go_at_call 106; refine (within_any _ _ _ _).mono ?_; rintro e w' ⟨rfl, rfl⟩)
  go_ret
  exact ⟨rfl, HK.out⟩
theorem proc2 (en pr pe li ca : Int) (auto : Bool) (w : World) : Calls Tryz.prog 175 #[.agg #[.int .i64 en, .int .i64 pr, .int .i64 pe, .int .i64 li, .int .i64 ca, .bool auto]] w fun e w' => e = .returned (.bool (inB pr 0 255)) ∧ Kept No w w' := by
  have HK : Hid (Kept No w (w.alloc (.cells #[.int .i64 en, .int .i64 pr, .int .i64 pe, .int .i64 li, .int .i64 ca, .bool auto] 54))) := (Kept.refl No w).alloc _
  go_enter Tryz.func175, Tryz.ntmps175
  go_wp2_with (go_at_call 106; refine (within_any _ _ _ _).mono ?_; rintro e w' ⟨rfl, rfl⟩)
  go_ret
  exact ⟨rfl, HK.out⟩
theorem proc3 (en pr pe li ca : Int) (auto : Bool) (w : World) : Calls Tryz.prog 176 #[.agg #[.int .i64 en, .int .i64 pr, .int .i64 pe, .int .i64 li, .int .i64 ca, .bool auto]] w fun e w' => e = .returned (.bool (inB pe 0 1099511627775)) ∧ Kept No w w' := by
  have HK : Hid (Kept No w (w.alloc (.cells #[.int .i64 en, .int .i64 pr, .int .i64 pe, .int .i64 li, .int .i64 ca, .bool auto] 54))) := (Kept.refl No w).alloc _
  go_enter Tryz.func176, Tryz.ntmps176
  go_wp2_with (go_at_call 106; refine (within_any _ _ _ _).mono ?_; rintro e w' ⟨rfl, rfl⟩)
  go_ret
  exact ⟨rfl, HK.out⟩
theorem proc4 (en pr pe li ca : Int) (auto : Bool) (w : World) : Calls Tryz.prog 177 #[.agg #[.int .i64 en, .int .i64 pr, .int .i64 pe, .int .i64 li, .int .i64 ca, .bool auto]] w fun e w' => e = .returned (.bool (inB li 0 1099511627775)) ∧ Kept No w w' := by
  have HK : Hid (Kept No w (w.alloc (.cells #[.int .i64 en, .int .i64 pr, .int .i64 pe, .int .i64 li, .int .i64 ca, .bool auto] 54))) := (Kept.refl No w).alloc _
  go_enter Tryz.func177, Tryz.ntmps177
  go_wp2_with (go_at_call 106; refine (within_any _ _ _ _).mono ?_; rintro e w' ⟨rfl, rfl⟩)
  go_ret
  exact ⟨rfl, HK.out⟩
theorem proc6 (en pr pe li ca : Int) (auto : Bool) (w : World) : Calls Tryz.prog 179 #[.agg #[.int .i64 en, .int .i64 pr, .int .i64 pe, .int .i64 li, .int .i64 ca, .bool auto]] w fun e w' => e = .returned (.bool (inB ca 0 2147483647)) ∧ Kept No w w' := by
  have HK : Hid (Kept No w (w.alloc (.cells #[.int .i64 en, .int .i64 pr, .int .i64 pe, .int .i64 li, .int .i64 ca, .bool auto] 54))) := (Kept.refl No w).alloc _
  go_enter Tryz.func179, Tryz.ntmps179
  go_wp2_with (go_at_call 106; refine (within_any _ _ _ _).mono ?_; rintro e w' ⟨rfl, rfl⟩)
  go_ret
  exact ⟨rfl, HK.out⟩
theorem port3 (pt kd : Int) (out : Bool) (sz dp rf : Int) (w : World) : Calls Tryz.prog 131 #[.agg #[.int .i64 pt, .int .i64 kd, .bool out, .int .i64 sz, .int .i64 dp, .int .i64 rf]] w fun e w' => e = .returned (.bool (inB sz 1 16)) ∧ Kept No w w' := by
  have HK : Hid (Kept No w (w.alloc (.cells #[.int .i64 pt, .int .i64 kd, .bool out, .int .i64 sz, .int .i64 dp, .int .i64 rf] 138))) := (Kept.refl No w).alloc _
  go_enter Tryz.func131, Tryz.ntmps131
  go_wp2_with (go_at_call 106; refine (within_any _ _ _ _).mono ?_; rintro e w' ⟨rfl, rfl⟩)
  go_ret
  exact ⟨rfl, HK.out⟩
theorem proc1 (en pr pe li ca : Int) (auto : Bool) (g : Nat) (cl : Int) (w : World) (h : w.cell? ⟨g, 0, none⟩ = some (.int .i64 cl)) : Calls Tryz.prog 174 #[.agg #[.int .i64 en, .int .i64 pr, .int .i64 pe, .int .i64 li, .int .i64 ca, .bool auto], .pointer (some ⟨g, 0, none⟩)] w fun e w' => e = .returned (.bool (inB en 0 (wrap64 (cl - 1)))) ∧ Kept No w w' := by
  have HK : Hid (Kept No w (w.alloc (.cells #[.int .i64 en, .int .i64 pr, .int .i64 pe, .int .i64 li, .int .i64 ca, .bool auto] 54))) := (Kept.refl No w).alloc _
  have h' := HK.out.cell h (fun h => h)
  clear h
  go_enter Tryz.func174, Tryz.ntmps174
  go_wp2_with (go_at_call 106; refine (within_any _ _ _ _).mono ?_; rintro e w' ⟨rfl, rfl⟩)
  go_ret
  exact ⟨rfl, HK.out⟩
theorem proc5 (en pr pe li ca : Int) (auto : Bool) (w : World) : Calls Tryz.prog 178 #[.agg #[.int .i64 en, .int .i64 pr, .int .i64 pe, .int .i64 li, .int .i64 ca, .bool auto]] w fun e w' => e = .returned (.bool (pe == 0 || decide (li ≤ pe))) ∧ Kept No w w' := by
  have HK : Hid (Kept No w (w.alloc (.cells #[.int .i64 en, .int .i64 pr, .int .i64 pe, .int .i64 li, .int .i64 ca, .bool auto] 54))) := (Kept.refl No w).alloc _
  by_cases h : pe = 0
  · subst h
    go_enter Tryz.func178, Tryz.ntmps178
    go_wp2
    go_ret
    exact ⟨rfl, HK.out⟩
  · go_enter Tryz.func178, Tryz.ntmps178
    go_wp2
    go_ret
    exact ⟨rfl, HK.out⟩
theorem port1 (pt kd : Int) (out : Bool) (sz dp rf : Int) (g : Nat) (cl : Int) (w : World) (h : w.cell? ⟨g, 0, none⟩ = some (.int .i64 cl)) : Calls Tryz.prog 128 #[.agg #[.int .i64 pt, .int .i64 kd, .bool out, .int .i64 sz, .int .i64 dp, .int .i64 rf], .pointer (some ⟨g, 0, none⟩)] w fun e w' => e = .returned (.bool (inB pt 1 cl)) ∧ Kept No w w' := by
  have HK : Hid (Kept No w (w.alloc (.cells #[.int .i64 pt, .int .i64 kd, .bool out, .int .i64 sz, .int .i64 dp, .int .i64 rf] 138))) := (Kept.refl No w).alloc _
  have h' := HK.out.cell h (fun h => h)
  clear h
  go_enter Tryz.func128, Tryz.ntmps128
  go_wp2_with (go_at_call 106; refine (within_any _ _ _ _).mono ?_; rintro e w' ⟨rfl, rfl⟩)
  go_ret
  exact ⟨rfl, HK.out⟩
theorem isKind_any (kd : Int) (w : World) : Calls Tryz.prog 130 #[.int .i64 kd] w fun e w' => e = .returned (.bool (kd == 0 || kd == 1)) ∧ w' = w := by
  by_cases h : kd = 0
  · subst h
    go_enter Tryz.func130, Tryz.ntmps130
    go_wp2
    go_ret
    exact ⟨rfl, rfl⟩
  · go_enter Tryz.func130, Tryz.ntmps130
    go_wp2
    go_ret
    exact ⟨rfl, rfl⟩
theorem port2 (pt kd : Int) (out : Bool) (sz dp rf : Int) (w : World) : Calls Tryz.prog 129 #[.agg #[.int .i64 pt, .int .i64 kd, .bool out, .int .i64 sz, .int .i64 dp, .int .i64 rf]] w fun e w' => e = .returned (.bool (kd == 0 || kd == 1)) ∧ Kept No w w' := by
  have HK : Hid (Kept No w (w.alloc (.cells #[.int .i64 pt, .int .i64 kd, .bool out, .int .i64 sz, .int .i64 dp, .int .i64 rf] 138))) := (Kept.refl No w).alloc _
  have hc := fun w => isKind_any kd w
  generalize (kd == 0 || kd == 1) = z at *
  go_enter Tryz.func129, Tryz.ntmps129
  go_wp2_with (go_at_call 130; refine (hc _).mono ?_; rintro e w' ⟨rfl, rfl⟩)
  go_ret
  exact ⟨rfl, HK.out⟩
theorem port4 (pt kd : Int) (out : Bool) (sz dp rf : Int) (w : World) : Calls Tryz.prog 132 #[.agg #[.int .i64 pt, .int .i64 kd, .bool out, .int .i64 sz, .int .i64 dp, .int .i64 rf]] w fun e w' => e = .returned (.bool (if kd = 1 then inB dp 1 64 else decide (dp = 0))) ∧ Kept No w w' := by
  have HK : Hid (Kept No w (w.alloc (.cells #[.int .i64 pt, .int .i64 kd, .bool out, .int .i64 sz, .int .i64 dp, .int .i64 rf] 138))) := (Kept.refl No w).alloc _
  by_cases h : kd = 1
  · rw [if_pos h]
    subst h
    go_enter Tryz.func132, Tryz.ntmps132
    go_wp2_with (go_at_call 106; refine (within_any _ _ _ _).mono ?_; rintro e w' ⟨rfl, rfl⟩)
    go_ret
    exact ⟨rfl, HK.out⟩
  · rw [if_neg h]
    go_enter Tryz.func132, Tryz.ntmps132
    go_wp2
    go_ret
    exact ⟨rfl, HK.out⟩
theorem port5 (pt kd : Int) (out : Bool) (sz dp rf : Int) (w : World) : Calls Tryz.prog 133 #[.agg #[.int .i64 pt, .int .i64 kd, .bool out, .int .i64 sz, .int .i64 dp, .int .i64 rf]] w fun e w' => e = .returned (.bool (if kd = 0 ∧ out = false then inB rf 0 1099511627775 else decide (rf = 0))) ∧ Kept No w w' := by
  have HK : Hid (Kept No w (w.alloc (.cells #[.int .i64 pt, .int .i64 kd, .bool out, .int .i64 sz, .int .i64 dp, .int .i64 rf] 138))) := (Kept.refl No w).alloc _
  by_cases h : kd = 0
  · cases out
    · rw [if_pos ⟨h, rfl⟩]
      subst h
      go_enter Tryz.func133, Tryz.ntmps133
      go_wp2_with (go_at_call 106; refine (within_any _ _ _ _).mono ?_; rintro e w' ⟨rfl, rfl⟩)
      go_ret
      exact ⟨rfl, HK.out⟩
    · rw [if_neg (fun h => by cases h.2)]
      subst h
      go_enter Tryz.func133, Tryz.ntmps133
      go_wp2
      go_ret
      exact ⟨rfl, HK.out⟩
  · rw [if_neg (fun h2 => h h2.1)]
    go_enter Tryz.func133, Tryz.ntmps133
    go_wp2
    go_ret
    exact ⟨rfl, HK.out⟩
def rsSm  : Nat → Rw
  | 0 => ⟨106, .func (.func 181) #[] #[], .nilFunc, .nilFunc, rfl, rfl, rfl⟩
  | _ => ⟨106, .func (.func 182) #[] #[], .nilFunc, .nilFunc, rfl, rfl, rfl⟩
theorem tableSm (w : World) : Calls Tryz.prog 120 #[] w fun e w' => ∃ tb, e = .returned (.slice (some ⟨tb, 0, none⟩) 2 2) ∧ Tb w' tb 2 (rsSm) ∧ Kept No w w' := by
  have HK : Hid (∀ o o', Kept No w (w.alloc o) ∧ Kept No w ((w.alloc o').alloc o)) := fun o o' => ⟨(Kept.refl No w).alloc o, ((Kept.refl No w).alloc o').alloc o⟩
  have hmf : ∀ (fn : Fn) (first cap : Array Value) (w : World), (Instr.makeFunc fn first cap).run Tryz.prog w = .ok (.func fn first cap) w := fun _ _ _ _ => rfl
  go_enter Tryz.func120, Tryz.ntmps120
  go_wp2
  go_ret
  refine ⟨_, rfl, ?_, (HK.out _ (.cells #[] 0)).1⟩
  intro j hj
  match j, hj with
  | 0, _ => exact ⟨by simp [rsSm], by simp [rsSm], by simp [rsSm], by simp [rsSm]⟩
  | 1, _ => exact ⟨by simp [rsSm], by simp [rsSm], by simp [rsSm], by simp [rsSm]⟩
def rsBf  : Nat → Rw
  | 0 => ⟨106, .func (.func 184) #[] #[], .nilFunc, .nilFunc, rfl, rfl, rfl⟩
  | _ => ⟨106, .func (.func 185) #[] #[], .nilFunc, .nilFunc, rfl, rfl, rfl⟩
theorem tableBf (w : World) : Calls Tryz.prog 123 #[] w fun e w' => ∃ tb, e = .returned (.slice (some ⟨tb, 0, none⟩) 2 2) ∧ Tb w' tb 2 (rsBf) ∧ Kept No w w' := by
  have HK : Hid (∀ o o', Kept No w (w.alloc o) ∧ Kept No w ((w.alloc o').alloc o)) := fun o o' => ⟨(Kept.refl No w).alloc o, ((Kept.refl No w).alloc o').alloc o⟩
  have hmf : ∀ (fn : Fn) (first cap : Array Value) (w : World), (Instr.makeFunc fn first cap).run Tryz.prog w = .ok (.func fn first cap) w := fun _ _ _ _ => rfl
  go_enter Tryz.func123, Tryz.ntmps123
  go_wp2
  go_ret
  refine ⟨_, rfl, ?_, (HK.out _ (.cells #[] 0)).1⟩
  intro j hj
  match j, hj with
  | 0, _ => exact ⟨by simp [rsBf], by simp [rsBf], by simp [rsBf], by simp [rsBf]⟩
  | 1, _ => exact ⟨by simp [rsBf], by simp [rsBf], by simp [rsBf], by simp [rsBf]⟩
def rsPrc (g : Nat) : Nat → Rw
  | 0 => ⟨105, .func (.func 174) #[] #[.pointer (some ⟨g, 0, none⟩)], .nilFunc, .nilFunc, rfl, rfl, rfl⟩
  | 1 => ⟨105, .func (.func 175) #[] #[], .nilFunc, .nilFunc, rfl, rfl, rfl⟩
  | 2 => ⟨105, .func (.func 176) #[] #[], .nilFunc, .nilFunc, rfl, rfl, rfl⟩
  | 3 => ⟨105, .func (.func 177) #[] #[], .nilFunc, .nilFunc, rfl, rfl, rfl⟩
  | 4 => ⟨105, .func (.func 178) #[] #[], .nilFunc, .nilFunc, rfl, rfl, rfl⟩
  | _ => ⟨105, .func (.func 179) #[] #[], .nilFunc, .nilFunc, rfl, rfl, rfl⟩
theorem tablePrc (cl : Int) (w : World) : Calls Tryz.prog 117 #[.int .i64 cl] w fun e w' => ∃ g tb, e = .returned (.slice (some ⟨tb, 0, none⟩) 6 6) ∧ Tb w' tb 6 (rsPrc g) ∧ w'.cell? ⟨g, 0, none⟩ = some (.int .i64 cl) ∧ Kept No w w' := by
  have HK : Hid (∀ o o', Kept No w (w.alloc o) ∧ Kept No w ((w.alloc o').alloc o)) := fun o o' => ⟨(Kept.refl No w).alloc o, ((Kept.refl No w).alloc o').alloc o⟩
  have hmf : ∀ (fn : Fn) (first cap : Array Value) (w : World), (Instr.makeFunc fn first cap).run Tryz.prog w = .ok (.func fn first cap) w := fun _ _ _ _ => rfl
  go_enter Tryz.func117, Tryz.ntmps117
  go_wp2
  go_ret
  refine ⟨w.heap.size, w.heap.size + 1, rfl, ?_, by simp, (HK.out _ _).2⟩
  intro j hj
  match j, hj with
  | 0, _ => exact ⟨by simp [rsPrc], by simp [rsPrc], by simp [rsPrc], by simp [rsPrc]⟩
  | 1, _ => exact ⟨by simp [rsPrc], by simp [rsPrc], by simp [rsPrc], by simp [rsPrc]⟩
  | 2, _ => exact ⟨by simp [rsPrc], by simp [rsPrc], by simp [rsPrc], by simp [rsPrc]⟩
  | 3, _ => exact ⟨by simp [rsPrc], by simp [rsPrc], by simp [rsPrc], by simp [rsPrc]⟩
  | 4, _ => exact ⟨by simp [rsPrc], by simp [rsPrc], by simp [rsPrc], by simp [rsPrc]⟩
  | 5, _ => exact ⟨by simp [rsPrc], by simp [rsPrc], by simp [rsPrc], by simp [rsPrc]⟩
def rsPo (g : Nat) : Nat → Rw
  | 0 => ⟨107, .func (.func 128) #[] #[.pointer (some ⟨g, 0, none⟩)], .nilFunc, .nilFunc, rfl, rfl, rfl⟩
  | 1 => ⟨107, .func (.func 129) #[] #[], .nilFunc, .nilFunc, rfl, rfl, rfl⟩
  | 2 => ⟨107, .func (.func 131) #[] #[], .nilFunc, .nilFunc, rfl, rfl, rfl⟩
  | 3 => ⟨107, .func (.func 132) #[] #[], .nilFunc, .nilFunc, rfl, rfl, rfl⟩
  | _ => ⟨107, .func (.func 133) #[] #[], .nilFunc, .nilFunc, rfl, rfl, rfl⟩
theorem tablePo (cl : Int) (w : World) : Calls Tryz.prog 75 #[.int .i64 cl] w fun e w' => ∃ g tb, e = .returned (.slice (some ⟨tb, 0, none⟩) 5 5) ∧ Tb w' tb 5 (rsPo g) ∧ w'.cell? ⟨g, 0, none⟩ = some (.int .i64 cl) ∧ Kept No w w' := by
  have HK : Hid (∀ o o', Kept No w (w.alloc o) ∧ Kept No w ((w.alloc o').alloc o)) := fun o o' => ⟨(Kept.refl No w).alloc o, ((Kept.refl No w).alloc o').alloc o⟩
  have hmf : ∀ (fn : Fn) (first cap : Array Value) (w : World), (Instr.makeFunc fn first cap).run Tryz.prog w = .ok (.func fn first cap) w := fun _ _ _ _ => rfl
  go_enter Tryz.func75, Tryz.ntmps75
  go_wp2
  go_ret
  refine ⟨w.heap.size, w.heap.size + 1, rfl, ?_, by simp, (HK.out _ _).2⟩
  intro j hj
  match j, hj with
  | 0, _ => exact ⟨by simp [rsPo], by simp [rsPo], by simp [rsPo], by simp [rsPo]⟩
  | 1, _ => exact ⟨by simp [rsPo], by simp [rsPo], by simp [rsPo], by simp [rsPo]⟩
  | 2, _ => exact ⟨by simp [rsPo], by simp [rsPo], by simp [rsPo], by simp [rsPo]⟩
  | 3, _ => exact ⟨by simp [rsPo], by simp [rsPo], by simp [rsPo], by simp [rsPo]⟩
  | 4, _ => exact ⟨by simp [rsPo], by simp [rsPo], by simp [rsPo], by simp [rsPo]⟩
def bSm (x : Sm) : Nat → Bool
  | 0 => inB x.mx 1 2147483647
  | _ => inB x.st 0 x.mx
theorem each_Sm (F : Nat → Prop) (a : Option Addr) (n c : Nat) (xs : List Sm) (tb : Nat) (w : World) (h : Ls 2 elSm w F a n c xs) (hT : Tb w tb 2 (rsSm)) :
    Calls Tryz.prog 119 #[.slice a n c, .int .i64 1, .slice (some ⟨tb, 0, none⟩) 2 2] w fun e w' => e = .returned (fv (eachF (fun i => rowsF (fun j => if bSm (xs.getD i ⟨0, 0⟩) j then 0 else 106) 2) 1 n)) ∧ Kept No w w' := by
  obtain ⟨d, hd⟩ : ∃ d : Sm, d = ⟨0, 0⟩ := ⟨_, rfl⟩
  rw [← hd]
  refine eachSm 1 a n c (fun i => .int .i64 (xs.getD i d).st) (fun i => .int .i64 (xs.getD i d).mx) tb 2 2 (rsSm) (fun i j => if bSm (xs.getD i d) j then 0 else 106) w h.cap h.max ?_ ?_ (by omega) hT (by omega) (by omega) ?_
  · intro i hi
    have hx : xs[i]? = some (xs.getD i d) := by rw [List.getD, List.getElem?_eq_getElem (by rw [h.len]; exact hi)]; rfl
    obtain ⟨b, o, cs, e, hb, hl, hr, hE⟩ := h.at' i _ hx
    have he := hE.1
    subst he
    exact ⟨b, o, e, hr 0 _ rfl, hr 1 _ rfl⟩
  · intro i hi
    exact ⟨rfl, rfl⟩
  · intro i j w' hi hj hw
    match j, hj with
    | 0, _ => exact findsSm_alone 106 _ #[] _ _ a i c w' (enters_of Tryz.func181 (by kernel_rfl) rfl) _ (fun w2 _ => sem1 _ _ w2)
    | 1, _ => exact findsSm_alone 106 _ #[] _ _ a i c w' (enters_of Tryz.func182 (by kernel_rfl) rfl) _ (fun w2 _ => sem2 _ _ w2)
def bBf (x : Bf) : Nat → Bool
  | 0 => inB x.sz 1 16
  | _ => inB x.dp 1 64
theorem each_Bf (F : Nat → Prop) (a : Option Addr) (n c : Nat) (xs : List Bf) (tb : Nat) (w : World) (h : Ls 2 elBf w F a n c xs) (hT : Tb w tb 2 (rsBf)) :
    Calls Tryz.prog 122 #[.slice a n c, .int .i64 1, .slice (some ⟨tb, 0, none⟩) 2 2] w fun e w' => e = .returned (fv (eachF (fun i => rowsF (fun j => if bBf (xs.getD i ⟨0, 0⟩) j then 0 else 106) 2) 1 n)) ∧ Kept No w w' := by
  obtain ⟨d, hd⟩ : ∃ d : Bf, d = ⟨0, 0⟩ := ⟨_, rfl⟩
  rw [← hd]
  refine eachBf 1 a n c (fun i => .int .i64 (xs.getD i d).sz) (fun i => .int .i64 (xs.getD i d).dp) tb 2 2 (rsBf) (fun i j => if bBf (xs.getD i d) j then 0 else 106) w h.cap h.max ?_ ?_ (by omega) hT (by omega) (by omega) ?_
  · intro i hi
    have hx : xs[i]? = some (xs.getD i d) := by rw [List.getD, List.getElem?_eq_getElem (by rw [h.len]; exact hi)]; rfl
    obtain ⟨b, o, cs, e, hb, hl, hr, hE⟩ := h.at' i _ hx
    have he := hE.1
    subst he
    exact ⟨b, o, e, hr 0 _ rfl, hr 1 _ rfl⟩
  · intro i hi
    exact ⟨rfl, rfl⟩
  · intro i j w' hi hj hw
    match j, hj with
    | 0, _ => exact findsBf_alone 106 _ #[] _ _ a i c w' (enters_of Tryz.func184 (by kernel_rfl) rfl) _ (fun w2 _ => buf1 _ _ w2)
    | 1, _ => exact findsBf_alone 106 _ #[] _ _ a i c w' (enters_of Tryz.func185 (by kernel_rfl) rfl) _ (fun w2 _ => buf2 _ _ w2)
def bPrc (cl : Int) (x : Prc) : Nat → Bool
  | 0 => inB x.en 0 (wrap64 (cl - 1))
  | 1 => inB x.pr 0 255
  | 2 => inB x.pe 0 1099511627775
  | 3 => inB x.li 0 1099511627775
  | 4 => x.pe == 0 || decide (x.li ≤ x.pe)
  | _ => inB x.ca 0 2147483647
theorem each_Prc (F : Nat → Prop) (a : Option Addr) (n c : Nat) (xs : List Prc) (tb : Nat) (g : Nat) (cl : Int) (w : World) (h : Ls 6 elPrc w F a n c xs) (hg : w.cell? ⟨g, 0, none⟩ = some (.int .i64 cl)) (hT : Tb w tb 6 (rsPrc g)) :
    Calls Tryz.prog 116 #[.slice a n c, .int .i64 1, .slice (some ⟨tb, 0, none⟩) 6 6] w fun e w' => e = .returned (fv (eachF (fun i => rowsF (fun j => if bPrc cl (xs.getD i ⟨0, 0, 0, 0, 0, false⟩) j then 0 else 105) 6) 1 n)) ∧ Kept No w w' := by
  obtain ⟨d, hd⟩ : ∃ d : Prc, d = ⟨0, 0, 0, 0, 0, false⟩ := ⟨_, rfl⟩
  rw [← hd]
  refine eachPrc 1 a n c (fun i => .int .i64 (xs.getD i d).en) (fun i => .int .i64 (xs.getD i d).pr) (fun i => .int .i64 (xs.getD i d).pe) (fun i => .int .i64 (xs.getD i d).li) (fun i => .int .i64 (xs.getD i d).ca) (fun i => .bool (xs.getD i d).auto) tb 6 6 (rsPrc g) (fun i j => if bPrc cl (xs.getD i d) j then 0 else 105) w h.cap h.max ?_ ?_ (by omega) hT (by omega) (by omega) ?_
  · intro i hi
    have hx : xs[i]? = some (xs.getD i d) := by rw [List.getD, List.getElem?_eq_getElem (by rw [h.len]; exact hi)]; rfl
    obtain ⟨b, o, cs, e, hb, hl, hr, hE⟩ := h.at' i _ hx
    have he := hE.1
    subst he
    exact ⟨b, o, e, hr 0 _ rfl, hr 1 _ rfl, hr 2 _ rfl, hr 3 _ rfl, hr 4 _ rfl, hr 5 _ rfl⟩
  · intro i hi
    exact ⟨rfl, rfl, rfl, rfl, rfl, rfl⟩
  · intro i j w' hi hj hw
    match j, hj with
    | 0, _ => exact findsPrc_alone 105 _ #[.pointer (some ⟨g, 0, none⟩)] _ _ _ _ _ _ a i c w' (enters_of Tryz.func174 (by kernel_rfl) rfl) _ (fun w2 hw2 => proc1 _ _ _ _ _ _ g cl w2 (hw2.cell (hw.cell hg (fun h => h)) (fun h => h)))
    | 1, _ => exact findsPrc_alone 105 _ #[] _ _ _ _ _ _ a i c w' (enters_of Tryz.func175 (by kernel_rfl) rfl) _ (fun w2 _ => proc2 _ _ _ _ _ _ w2)
    | 2, _ => exact findsPrc_alone 105 _ #[] _ _ _ _ _ _ a i c w' (enters_of Tryz.func176 (by kernel_rfl) rfl) _ (fun w2 _ => proc3 _ _ _ _ _ _ w2)
    | 3, _ => exact findsPrc_alone 105 _ #[] _ _ _ _ _ _ a i c w' (enters_of Tryz.func177 (by kernel_rfl) rfl) _ (fun w2 _ => proc4 _ _ _ _ _ _ w2)
    | 4, _ => exact findsPrc_alone 105 _ #[] _ _ _ _ _ _ a i c w' (enters_of Tryz.func178 (by kernel_rfl) rfl) _ (fun w2 _ => proc5 _ _ _ _ _ _ w2)
    | 5, _ => exact findsPrc_alone 105 _ #[] _ _ _ _ _ _ a i c w' (enters_of Tryz.func179 (by kernel_rfl) rfl) _ (fun w2 _ => proc6 _ _ _ _ _ _ w2)
def bPo (cl : Int) (x : Po) : Nat → Bool
  | 0 => inB x.pt 1 cl
  | 1 => x.kd == 0 || x.kd == 1
  | 2 => inB x.sz 1 16
  | 3 => if x.kd = 1 then inB x.dp 1 64 else decide (x.dp = 0)
  | _ => if x.kd = 0 ∧ x.out = false then inB x.rf 0 1099511627775 else decide (x.rf = 0)
theorem each_Po (F : Nat → Prop) (a : Option Addr) (n c : Nat) (xs : List Po) (tb : Nat) (g : Nat) (cl : Int) (w : World) (h : Ls 6 elPo w F a n c xs) (hg : w.cell? ⟨g, 0, none⟩ = some (.int .i64 cl)) (hT : Tb w tb 5 (rsPo g)) :
    Calls Tryz.prog 74 #[.slice a n c, .int .i64 1, .slice (some ⟨tb, 0, none⟩) 5 5] w fun e w' => e = .returned (fv (eachF (fun i => rowsF (fun j => if bPo cl (xs.getD i ⟨0, 0, false, 0, 0, 0⟩) j then 0 else 107) 5) 1 n)) ∧ Kept No w w' := by
  obtain ⟨d, hd⟩ : ∃ d : Po, d = ⟨0, 0, false, 0, 0, 0⟩ := ⟨_, rfl⟩
  rw [← hd]
  refine eachPo 1 a n c (fun i => .int .i64 (xs.getD i d).pt) (fun i => .int .i64 (xs.getD i d).kd) (fun i => .bool (xs.getD i d).out) (fun i => .int .i64 (xs.getD i d).sz) (fun i => .int .i64 (xs.getD i d).dp) (fun i => .int .i64 (xs.getD i d).rf) tb 5 5 (rsPo g) (fun i j => if bPo cl (xs.getD i d) j then 0 else 107) w h.cap h.max ?_ ?_ (by omega) hT (by omega) (by omega) ?_
  · intro i hi
    have hx : xs[i]? = some (xs.getD i d) := by rw [List.getD, List.getElem?_eq_getElem (by rw [h.len]; exact hi)]; rfl
    obtain ⟨b, o, cs, e, hb, hl, hr, hE⟩ := h.at' i _ hx
    have he := hE.1
    subst he
    exact ⟨b, o, e, hr 0 _ rfl, hr 1 _ rfl, hr 2 _ rfl, hr 3 _ rfl, hr 4 _ rfl, hr 5 _ rfl⟩
  · intro i hi
    exact ⟨rfl, rfl, rfl, rfl, rfl, rfl⟩
  · intro i j w' hi hj hw
    match j, hj with
    | 0, _ => exact findsPo_alone 107 _ #[.pointer (some ⟨g, 0, none⟩)] _ _ _ _ _ _ a i c w' (enters_of Tryz.func128 (by kernel_rfl) rfl) _ (fun w2 hw2 => port1 _ _ _ _ _ _ g cl w2 (hw2.cell (hw.cell hg (fun h => h)) (fun h => h)))
    | 1, _ => exact findsPo_alone 107 _ #[] _ _ _ _ _ _ a i c w' (enters_of Tryz.func129 (by kernel_rfl) rfl) _ (fun w2 _ => port2 _ _ _ _ _ _ w2)
    | 2, _ => exact findsPo_alone 107 _ #[] _ _ _ _ _ _ a i c w' (enters_of Tryz.func131 (by kernel_rfl) rfl) _ (fun w2 _ => port3 _ _ _ _ _ _ w2)
    | 3, _ => exact findsPo_alone 107 _ #[] _ _ _ _ _ _ a i c w' (enters_of Tryz.func132 (by kernel_rfl) rfl) _ (fun w2 _ => port4 _ _ _ _ _ _ w2)
    | 4, _ => exact findsPo_alone 107 _ #[] _ _ _ _ _ _ a i c w' (enters_of Tryz.func133 (by kernel_rfl) rfl) _ (fun w2 _ => port5 _ _ _ _ _ _ w2)

end Go.Proofs.YtnmhcnppdhdhfaaGreatDoor

namespace Go.Proofs.YtnmhcnppdhdhfaaGreatDoor
open Go.RowKit
set_option linter.unusedVariables false
set_option linter.unusedSimpArgs false
set_option maxRecDepth 100000

theorem pn_cell (w : World) (cs : List Value) (t : TypeId) (j : Nat) (v : Value) (h : cs[j]? = some v) : (w.alloc (.cells cs.toArray t)).cell? ⟨w.heap.size, j, none⟩ = some v := by
  simp [h]
theorem cnt1 (cs : List Value) (wo : Int) (w : World) (h4 : cs[4]? = some (.int .i64 wo)) : Calls Tryz.prog 105 #[.agg cs.toArray] w fun e w' => e = .returned (.bool (inB wo 0 4096)) ∧ Kept No w w' := by
  have HK : Hid (Kept No w (w.alloc (.cells cs.toArray 48))) := (Kept.refl No w).alloc _
  have d4 := pn_cell w cs 48 4 _ h4
  clear h4
  go_enter Tryz.func105, Tryz.ntmps105
  go_wp2_with (go_at_call 106; refine (within_any _ _ _ _).mono ?_; rintro e w' ⟨rfl, rfl⟩)
  go_ret
  exact ⟨by first | rfl | (simp; done) | (congr 2; simp; omega), HK.out⟩
theorem cnt2 (cs : List Value) (na : Option Addr) (n nc : Nat) (bn : n ≤ 9223372036854775807) (w : World) (h7 : cs[7]? = some (.slice na n nc)) : Calls Tryz.prog 107 #[.agg cs.toArray] w fun e w' => e = .returned (.bool (decide ((n : Int) ≤ 1024))) ∧ Kept No w w' := by
  have HK : Hid (Kept No w (w.alloc (.cells cs.toArray 48))) := (Kept.refl No w).alloc _
  have d7 := pn_cell w cs 48 7 _ h7
  clear h7
  go_enter Tryz.func107, Tryz.ntmps107
  go_wp2_with (go_at_call 106; refine (within_any _ _ _ _).mono ?_; rintro e w' ⟨rfl, rfl⟩)
  go_ret
  exact ⟨by first | rfl | (simp; done) | (congr 2; simp; omega), HK.out⟩
theorem cnt3 (cs : List Value) (na : Option Addr) (n nc : Nat) (bn : n ≤ 9223372036854775807) (w : World) (h8 : cs[8]? = some (.slice na n nc)) : Calls Tryz.prog 108 #[.agg cs.toArray] w fun e w' => e = .returned (.bool (inB n 1 16)) ∧ Kept No w w' := by
  have HK : Hid (Kept No w (w.alloc (.cells cs.toArray 48))) := (Kept.refl No w).alloc _
  have d8 := pn_cell w cs 48 8 _ h8
  clear h8
  go_enter Tryz.func108, Tryz.ntmps108
  go_wp2_with (go_at_call 106; refine (within_any _ _ _ _).mono ?_; rintro e w' ⟨rfl, rfl⟩)
  go_ret
  exact ⟨by first | rfl | (simp; done) | (congr 2; simp; omega), HK.out⟩
theorem cnt4 (cs : List Value) (na : Option Addr) (n nc : Nat) (bn : n ≤ 9223372036854775807) (w : World) (h18 : cs[18]? = some (.slice na n nc)) : Calls Tryz.prog 109 #[.agg cs.toArray] w fun e w' => e = .returned (.bool (decide ((n : Int) ≤ 8))) ∧ Kept No w w' := by
  have HK : Hid (Kept No w (w.alloc (.cells cs.toArray 48))) := (Kept.refl No w).alloc _
  have d18 := pn_cell w cs 48 18 _ h18
  clear h18
  go_enter Tryz.func109, Tryz.ntmps109
  go_wp2_with (go_at_call 106; refine (within_any _ _ _ _).mono ?_; rintro e w' ⟨rfl, rfl⟩)
  go_ret
  exact ⟨by first | rfl | (simp; done) | (congr 2; simp; omega), HK.out⟩
theorem cnt5 (cs : List Value) (na : Option Addr) (n nc : Nat) (bn : n ≤ 9223372036854775807) (w : World) (h19 : cs[19]? = some (.slice na n nc)) : Calls Tryz.prog 110 #[.agg cs.toArray] w fun e w' => e = .returned (.bool (decide ((n : Int) ≤ 8))) ∧ Kept No w w' := by
  have HK : Hid (Kept No w (w.alloc (.cells cs.toArray 48))) := (Kept.refl No w).alloc _
  have d19 := pn_cell w cs 48 19 _ h19
  clear h19
  go_enter Tryz.func110, Tryz.ntmps110
  go_wp2_with (go_at_call 106; refine (within_any _ _ _ _).mono ?_; rintro e w' ⟨rfl, rfl⟩)
  go_ret
  exact ⟨by first | rfl | (simp; done) | (congr 2; simp; omega), HK.out⟩
theorem cnt6 (cs : List Value) (na : Option Addr) (n nc : Nat) (bn : n ≤ 9223372036854775807) (w : World) (h20 : cs[20]? = some (.slice na n nc)) : Calls Tryz.prog 111 #[.agg cs.toArray] w fun e w' => e = .returned (.bool (decide ((n : Int) ≤ 8))) ∧ Kept No w w' := by
  have HK : Hid (Kept No w (w.alloc (.cells cs.toArray 48))) := (Kept.refl No w).alloc _
  have d20 := pn_cell w cs 48 20 _ h20
  clear h20
  go_enter Tryz.func111, Tryz.ntmps111
  go_wp2_with (go_at_call 106; refine (within_any _ _ _ _).mono ?_; rintro e w' ⟨rfl, rfl⟩)
  go_ret
  exact ⟨by first | rfl | (simp; done) | (congr 2; simp; omega), HK.out⟩
theorem part1 (cs : List Value) (wo : Int) (fi : Int) (w : World) (h4 : cs[4]? = some (.int .i64 wo)) (h5 : cs[5]? = some (.int .i64 fi)) : Calls Tryz.prog 112 #[.agg cs.toArray] w fun e w' => e = .returned (.bool (inB fi 0 wo)) ∧ Kept No w w' := by
  have HK : Hid (Kept No w (w.alloc (.cells cs.toArray 48))) := (Kept.refl No w).alloc _
  have d4 := pn_cell w cs 48 4 _ h4
  have d5 := pn_cell w cs 48 5 _ h5
  clear h4 h5
  go_enter Tryz.func112, Tryz.ntmps112
  go_wp2_with (go_at_call 106; refine (within_any _ _ _ _).mono ?_; rintro e w' ⟨rfl, rfl⟩)
  go_ret
  exact ⟨by first | rfl | (simp; done) | (congr 2; simp; omega), HK.out⟩
theorem part2 (cs : List Value) (wo : Int) (na : Option Addr) (n nc : Nat) (bn : n ≤ 9223372036854775807) (w : World) (h4 : cs[4]? = some (.int .i64 wo)) (h6 : cs[6]? = some (.slice na n nc)) : Calls Tryz.prog 113 #[.agg cs.toArray] w fun e w' => e = .returned (.bool (decide ((n : Int) ≤ wo))) ∧ Kept No w w' := by
  have HK : Hid (Kept No w (w.alloc (.cells cs.toArray 48))) := (Kept.refl No w).alloc _
  have d4 := pn_cell w cs 48 4 _ h4
  have d6 := pn_cell w cs 48 6 _ h6
  clear h4 h6
  go_enter Tryz.func113, Tryz.ntmps113
  go_wp2_with (go_at_call 106; refine (within_any _ _ _ _).mono ?_; rintro e w' ⟨rfl, rfl⟩)
  go_ret
  exact ⟨by first | rfl | (simp; done) | (congr 2; simp; omega), HK.out⟩
theorem part3 (cs : List Value) (na : Option Addr) (n nc : Nat) (bn : n ≤ 9223372036854775807) (w : World) (h7 : cs[7]? = some (.slice na n nc)) : Calls Tryz.prog 114 #[.agg cs.toArray] w fun e w' => e = .returned (.bool (decide ((n : Int) > 0))) ∧ Kept No w w' := by
  have HK : Hid (Kept No w (w.alloc (.cells cs.toArray 48))) := (Kept.refl No w).alloc _
  have d7 := pn_cell w cs 48 7 _ h7
  clear h7
  go_enter Tryz.func114, Tryz.ntmps114
  go_wp2_with (go_at_call 106; refine (within_any _ _ _ _).mono ?_; rintro e w' ⟨rfl, rfl⟩)
  go_ret
  exact ⟨by first | rfl | (simp; done) | (congr 2; simp; omega), HK.out⟩
theorem part7 (cs : List Value) (h0 : Int) (w : World) (h10 : cs[10]? = some (.int .i64 h0)) : Calls Tryz.prog 124 #[.agg cs.toArray] w fun e w' => e = .returned (.bool (h0 == 0)) ∧ Kept No w w' := by
  have HK : Hid (Kept No w (w.alloc (.cells cs.toArray 48))) := (Kept.refl No w).alloc _
  have d10 := pn_cell w cs 48 10 _ h10
  clear h10
  go_enter Tryz.func124, Tryz.ntmps124
  go_wp2_with (go_at_call 106; refine (within_any _ _ _ _).mono ?_; rintro e w' ⟨rfl, rfl⟩)
  go_ret
  exact ⟨by first | rfl | (simp; done) | (congr 2; simp; omega), HK.out⟩

end Go.Proofs.YtnmhcnppdhdhfaaGreatDoor
