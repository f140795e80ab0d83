/-
  One text: CFSm, CFBf, CFPrc.
-/
import Derived.Test.YtnmhcnppdhdhfaaGreatDoorG02
namespace Go.Proofs.YtnmhcnppdhdhfaaGreatDoor
open Go.RowKit
set_option linter.unusedVariables false
set_option maxRecDepth 100000

set_option maxHeartbeats 4000000 in
theorem findsSm_alone_true (err : Int) (k : Nat) (caps : Array Value) (v0 v1 : Value) (aa : Option Addr) (an ac : Nat) (w : World) (hen : Enters Tryz.prog k)
    (hc : ∀ w', Kept No w w' → Calls Tryz.prog k (#[(.agg #[v0, v1])] ++ caps) w' fun e w'' => e = .returned (.bool true) ∧ Kept No w' w'') :
    Calls Tryz.prog 180 #[.agg #[.int .i64 err, .func (.func k) #[] caps, .nilFunc, .nilFunc], (.agg #[v0, v1]), .slice aa an ac] w fun e w' => e = .returned (.int .i64 0) ∧ Kept No w w' := by
  have HK : Hid (Kept No w ((w.alloc (.cells #[.int .i64 err, .func (.func k) #[] caps, .nilFunc, .nilFunc] 266)).alloc (.cells #[v0, v1] 195))) := ((Kept.refl No w).alloc _).alloc _
  have hc1 := hc _ HK.out
  have HM : Hid (∀ w', Kept No ((w.alloc (.cells #[.int .i64 err, .func (.func k) #[] caps, .nilFunc, .nilFunc] 266)).alloc (.cells #[v0, v1] 195)) w' → w'.cell? ⟨w.heap.size, 0, none⟩ = some (.int .i64 err) ∧ w'.cell? ⟨w.heap.size, 1, none⟩ = some (.func (.func k) #[] caps) ∧ w'.cell? ⟨w.heap.size, 2, none⟩ = some (.nilFunc) ∧ w'.cell? ⟨w.heap.size, 3, none⟩ = some (.nilFunc)) := fun w' k => ⟨k.cell (by simp) (fun h => h), k.cell (by simp) (fun h => h), k.cell (by simp) (fun h => h), k.cell (by simp) (fun h => h)⟩
  clear hc
  unfold Enters at hen
  have q1 : ∀ w : World, (binOp .neq 262 (.func (.func k) #[] caps) .nilFunc).run Tryz.prog w = .ok (.bool true) w := fun w => by kernel_rfl
  have q2 : ∀ w : World, (binOp .neq 263 (.nilFunc) .nilFunc).run Tryz.prog w = .ok (.bool false) w := fun w => by kernel_rfl
  have q3 : ∀ w : World, (binOp .neq 264 .nilFunc .nilFunc).run Tryz.prog w = .ok (.bool false) w := fun w => by kernel_rfl
  go_enter Tryz.func180, Tryz.ntmps180
  go_wp2_with (go_at_fn k; refine hc1.mono ?_; rintro e w' ⟨rfl, hk⟩; have HK2 : Hid (Kept No w w') := HK.out.trans hk (fun _ h => h.elim); obtain ⟨m0, m1, m2, m3⟩ := HM.out _ hk; clear hk)
  go_ret
  exact ⟨rfl, HK2.out⟩

set_option maxHeartbeats 4000000 in
theorem findsSm_alone_false (err : Int) (k : Nat) (caps : Array Value) (v0 v1 : Value) (aa : Option Addr) (an ac : Nat) (w : World) (hen : Enters Tryz.prog k)
    (hc : ∀ w', Kept No w w' → Calls Tryz.prog k (#[(.agg #[v0, v1])] ++ caps) w' fun e w'' => e = .returned (.bool false) ∧ Kept No w' w'') :
    Calls Tryz.prog 180 #[.agg #[.int .i64 err, .func (.func k) #[] caps, .nilFunc, .nilFunc], (.agg #[v0, v1]), .slice aa an ac] w fun e w' => e = .returned (.int .i64 err) ∧ Kept No w w' := by
  have HK : Hid (Kept No w ((w.alloc (.cells #[.int .i64 err, .func (.func k) #[] caps, .nilFunc, .nilFunc] 266)).alloc (.cells #[v0, v1] 195))) := ((Kept.refl No w).alloc _).alloc _
  have hc1 := hc _ HK.out
  have HM : Hid (∀ w', Kept No ((w.alloc (.cells #[.int .i64 err, .func (.func k) #[] caps, .nilFunc, .nilFunc] 266)).alloc (.cells #[v0, v1] 195)) w' → w'.cell? ⟨w.heap.size, 0, none⟩ = some (.int .i64 err) ∧ w'.cell? ⟨w.heap.size, 1, none⟩ = some (.func (.func k) #[] caps) ∧ w'.cell? ⟨w.heap.size, 2, none⟩ = some (.nilFunc) ∧ w'.cell? ⟨w.heap.size, 3, none⟩ = some (.nilFunc)) := fun w' k => ⟨k.cell (by simp) (fun h => h), k.cell (by simp) (fun h => h), k.cell (by simp) (fun h => h), k.cell (by simp) (fun h => h)⟩
  clear hc
  unfold Enters at hen
  have q1 : ∀ w : World, (binOp .neq 262 (.func (.func k) #[] caps) .nilFunc).run Tryz.prog w = .ok (.bool true) w := fun w => by kernel_rfl
  have q2 : ∀ w : World, (binOp .neq 263 (.nilFunc) .nilFunc).run Tryz.prog w = .ok (.bool false) w := fun w => by kernel_rfl
  have q3 : ∀ w : World, (binOp .neq 264 .nilFunc .nilFunc).run Tryz.prog w = .ok (.bool false) w := fun w => by kernel_rfl
  go_enter Tryz.func180, Tryz.ntmps180
  go_wp2_with (go_at_fn k; refine hc1.mono ?_; rintro e w' ⟨rfl, hk⟩; have HK2 : Hid (Kept No w w') := HK.out.trans hk (fun _ h => h.elim); obtain ⟨m0, m1, m2, m3⟩ := HM.out _ hk; clear hk)
  go_ret
  exact ⟨rfl, HK2.out⟩

theorem findsSm_alone (err : Int) (k : Nat) (caps : Array Value) (v0 v1 : Value) (aa : Option Addr) (an ac : Nat) (w : World) (hen : Enters Tryz.prog k) (b : Bool)
    (hc : ∀ w', Kept No w w' → Calls Tryz.prog k (#[(.agg #[v0, v1])] ++ caps) w' fun e w'' => e = .returned (.bool b) ∧ Kept No w' w'') :
    Calls Tryz.prog 180 #[.agg #[.int .i64 err, .func (.func k) #[] caps, .nilFunc, .nilFunc], (.agg #[v0, v1]), .slice aa an ac] w fun e w' => e = .returned (.int .i64 (if b then 0 else err)) ∧ Kept No w w' := by
  cases b
  · exact findsSm_alone_false err k caps v0 v1 aa an ac w hen hc
  · exact findsSm_alone_true err k caps v0 v1 aa an ac w hen hc

set_option maxHeartbeats 4000000 in
theorem findsSm_behind_true (err : Int) (k : Nat) (caps : Array Value) (v0 v1 : Value) (aa : Option Addr) (an ac : Nat) (w : World) (hen : Enters Tryz.prog k)
    (hc : ∀ w', Kept No w w' → Calls Tryz.prog k (#[(.agg #[v0, v1]), .slice aa an ac] ++ caps) w' fun e w'' => e = .returned (.bool true) ∧ Kept No w' w'') :
    Calls Tryz.prog 180 #[.agg #[.int .i64 err, .nilFunc, .func (.func k) #[] caps, .nilFunc], (.agg #[v0, v1]), .slice aa an ac] w fun e w' => e = .returned (.int .i64 0) ∧ Kept No w w' := by
  have HK : Hid (Kept No w ((w.alloc (.cells #[.int .i64 err, .nilFunc, .func (.func k) #[] caps, .nilFunc] 266)).alloc (.cells #[v0, v1] 195))) := ((Kept.refl No w).alloc _).alloc _
  have hc1 := hc _ HK.out
  have HM : Hid (∀ w', Kept No ((w.alloc (.cells #[.int .i64 err, .nilFunc, .func (.func k) #[] caps, .nilFunc] 266)).alloc (.cells #[v0, v1] 195)) w' → w'.cell? ⟨w.heap.size, 0, none⟩ = some (.int .i64 err) ∧ w'.cell? ⟨w.heap.size, 1, none⟩ = some (.nilFunc) ∧ w'.cell? ⟨w.heap.size, 2, none⟩ = some (.func (.func k) #[] caps) ∧ w'.cell? ⟨w.heap.size, 3, none⟩ = some (.nilFunc)) := fun w' k => ⟨k.cell (by simp) (fun h => h), k.cell (by simp) (fun h => h), k.cell (by simp) (fun h => h), k.cell (by simp) (fun h => h)⟩
  clear hc
  unfold Enters at hen
  have q1 : ∀ w : World, (binOp .neq 262 (.nilFunc) .nilFunc).run Tryz.prog w = .ok (.bool false) w := fun w => by kernel_rfl
  have q2 : ∀ w : World, (binOp .neq 263 (.func (.func k) #[] caps) .nilFunc).run Tryz.prog w = .ok (.bool true) w := fun w => by kernel_rfl
  have q3 : ∀ w : World, (binOp .neq 264 .nilFunc .nilFunc).run Tryz.prog w = .ok (.bool false) w := fun w => by kernel_rfl
  go_enter Tryz.func180, Tryz.ntmps180
  go_wp2_with (go_at_fn k; refine hc1.mono ?_; rintro e w' ⟨rfl, hk⟩; have HK2 : Hid (Kept No w w') := HK.out.trans hk (fun _ h => h.elim); obtain ⟨m0, m1, m2, m3⟩ := HM.out _ hk; clear hk)
  go_ret
  exact ⟨rfl, HK2.out⟩

set_option maxHeartbeats 4000000 in
theorem findsSm_behind_false (err : Int) (k : Nat) (caps : Array Value) (v0 v1 : Value) (aa : Option Addr) (an ac : Nat) (w : World) (hen : Enters Tryz.prog k)
    (hc : ∀ w', Kept No w w' → Calls Tryz.prog k (#[(.agg #[v0, v1]), .slice aa an ac] ++ caps) w' fun e w'' => e = .returned (.bool false) ∧ Kept No w' w'') :
    Calls Tryz.prog 180 #[.agg #[.int .i64 err, .nilFunc, .func (.func k) #[] caps, .nilFunc], (.agg #[v0, v1]), .slice aa an ac] w fun e w' => e = .returned (.int .i64 err) ∧ Kept No w w' := by
  have HK : Hid (Kept No w ((w.alloc (.cells #[.int .i64 err, .nilFunc, .func (.func k) #[] caps, .nilFunc] 266)).alloc (.cells #[v0, v1] 195))) := ((Kept.refl No w).alloc _).alloc _
  have hc1 := hc _ HK.out
  have HM : Hid (∀ w', Kept No ((w.alloc (.cells #[.int .i64 err, .nilFunc, .func (.func k) #[] caps, .nilFunc] 266)).alloc (.cells #[v0, v1] 195)) w' → w'.cell? ⟨w.heap.size, 0, none⟩ = some (.int .i64 err) ∧ w'.cell? ⟨w.heap.size, 1, none⟩ = some (.nilFunc) ∧ w'.cell? ⟨w.heap.size, 2, none⟩ = some (.func (.func k) #[] caps) ∧ w'.cell? ⟨w.heap.size, 3, none⟩ = some (.nilFunc)) := fun w' k => ⟨k.cell (by simp) (fun h => h), k.cell (by simp) (fun h => h), k.cell (by simp) (fun h => h), k.cell (by simp) (fun h => h)⟩
  clear hc
  unfold Enters at hen
  have q1 : ∀ w : World, (binOp .neq 262 (.nilFunc) .nilFunc).run Tryz.prog w = .ok (.bool false) w := fun w => by kernel_rfl
  have q2 : ∀ w : World, (binOp .neq 263 (.func (.func k) #[] caps) .nilFunc).run Tryz.prog w = .ok (.bool true) w := fun w => by kernel_rfl
  have q3 : ∀ w : World, (binOp .neq 264 .nilFunc .nilFunc).run Tryz.prog w = .ok (.bool false) w := fun w => by kernel_rfl
  go_enter Tryz.func180, Tryz.ntmps180
  go_wp2_with (go_at_fn k; refine hc1.mono ?_; rintro e w' ⟨rfl, hk⟩; have HK2 : Hid (Kept No w w') := HK.out.trans hk (fun _ h => h.elim); obtain ⟨m0, m1, m2, m3⟩ := HM.out _ hk; clear hk)
  go_ret
  exact ⟨rfl, HK2.out⟩

theorem findsSm_behind (err : Int) (k : Nat) (caps : Array Value) (v0 v1 : Value) (aa : Option Addr) (an ac : Nat) (w : World) (hen : Enters Tryz.prog k) (b : Bool)
    (hc : ∀ w', Kept No w w' → Calls Tryz.prog k (#[(.agg #[v0, v1]), .slice aa an ac] ++ caps) w' fun e w'' => e = .returned (.bool b) ∧ Kept No w' w'') :
    Calls Tryz.prog 180 #[.agg #[.int .i64 err, .nilFunc, .func (.func k) #[] caps, .nilFunc], (.agg #[v0, v1]), .slice aa an ac] w fun e w' => e = .returned (.int .i64 (if b then 0 else err)) ∧ Kept No w w' := by
  cases b
  · exact findsSm_behind_false err k caps v0 v1 aa an ac w hen hc
  · exact findsSm_behind_true err k caps v0 v1 aa an ac w hen hc

end Go.Proofs.YtnmhcnppdhdhfaaGreatDoor

namespace Go.Proofs.YtnmhcnppdhdhfaaGreatDoor
open Go.RowKit
set_option linter.unusedVariables false
set_option maxRecDepth 100000

set_option maxHeartbeats 4000000 in
theorem findsBf_alone_true (err : Int) (k : Nat) (caps : Array Value) (v0 v1 : Value) (aa : Option Addr) (an ac : Nat) (w : World) (hen : Enters Tryz.prog k)
    (hc : ∀ w', Kept No w w' → Calls Tryz.prog k (#[(.agg #[v0, v1])] ++ caps) w' fun e w'' => e = .returned (.bool true) ∧ Kept No w' w'') :
    Calls Tryz.prog 183 #[.agg #[.int .i64 err, .func (.func k) #[] caps, .nilFunc, .nilFunc], (.agg #[v0, v1]), .slice aa an ac] w fun e w' => e = .returned (.int .i64 0) ∧ Kept No w w' := by
  have HK : Hid (Kept No w ((w.alloc (.cells #[.int .i64 err, .func (.func k) #[] caps, .nilFunc, .nilFunc] 272)).alloc (.cells #[v0, v1] 200))) := ((Kept.refl No w).alloc _).alloc _
  have hc1 := hc _ HK.out
  have HM : Hid (∀ w', Kept No ((w.alloc (.cells #[.int .i64 err, .func (.func k) #[] caps, .nilFunc, .nilFunc] 272)).alloc (.cells #[v0, v1] 200)) w' → w'.cell? ⟨w.heap.size, 0, none⟩ = some (.int .i64 err) ∧ w'.cell? ⟨w.heap.size, 1, none⟩ = some (.func (.func k) #[] caps) ∧ w'.cell? ⟨w.heap.size, 2, none⟩ = some (.nilFunc) ∧ w'.cell? ⟨w.heap.size, 3, none⟩ = some (.nilFunc)) := fun w' k => ⟨k.cell (by simp) (fun h => h), k.cell (by simp) (fun h => h), k.cell (by simp) (fun h => h), k.cell (by simp) (fun h => h)⟩
  clear hc
  unfold Enters at hen
  have q1 : ∀ w : World, (binOp .neq 268 (.func (.func k) #[] caps) .nilFunc).run Tryz.prog w = .ok (.bool true) w := fun w => by kernel_rfl
  have q2 : ∀ w : World, (binOp .neq 269 (.nilFunc) .nilFunc).run Tryz.prog w = .ok (.bool false) w := fun w => by kernel_rfl
  have q3 : ∀ w : World, (binOp .neq 270 .nilFunc .nilFunc).run Tryz.prog w = .ok (.bool false) w := fun w => by kernel_rfl
  go_enter Tryz.func183, Tryz.ntmps183
  go_wp2_with (go_at_fn k; refine hc1.mono ?_; rintro e w' ⟨rfl, hk⟩; have HK2 : Hid (Kept No w w') := HK.out.trans hk (fun _ h => h.elim); obtain ⟨m0, m1, m2, m3⟩ := HM.out _ hk; clear hk)
  go_ret
  exact ⟨rfl, HK2.out⟩

set_option maxHeartbeats 4000000 in
theorem findsBf_alone_false (err : Int) (k : Nat) (caps : Array Value) (v0 v1 : Value) (aa : Option Addr) (an ac : Nat) (w : World) (hen : Enters Tryz.prog k)
    (hc : ∀ w', Kept No w w' → Calls Tryz.prog k (#[(.agg #[v0, v1])] ++ caps) w' fun e w'' => e = .returned (.bool false) ∧ Kept No w' w'') :
    Calls Tryz.prog 183 #[.agg #[.int .i64 err, .func (.func k) #[] caps, .nilFunc, .nilFunc], (.agg #[v0, v1]), .slice aa an ac] w fun e w' => e = .returned (.int .i64 err) ∧ Kept No w w' := by
  have HK : Hid (Kept No w ((w.alloc (.cells #[.int .i64 err, .func (.func k) #[] caps, .nilFunc, .nilFunc] 272)).alloc (.cells #[v0, v1] 200))) := ((Kept.refl No w).alloc _).alloc _
  have hc1 := hc _ HK.out
  have HM : Hid (∀ w', Kept No ((w.alloc (.cells #[.int .i64 err, .func (.func k) #[] caps, .nilFunc, .nilFunc] 272)).alloc (.cells #[v0, v1] 200)) w' → w'.cell? ⟨w.heap.size, 0, none⟩ = some (.int .i64 err) ∧ w'.cell? ⟨w.heap.size, 1, none⟩ = some (.func (.func k) #[] caps) ∧ w'.cell? ⟨w.heap.size, 2, none⟩ = some (.nilFunc) ∧ w'.cell? ⟨w.heap.size, 3, none⟩ = some (.nilFunc)) := fun w' k => ⟨k.cell (by simp) (fun h => h), k.cell (by simp) (fun h => h), k.cell (by simp) (fun h => h), k.cell (by simp) (fun h => h)⟩
  clear hc
  unfold Enters at hen
  have q1 : ∀ w : World, (binOp .neq 268 (.func (.func k) #[] caps) .nilFunc).run Tryz.prog w = .ok (.bool true) w := fun w => by kernel_rfl
  have q2 : ∀ w : World, (binOp .neq 269 (.nilFunc) .nilFunc).run Tryz.prog w = .ok (.bool false) w := fun w => by kernel_rfl
  have q3 : ∀ w : World, (binOp .neq 270 .nilFunc .nilFunc).run Tryz.prog w = .ok (.bool false) w := fun w => by kernel_rfl
  go_enter Tryz.func183, Tryz.ntmps183
  go_wp2_with (go_at_fn k; refine hc1.mono ?_; rintro e w' ⟨rfl, hk⟩; have HK2 : Hid (Kept No w w') := HK.out.trans hk (fun _ h => h.elim); obtain ⟨m0, m1, m2, m3⟩ := HM.out _ hk; clear hk)
  go_ret
  exact ⟨rfl, HK2.out⟩

theorem findsBf_alone (err : Int) (k : Nat) (caps : Array Value) (v0 v1 : Value) (aa : Option Addr) (an ac : Nat) (w : World) (hen : Enters Tryz.prog k) (b : Bool)
    (hc : ∀ w', Kept No w w' → Calls Tryz.prog k (#[(.agg #[v0, v1])] ++ caps) w' fun e w'' => e = .returned (.bool b) ∧ Kept No w' w'') :
    Calls Tryz.prog 183 #[.agg #[.int .i64 err, .func (.func k) #[] caps, .nilFunc, .nilFunc], (.agg #[v0, v1]), .slice aa an ac] w fun e w' => e = .returned (.int .i64 (if b then 0 else err)) ∧ Kept No w w' := by
  cases b
  · exact findsBf_alone_false err k caps v0 v1 aa an ac w hen hc
  · exact findsBf_alone_true err k caps v0 v1 aa an ac w hen hc

set_option maxHeartbeats 4000000 in
theorem findsBf_behind_true (err : Int) (k : Nat) (caps : Array Value) (v0 v1 : Value) (aa : Option Addr) (an ac : Nat) (w : World) (hen : Enters Tryz.prog k)
    (hc : ∀ w', Kept No w w' → Calls Tryz.prog k (#[(.agg #[v0, v1]), .slice aa an ac] ++ caps) w' fun e w'' => e = .returned (.bool true) ∧ Kept No w' w'') :
    Calls Tryz.prog 183 #[.agg #[.int .i64 err, .nilFunc, .func (.func k) #[] caps, .nilFunc], (.agg #[v0, v1]), .slice aa an ac] w fun e w' => e = .returned (.int .i64 0) ∧ Kept No w w' := by
  have HK : Hid (Kept No w ((w.alloc (.cells #[.int .i64 err, .nilFunc, .func (.func k) #[] caps, .nilFunc] 272)).alloc (.cells #[v0, v1] 200))) := ((Kept.refl No w).alloc _).alloc _
  have hc1 := hc _ HK.out
  have HM : Hid (∀ w', Kept No ((w.alloc (.cells #[.int .i64 err, .nilFunc, .func (.func k) #[] caps, .nilFunc] 272)).alloc (.cells #[v0, v1] 200)) w' → w'.cell? ⟨w.heap.size, 0, none⟩ = some (.int .i64 err) ∧ w'.cell? ⟨w.heap.size, 1, none⟩ = some (.nilFunc) ∧ w'.cell? ⟨w.heap.size, 2, none⟩ = some (.func (.func k) #[] caps) ∧ w'.cell? ⟨w.heap.size, 3, none⟩ = some (.nilFunc)) := fun w' k => ⟨k.cell (by simp) (fun h => h), k.cell (by simp) (fun h => h), k.cell (by simp) (fun h => h), k.cell (by simp) (fun h => h)⟩
  clear hc
  unfold Enters at hen
  have q1 : ∀ w : World, (binOp .neq 268 (.nilFunc) .nilFunc).run Tryz.prog w = .ok (.bool false) w := fun w => by kernel_rfl
  have q2 : ∀ w : World, (binOp .neq 269 (.func (.func k) #[] caps) .nilFunc).run Tryz.prog w = .ok (.bool true) w := fun w => by kernel_rfl
  have q3 : ∀ w : World, (binOp .neq 270 .nilFunc .nilFunc).run Tryz.prog w = .ok (.bool false) w := fun w => by kernel_rfl
  go_enter Tryz.func183, Tryz.ntmps183
  go_wp2_with (go_at_fn k; refine hc1.mono ?_; rintro e w' ⟨rfl, hk⟩; have HK2 : Hid (Kept No w w') := HK.out.trans hk (fun _ h => h.elim); obtain ⟨m0, m1, m2, m3⟩ := HM.out _ hk; clear hk)
  go_ret
  exact ⟨rfl, HK2.out⟩

set_option maxHeartbeats 4000000 in
theorem findsBf_behind_false (err : Int) (k : Nat) (caps : Array Value) (v0 v1 : Value) (aa : Option Addr) (an ac : Nat) (w : World) (hen : Enters Tryz.prog k)
    (hc : ∀ w', Kept No w w' → Calls Tryz.prog k (#[(.agg #[v0, v1]), .slice aa an ac] ++ caps) w' fun e w'' => e = .returned (.bool false) ∧ Kept No w' w'') :
    Calls Tryz.prog 183 #[.agg #[.int .i64 err, .nilFunc, .func (.func k) #[] caps, .nilFunc], (.agg #[v0, v1]), .slice aa an ac] w fun e w' => e = .returned (.int .i64 err) ∧ Kept No w w' := by
  have HK : Hid (Kept No w ((w.alloc (.cells #[.int .i64 err, .nilFunc, .func (.func k) #[] caps, .nilFunc] 272)).alloc (.cells #[v0, v1] 200))) := ((Kept.refl No w).alloc _).alloc _
  have hc1 := hc _ HK.out
  have HM : Hid (∀ w', Kept No ((w.alloc (.cells #[.int .i64 err, .nilFunc, .func (.func k) #[] caps, .nilFunc] 272)).alloc (.cells #[v0, v1] 200)) w' → w'.cell? ⟨w.heap.size, 0, none⟩ = some (.int .i64 err) ∧ w'.cell? ⟨w.heap.size, 1, none⟩ = some (.nilFunc) ∧ w'.cell? ⟨w.heap.size, 2, none⟩ = some (.func (.func k) #[] caps) ∧ w'.cell? ⟨w.heap.size, 3, none⟩ = some (.nilFunc)) := fun w' k => ⟨k.cell (by simp) (fun h => h), k.cell (by simp) (fun h => h), k.cell (by simp) (fun h => h), k.cell (by simp) (fun h => h)⟩
  clear hc
  unfold Enters at hen
  have q1 : ∀ w : World, (binOp .neq 268 (.nilFunc) .nilFunc).run Tryz.prog w = .ok (.bool false) w := fun w => by kernel_rfl
  have q2 : ∀ w : World, (binOp .neq 269 (.func (.func k) #[] caps) .nilFunc).run Tryz.prog w = .ok (.bool true) w := fun w => by kernel_rfl
  have q3 : ∀ w : World, (binOp .neq 270 .nilFunc .nilFunc).run Tryz.prog w = .ok (.bool false) w := fun w => by kernel_rfl
  go_enter Tryz.func183, Tryz.ntmps183
  go_wp2_with (go_at_fn k; refine hc1.mono ?_; rintro e w' ⟨rfl, hk⟩; have HK2 : Hid (Kept No w w') := HK.out.trans hk (fun _ h => h.elim); obtain ⟨m0, m1, m2, m3⟩ := HM.out _ hk; clear hk)
  go_ret
  exact ⟨rfl, HK2.out⟩

theorem findsBf_behind (err : Int) (k : Nat) (caps : Array Value) (v0 v1 : Value) (aa : Option Addr) (an ac : Nat) (w : World) (hen : Enters Tryz.prog k) (b : Bool)
    (hc : ∀ w', Kept No w w' → Calls Tryz.prog k (#[(.agg #[v0, v1]), .slice aa an ac] ++ caps) w' fun e w'' => e = .returned (.bool b) ∧ Kept No w' w'') :
    Calls Tryz.prog 183 #[.agg #[.int .i64 err, .nilFunc, .func (.func k) #[] caps, .nilFunc], (.agg #[v0, v1]), .slice aa an ac] w fun e w' => e = .returned (.int .i64 (if b then 0 else err)) ∧ Kept No w w' := by
  cases b
  · exact findsBf_behind_false err k caps v0 v1 aa an ac w hen hc
  · exact findsBf_behind_true err k caps v0 v1 aa an ac w hen hc

end Go.Proofs.YtnmhcnppdhdhfaaGreatDoor

namespace Go.Proofs.YtnmhcnppdhdhfaaGreatDoor
open Go.RowKit
set_option linter.unusedVariables false
set_option maxRecDepth 100000

set_option maxHeartbeats 4000000 in
theorem findsPrc_alone_true (err : Int) (k : Nat) (caps : Array Value) (v0 v1 v2 v3 v4 v5 : Value) (aa : Option Addr) (an ac : Nat) (w : World) (hen : Enters Tryz.prog k)
    (hc : ∀ w', Kept No w w' → Calls Tryz.prog k (#[(.agg #[v0, v1, v2, v3, v4, v5])] ++ caps) w' fun e w'' => e = .returned (.bool true) ∧ Kept No w' w'') :
    Calls Tryz.prog 173 #[.agg #[.int .i64 err, .func (.func k) #[] caps, .nilFunc, .nilFunc], (.agg #[v0, v1, v2, v3, v4, v5]), .slice aa an ac] w fun e w' => e = .returned (.int .i64 0) ∧ Kept No w w' := by
  have HK : Hid (Kept No w ((w.alloc (.cells #[.int .i64 err, .func (.func k) #[] caps, .nilFunc, .nilFunc] 260)).alloc (.cells #[v0, v1, v2, v3, v4, v5] 54))) := ((Kept.refl No w).alloc _).alloc _
  have hc1 := hc _ HK.out
  have HM : Hid (∀ w', Kept No ((w.alloc (.cells #[.int .i64 err, .func (.func k) #[] caps, .nilFunc, .nilFunc] 260)).alloc (.cells #[v0, v1, v2, v3, v4, v5] 54)) w' → w'.cell? ⟨w.heap.size, 0, none⟩ = some (.int .i64 err) ∧ w'.cell? ⟨w.heap.size, 1, none⟩ = some (.func (.func k) #[] caps) ∧ w'.cell? ⟨w.heap.size, 2, none⟩ = some (.nilFunc) ∧ w'.cell? ⟨w.heap.size, 3, none⟩ = some (.nilFunc)) := fun w' k => ⟨k.cell (by simp) (fun h => h), k.cell (by simp) (fun h => h), k.cell (by simp) (fun h => h), k.cell (by simp) (fun h => h)⟩
  clear hc
  unfold Enters at hen
  have q1 : ∀ w : World, (binOp .neq 146 (.func (.func k) #[] caps) .nilFunc).run Tryz.prog w = .ok (.bool true) w := fun w => by kernel_rfl
  have q2 : ∀ w : World, (binOp .neq 257 (.nilFunc) .nilFunc).run Tryz.prog w = .ok (.bool false) w := fun w => by kernel_rfl
  have q3 : ∀ w : World, (binOp .neq 258 .nilFunc .nilFunc).run Tryz.prog w = .ok (.bool false) w := fun w => by kernel_rfl
  go_enter Tryz.func173, Tryz.ntmps173
  go_wp2_with (go_at_fn k; refine hc1.mono ?_; rintro e w' ⟨rfl, hk⟩; have HK2 : Hid (Kept No w w') := HK.out.trans hk (fun _ h => h.elim); obtain ⟨m0, m1, m2, m3⟩ := HM.out _ hk; clear hk)
  go_ret
  exact ⟨rfl, HK2.out⟩

set_option maxHeartbeats 4000000 in
theorem findsPrc_alone_false (err : Int) (k : Nat) (caps : Array Value) (v0 v1 v2 v3 v4 v5 : Value) (aa : Option Addr) (an ac : Nat) (w : World) (hen : Enters Tryz.prog k)
    (hc : ∀ w', Kept No w w' → Calls Tryz.prog k (#[(.agg #[v0, v1, v2, v3, v4, v5])] ++ caps) w' fun e w'' => e = .returned (.bool false) ∧ Kept No w' w'') :
    Calls Tryz.prog 173 #[.agg #[.int .i64 err, .func (.func k) #[] caps, .nilFunc, .nilFunc], (.agg #[v0, v1, v2, v3, v4, v5]), .slice aa an ac] w fun e w' => e = .returned (.int .i64 err) ∧ Kept No w w' := by
  have HK : Hid (Kept No w ((w.alloc (.cells #[.int .i64 err, .func (.func k) #[] caps, .nilFunc, .nilFunc] 260)).alloc (.cells #[v0, v1, v2, v3, v4, v5] 54))) := ((Kept.refl No w).alloc _).alloc _
  have hc1 := hc _ HK.out
  have HM : Hid (∀ w', Kept No ((w.alloc (.cells #[.int .i64 err, .func (.func k) #[] caps, .nilFunc, .nilFunc] 260)).alloc (.cells #[v0, v1, v2, v3, v4, v5] 54)) w' → w'.cell? ⟨w.heap.size, 0, none⟩ = some (.int .i64 err) ∧ w'.cell? ⟨w.heap.size, 1, none⟩ = some (.func (.func k) #[] caps) ∧ w'.cell? ⟨w.heap.size, 2, none⟩ = some (.nilFunc) ∧ w'.cell? ⟨w.heap.size, 3, none⟩ = some (.nilFunc)) := fun w' k => ⟨k.cell (by simp) (fun h => h), k.cell (by simp) (fun h => h), k.cell (by simp) (fun h => h), k.cell (by simp) (fun h => h)⟩
  clear hc
  unfold Enters at hen
  have q1 : ∀ w : World, (binOp .neq 146 (.func (.func k) #[] caps) .nilFunc).run Tryz.prog w = .ok (.bool true) w := fun w => by kernel_rfl
  have q2 : ∀ w : World, (binOp .neq 257 (.nilFunc) .nilFunc).run Tryz.prog w = .ok (.bool false) w := fun w => by kernel_rfl
  have q3 : ∀ w : World, (binOp .neq 258 .nilFunc .nilFunc).run Tryz.prog w = .ok (.bool false) w := fun w => by kernel_rfl
  go_enter Tryz.func173, Tryz.ntmps173
  go_wp2_with (go_at_fn k; refine hc1.mono ?_; rintro e w' ⟨rfl, hk⟩; have HK2 : Hid (Kept No w w') := HK.out.trans hk (fun _ h => h.elim); obtain ⟨m0, m1, m2, m3⟩ := HM.out _ hk; clear hk)
  go_ret
  exact ⟨rfl, HK2.out⟩

theorem findsPrc_alone (err : Int) (k : Nat) (caps : Array Value) (v0 v1 v2 v3 v4 v5 : Value) (aa : Option Addr) (an ac : Nat) (w : World) (hen : Enters Tryz.prog k) (b : Bool)
    (hc : ∀ w', Kept No w w' → Calls Tryz.prog k (#[(.agg #[v0, v1, v2, v3, v4, v5])] ++ caps) w' fun e w'' => e = .returned (.bool b) ∧ Kept No w' w'') :
    Calls Tryz.prog 173 #[.agg #[.int .i64 err, .func (.func k) #[] caps, .nilFunc, .nilFunc], (.agg #[v0, v1, v2, v3, v4, v5]), .slice aa an ac] w fun e w' => e = .returned (.int .i64 (if b then 0 else err)) ∧ Kept No w w' := by
  cases b
  · exact findsPrc_alone_false err k caps v0 v1 v2 v3 v4 v5 aa an ac w hen hc
  · exact findsPrc_alone_true err k caps v0 v1 v2 v3 v4 v5 aa an ac w hen hc

set_option maxHeartbeats 4000000 in
theorem findsPrc_behind_true (err : Int) (k : Nat) (caps : Array Value) (v0 v1 v2 v3 v4 v5 : Value) (aa : Option Addr) (an ac : Nat) (w : World) (hen : Enters Tryz.prog k)
    (hc : ∀ w', Kept No w w' → Calls Tryz.prog k (#[(.agg #[v0, v1, v2, v3, v4, v5]), .slice aa an ac] ++ caps) w' fun e w'' => e = .returned (.bool true) ∧ Kept No w' w'') :
    Calls Tryz.prog 173 #[.agg #[.int .i64 err, .nilFunc, .func (.func k) #[] caps, .nilFunc], (.agg #[v0, v1, v2, v3, v4, v5]), .slice aa an ac] w fun e w' => e = .returned (.int .i64 0) ∧ Kept No w w' := by
  have HK : Hid (Kept No w ((w.alloc (.cells #[.int .i64 err, .nilFunc, .func (.func k) #[] caps, .nilFunc] 260)).alloc (.cells #[v0, v1, v2, v3, v4, v5] 54))) := ((Kept.refl No w).alloc _).alloc _
  have hc1 := hc _ HK.out
  have HM : Hid (∀ w', Kept No ((w.alloc (.cells #[.int .i64 err, .nilFunc, .func (.func k) #[] caps, .nilFunc] 260)).alloc (.cells #[v0, v1, v2, v3, v4, v5] 54)) w' → w'.cell? ⟨w.heap.size, 0, none⟩ = some (.int .i64 err) ∧ w'.cell? ⟨w.heap.size, 1, none⟩ = some (.nilFunc) ∧ w'.cell? ⟨w.heap.size, 2, none⟩ = some (.func (.func k) #[] caps) ∧ w'.cell? ⟨w.heap.size, 3, none⟩ = some (.nilFunc)) := fun w' k => ⟨k.cell (by simp) (fun h => h), k.cell (by simp) (fun h => h), k.cell (by simp) (fun h => h), k.cell (by simp) (fun h => h)⟩
  clear hc
  unfold Enters at hen
  have q1 : ∀ w : World, (binOp .neq 146 (.nilFunc) .nilFunc).run Tryz.prog w = .ok (.bool false) w := fun w => by kernel_rfl
  have q2 : ∀ w : World, (binOp .neq 257 (.func (.func k) #[] caps) .nilFunc).run Tryz.prog w = .ok (.bool true) w := fun w => by kernel_rfl
  have q3 : ∀ w : World, (binOp .neq 258 .nilFunc .nilFunc).run Tryz.prog w = .ok (.bool false) w := fun w => by kernel_rfl
  go_enter Tryz.func173, Tryz.ntmps173
  go_wp2_with (go_at_fn k; refine hc1.mono ?_; rintro e w' ⟨rfl, hk⟩; have HK2 : Hid (Kept No w w') := HK.out.trans hk (fun _ h => h.elim); obtain ⟨m0, m1, m2, m3⟩ := HM.out _ hk; clear hk)
  go_ret
  exact ⟨rfl, HK2.out⟩

set_option maxHeartbeats 4000000 in
theorem findsPrc_behind_false (err : Int) (k : Nat) (caps : Array Value) (v0 v1 v2 v3 v4 v5 : Value) (aa : Option Addr) (an ac : Nat) (w : World) (hen : Enters Tryz.prog k)
    (hc : ∀ w', Kept No w w' → Calls Tryz.prog k (#[(.agg #[v0, v1, v2, v3, v4, v5]), .slice aa an ac] ++ caps) w' fun e w'' => e = .returned (.bool false) ∧ Kept No w' w'') :
    Calls Tryz.prog 173 #[.agg #[.int .i64 err, .nilFunc, .func (.func k) #[] caps, .nilFunc], (.agg #[v0, v1, v2, v3, v4, v5]), .slice aa an ac] w fun e w' => e = .returned (.int .i64 err) ∧ Kept No w w' := by
  have HK : Hid (Kept No w ((w.alloc (.cells #[.int .i64 err, .nilFunc, .func (.func k) #[] caps, .nilFunc] 260)).alloc (.cells #[v0, v1, v2, v3, v4, v5] 54))) := ((Kept.refl No w).alloc _).alloc _
  have hc1 := hc _ HK.out
  have HM : Hid (∀ w', Kept No ((w.alloc (.cells #[.int .i64 err, .nilFunc, .func (.func k) #[] caps, .nilFunc] 260)).alloc (.cells #[v0, v1, v2, v3, v4, v5] 54)) w' → w'.cell? ⟨w.heap.size, 0, none⟩ = some (.int .i64 err) ∧ w'.cell? ⟨w.heap.size, 1, none⟩ = some (.nilFunc) ∧ w'.cell? ⟨w.heap.size, 2, none⟩ = some (.func (.func k) #[] caps) ∧ w'.cell? ⟨w.heap.size, 3, none⟩ = some (.nilFunc)) := fun w' k => ⟨k.cell (by simp) (fun h => h), k.cell (by simp) (fun h => h), k.cell (by simp) (fun h => h), k.cell (by simp) (fun h => h)⟩
  clear hc
  unfold Enters at hen
  have q1 : ∀ w : World, (binOp .neq 146 (.nilFunc) .nilFunc).run Tryz.prog w = .ok (.bool false) w := fun w => by kernel_rfl
  have q2 : ∀ w : World, (binOp .neq 257 (.func (.func k) #[] caps) .nilFunc).run Tryz.prog w = .ok (.bool true) w := fun w => by kernel_rfl
  have q3 : ∀ w : World, (binOp .neq 258 .nilFunc .nilFunc).run Tryz.prog w = .ok (.bool false) w := fun w => by kernel_rfl
  go_enter Tryz.func173, Tryz.ntmps173
  go_wp2_with (go_at_fn k; refine hc1.mono ?_; rintro e w' ⟨rfl, hk⟩; have HK2 : Hid (Kept No w w') := HK.out.trans hk (fun _ h => h.elim); obtain ⟨m0, m1, m2, m3⟩ := HM.out _ hk; clear hk)
  go_ret
  exact ⟨rfl, HK2.out⟩

theorem findsPrc_behind (err : Int) (k : Nat) (caps : Array Value) (v0 v1 v2 v3 v4 v5 : Value) (aa : Option Addr) (an ac : Nat) (w : World) (hen : Enters Tryz.prog k) (b : Bool)
    (hc : ∀ w', Kept No w w' → Calls Tryz.prog k (#[(.agg #[v0, v1, v2, v3, v4, v5]), .slice aa an ac] ++ caps) w' fun e w'' => e = .returned (.bool b) ∧ Kept No w' w'') :
    Calls Tryz.prog 173 #[.agg #[.int .i64 err, .nilFunc, .func (.func k) #[] caps, .nilFunc], (.agg #[v0, v1, v2, v3, v4, v5]), .slice aa an ac] w fun e w' => e = .returned (.int .i64 (if b then 0 else err)) ∧ Kept No w w' := by
  cases b
  · exact findsPrc_behind_false err k caps v0 v1 v2 v3 v4 v5 aa an ac w hen hc
  · exact findsPrc_behind_true err k caps v0 v1 v2 v3 v4 v5 aa an ac w hen hc

end Go.Proofs.YtnmhcnppdhdhfaaGreatDoor
