/-
  One text: CFind.
-/
import Derived.Test.YtibmgpinfdcaoaaGreatDoorHCTold
import Derived.Laws.EntriesVeiled
import Derived.Shelf.Abstract
namespace Go.Proofs.YtibmgpinfdcaoaaGreatDoor
open Go.RowKit
set_option linter.unusedVariables false
set_option maxRecDepth 100000

/-- a function of the program as a value, with what it has captured -/
def fnv (k : Nat) (caps : Array Value) : Value := .func (.func k) #[] caps

set_option maxHeartbeats 4000000 in
theorem findsSv_alone_true (err : Int) (k : Nat) (caps : Array Value) (p b o q : Int) (aa : Option Addr) (an ac : Nat) (w : World) (hen : Enters Tryz.prog k)
    (hc : ∀ w', Kept No w w' → Calls Tryz.prog k (#[(.agg #[.int .i64 p, .int .i64 b, .int .i64 o, .int .i64 q])] ++ caps) w' fun e w'' => e = .returned (.bool true) ∧ Kept No w' w'') :
    Calls Tryz.prog 84 #[.agg #[.int .i64 err, .func (.func k) #[] caps, .nilFunc, .nilFunc], (.agg #[.int .i64 p, .int .i64 b, .int .i64 o, .int .i64 q]), .slice aa an ac] w fun e w' => e = .returned (.int .i64 0) ∧ Kept No w w' := by
  have HK : Hid (Kept No w ((w.alloc (.cells #[.int .i64 err, .func (.func k) #[] caps, .nilFunc, .nilFunc] 138)).alloc (.cells #[.int .i64 p, .int .i64 b, .int .i64 o, .int .i64 q] 40))) := ((Kept.refl No w).alloc _).alloc _
  have hc1 := hc _ HK.out
  have HM : Hid (∀ w', Kept No ((w.alloc (.cells #[.int .i64 err, .func (.func k) #[] caps, .nilFunc, .nilFunc] 138)).alloc (.cells #[.int .i64 p, .int .i64 b, .int .i64 o, .int .i64 q] 40)) w' → w'.cell? ⟨w.heap.size, 0, none⟩ = some (.int .i64 err) ∧ w'.cell? ⟨w.heap.size, 1, none⟩ = some (.func (.func k) #[] caps) ∧ w'.cell? ⟨w.heap.size, 2, none⟩ = some (.nilFunc) ∧ w'.cell? ⟨w.heap.size, 3, none⟩ = some (.nilFunc)) := fun w' k => ⟨k.cell (by simp) (fun h => h), k.cell (by simp) (fun h => h), k.cell (by simp) (fun h => h), k.cell (by simp) (fun h => h)⟩
  clear hc
  unfold Enters at hen
  have q1 : ∀ w : World, (binOp .neq 134 (.func (.func k) #[] caps) .nilFunc).run Tryz.prog w = .ok (.bool true) w := fun w => by kernel_rfl
  have q2 : ∀ w : World, (binOp .neq 135 (.nilFunc) .nilFunc).run Tryz.prog w = .ok (.bool false) w := fun w => by kernel_rfl
  have q3 : ∀ w : World, (binOp .neq 136 .nilFunc .nilFunc).run Tryz.prog w = .ok (.bool false) w := fun w => by kernel_rfl
  go_enter Tryz.func84, Tryz.ntmps84
  go_wp2_with (go_at_fn k; refine hc1.mono ?_; rintro e w' ⟨rfl, hk⟩; have HK2 : Hid (Kept No w w') := HK.out.trans hk (fun _ h => h.elim); obtain ⟨m0, m1, m2, m3⟩ := HM.out _ hk; clear hk)
  go_ret
  exact ⟨rfl, HK2.out⟩

set_option maxHeartbeats 4000000 in
theorem findsSv_alone_false (err : Int) (k : Nat) (caps : Array Value) (p b o q : Int) (aa : Option Addr) (an ac : Nat) (w : World) (hen : Enters Tryz.prog k)
    (hc : ∀ w', Kept No w w' → Calls Tryz.prog k (#[(.agg #[.int .i64 p, .int .i64 b, .int .i64 o, .int .i64 q])] ++ caps) w' fun e w'' => e = .returned (.bool false) ∧ Kept No w' w'') :
    Calls Tryz.prog 84 #[.agg #[.int .i64 err, .func (.func k) #[] caps, .nilFunc, .nilFunc], (.agg #[.int .i64 p, .int .i64 b, .int .i64 o, .int .i64 q]), .slice aa an ac] w fun e w' => e = .returned (.int .i64 err) ∧ Kept No w w' := by
  have HK : Hid (Kept No w ((w.alloc (.cells #[.int .i64 err, .func (.func k) #[] caps, .nilFunc, .nilFunc] 138)).alloc (.cells #[.int .i64 p, .int .i64 b, .int .i64 o, .int .i64 q] 40))) := ((Kept.refl No w).alloc _).alloc _
  have hc1 := hc _ HK.out
  have HM : Hid (∀ w', Kept No ((w.alloc (.cells #[.int .i64 err, .func (.func k) #[] caps, .nilFunc, .nilFunc] 138)).alloc (.cells #[.int .i64 p, .int .i64 b, .int .i64 o, .int .i64 q] 40)) w' → w'.cell? ⟨w.heap.size, 0, none⟩ = some (.int .i64 err) ∧ w'.cell? ⟨w.heap.size, 1, none⟩ = some (.func (.func k) #[] caps) ∧ w'.cell? ⟨w.heap.size, 2, none⟩ = some (.nilFunc) ∧ w'.cell? ⟨w.heap.size, 3, none⟩ = some (.nilFunc)) := fun w' k => ⟨k.cell (by simp) (fun h => h), k.cell (by simp) (fun h => h), k.cell (by simp) (fun h => h), k.cell (by simp) (fun h => h)⟩
  clear hc
  unfold Enters at hen
  have q1 : ∀ w : World, (binOp .neq 134 (.func (.func k) #[] caps) .nilFunc).run Tryz.prog w = .ok (.bool true) w := fun w => by kernel_rfl
  have q2 : ∀ w : World, (binOp .neq 135 (.nilFunc) .nilFunc).run Tryz.prog w = .ok (.bool false) w := fun w => by kernel_rfl
  have q3 : ∀ w : World, (binOp .neq 136 .nilFunc .nilFunc).run Tryz.prog w = .ok (.bool false) w := fun w => by kernel_rfl
  go_enter Tryz.func84, Tryz.ntmps84
  go_wp2_with (go_at_fn k; refine hc1.mono ?_; rintro e w' ⟨rfl, hk⟩; have HK2 : Hid (Kept No w w') := HK.out.trans hk (fun _ h => h.elim); obtain ⟨m0, m1, m2, m3⟩ := HM.out _ hk; clear hk)
  go_ret
  exact ⟨rfl, HK2.out⟩

set_option maxHeartbeats 4000000 in
theorem findsSv_behind_true (err : Int) (k : Nat) (caps : Array Value) (p b o q : Int) (aa : Option Addr) (an ac : Nat) (w : World) (hen : Enters Tryz.prog k)
    (hc : ∀ w', Kept No w w' → Calls Tryz.prog k (#[(.agg #[.int .i64 p, .int .i64 b, .int .i64 o, .int .i64 q]), .slice aa an ac] ++ caps) w' fun e w'' => e = .returned (.bool true) ∧ Kept No w' w'') :
    Calls Tryz.prog 84 #[.agg #[.int .i64 err, .nilFunc, .func (.func k) #[] caps, .nilFunc], (.agg #[.int .i64 p, .int .i64 b, .int .i64 o, .int .i64 q]), .slice aa an ac] w fun e w' => e = .returned (.int .i64 0) ∧ Kept No w w' := by
  have HK : Hid (Kept No w ((w.alloc (.cells #[.int .i64 err, .nilFunc, .func (.func k) #[] caps, .nilFunc] 138)).alloc (.cells #[.int .i64 p, .int .i64 b, .int .i64 o, .int .i64 q] 40))) := ((Kept.refl No w).alloc _).alloc _
  have hc1 := hc _ HK.out
  have HM : Hid (∀ w', Kept No ((w.alloc (.cells #[.int .i64 err, .nilFunc, .func (.func k) #[] caps, .nilFunc] 138)).alloc (.cells #[.int .i64 p, .int .i64 b, .int .i64 o, .int .i64 q] 40)) w' → w'.cell? ⟨w.heap.size, 0, none⟩ = some (.int .i64 err) ∧ w'.cell? ⟨w.heap.size, 1, none⟩ = some (.nilFunc) ∧ w'.cell? ⟨w.heap.size, 2, none⟩ = some (.func (.func k) #[] caps) ∧ w'.cell? ⟨w.heap.size, 3, none⟩ = some (.nilFunc)) := fun w' k => ⟨k.cell (by simp) (fun h => h), k.cell (by simp) (fun h => h), k.cell (by simp) (fun h => h), k.cell (by simp) (fun h => h)⟩
  clear hc
  unfold Enters at hen
  have q1 : ∀ w : World, (binOp .neq 134 (.nilFunc) .nilFunc).run Tryz.prog w = .ok (.bool false) w := fun w => by kernel_rfl
  have q2 : ∀ w : World, (binOp .neq 135 (.func (.func k) #[] caps) .nilFunc).run Tryz.prog w = .ok (.bool true) w := fun w => by kernel_rfl
  have q3 : ∀ w : World, (binOp .neq 136 .nilFunc .nilFunc).run Tryz.prog w = .ok (.bool false) w := fun w => by kernel_rfl
  go_enter Tryz.func84, Tryz.ntmps84
  go_wp2_with (go_at_fn k; refine hc1.mono ?_; rintro e w' ⟨rfl, hk⟩; have HK2 : Hid (Kept No w w') := HK.out.trans hk (fun _ h => h.elim); obtain ⟨m0, m1, m2, m3⟩ := HM.out _ hk; clear hk)
  go_ret
  exact ⟨rfl, HK2.out⟩

set_option maxHeartbeats 4000000 in
theorem findsSv_behind_false (err : Int) (k : Nat) (caps : Array Value) (p b o q : Int) (aa : Option Addr) (an ac : Nat) (w : World) (hen : Enters Tryz.prog k)
    (hc : ∀ w', Kept No w w' → Calls Tryz.prog k (#[(.agg #[.int .i64 p, .int .i64 b, .int .i64 o, .int .i64 q]), .slice aa an ac] ++ caps) w' fun e w'' => e = .returned (.bool false) ∧ Kept No w' w'') :
    Calls Tryz.prog 84 #[.agg #[.int .i64 err, .nilFunc, .func (.func k) #[] caps, .nilFunc], (.agg #[.int .i64 p, .int .i64 b, .int .i64 o, .int .i64 q]), .slice aa an ac] w fun e w' => e = .returned (.int .i64 err) ∧ Kept No w w' := by
  have HK : Hid (Kept No w ((w.alloc (.cells #[.int .i64 err, .nilFunc, .func (.func k) #[] caps, .nilFunc] 138)).alloc (.cells #[.int .i64 p, .int .i64 b, .int .i64 o, .int .i64 q] 40))) := ((Kept.refl No w).alloc _).alloc _
  have hc1 := hc _ HK.out
  have HM : Hid (∀ w', Kept No ((w.alloc (.cells #[.int .i64 err, .nilFunc, .func (.func k) #[] caps, .nilFunc] 138)).alloc (.cells #[.int .i64 p, .int .i64 b, .int .i64 o, .int .i64 q] 40)) w' → w'.cell? ⟨w.heap.size, 0, none⟩ = some (.int .i64 err) ∧ w'.cell? ⟨w.heap.size, 1, none⟩ = some (.nilFunc) ∧ w'.cell? ⟨w.heap.size, 2, none⟩ = some (.func (.func k) #[] caps) ∧ w'.cell? ⟨w.heap.size, 3, none⟩ = some (.nilFunc)) := fun w' k => ⟨k.cell (by simp) (fun h => h), k.cell (by simp) (fun h => h), k.cell (by simp) (fun h => h), k.cell (by simp) (fun h => h)⟩
  clear hc
  unfold Enters at hen
  have q1 : ∀ w : World, (binOp .neq 134 (.nilFunc) .nilFunc).run Tryz.prog w = .ok (.bool false) w := fun w => by kernel_rfl
  have q2 : ∀ w : World, (binOp .neq 135 (.func (.func k) #[] caps) .nilFunc).run Tryz.prog w = .ok (.bool true) w := fun w => by kernel_rfl
  have q3 : ∀ w : World, (binOp .neq 136 .nilFunc .nilFunc).run Tryz.prog w = .ok (.bool false) w := fun w => by kernel_rfl
  go_enter Tryz.func84, Tryz.ntmps84
  go_wp2_with (go_at_fn k; refine hc1.mono ?_; rintro e w' ⟨rfl, hk⟩; have HK2 : Hid (Kept No w w') := HK.out.trans hk (fun _ h => h.elim); obtain ⟨m0, m1, m2, m3⟩ := HM.out _ hk; clear hk)
  go_ret
  exact ⟨rfl, HK2.out⟩

set_option maxHeartbeats 4000000 in
theorem findsSl_alone_true (err : Int) (k : Nat) (caps : Array Value) (la : Option Addr) (ln lc : Nat) (aa : Option Addr) (an ac : Nat) (w : World) (hen : Enters Tryz.prog k)
    (hc : ∀ w', Kept No w w' → Calls Tryz.prog k (#[(.slice la ln lc)] ++ caps) w' fun e w'' => e = .returned (.bool true) ∧ Kept No w' w'') :
    Calls Tryz.prog 91 #[.agg #[.int .i64 err, .func (.func k) #[] caps, .nilFunc, .nilFunc], (.slice la ln lc), .slice aa an ac] w fun e w' => e = .returned (.int .i64 0) ∧ Kept No w w' := by
  have HK : Hid (Kept No w (w.alloc (.cells #[.int .i64 err, .func (.func k) #[] caps, .nilFunc, .nilFunc] 108))) := (Kept.refl No w).alloc _
  have hc1 := hc _ HK.out
  have HM : Hid (∀ w', Kept No (w.alloc (.cells #[.int .i64 err, .func (.func k) #[] caps, .nilFunc, .nilFunc] 108)) w' → w'.cell? ⟨w.heap.size, 0, none⟩ = some (.int .i64 err) ∧ w'.cell? ⟨w.heap.size, 1, none⟩ = some (.func (.func k) #[] caps) ∧ w'.cell? ⟨w.heap.size, 2, none⟩ = some (.nilFunc) ∧ w'.cell? ⟨w.heap.size, 3, none⟩ = some (.nilFunc)) := fun w' k => ⟨k.cell (by simp) (fun h => h), k.cell (by simp) (fun h => h), k.cell (by simp) (fun h => h), k.cell (by simp) (fun h => h)⟩
  clear hc
  unfold Enters at hen
  have q1 : ∀ w : World, (binOp .neq 105 (.func (.func k) #[] caps) .nilFunc).run Tryz.prog w = .ok (.bool true) w := fun w => by kernel_rfl
  have q2 : ∀ w : World, (binOp .neq 106 (.nilFunc) .nilFunc).run Tryz.prog w = .ok (.bool false) w := fun w => by kernel_rfl
  have q3 : ∀ w : World, (binOp .neq 68 .nilFunc .nilFunc).run Tryz.prog w = .ok (.bool false) w := fun w => by kernel_rfl
  go_enter Tryz.func91, Tryz.ntmps91
  go_wp2_with (go_at_fn k; refine hc1.mono ?_; rintro e w' ⟨rfl, hk⟩; have HK2 : Hid (Kept No w w') := HK.out.trans hk (fun _ h => h.elim); obtain ⟨m0, m1, m2, m3⟩ := HM.out _ hk; clear hk)
  go_ret
  exact ⟨rfl, HK2.out⟩

set_option maxHeartbeats 4000000 in
theorem findsSl_alone_false (err : Int) (k : Nat) (caps : Array Value) (la : Option Addr) (ln lc : Nat) (aa : Option Addr) (an ac : Nat) (w : World) (hen : Enters Tryz.prog k)
    (hc : ∀ w', Kept No w w' → Calls Tryz.prog k (#[(.slice la ln lc)] ++ caps) w' fun e w'' => e = .returned (.bool false) ∧ Kept No w' w'') :
    Calls Tryz.prog 91 #[.agg #[.int .i64 err, .func (.func k) #[] caps, .nilFunc, .nilFunc], (.slice la ln lc), .slice aa an ac] w fun e w' => e = .returned (.int .i64 err) ∧ Kept No w w' := by
  have HK : Hid (Kept No w (w.alloc (.cells #[.int .i64 err, .func (.func k) #[] caps, .nilFunc, .nilFunc] 108))) := (Kept.refl No w).alloc _
  have hc1 := hc _ HK.out
  have HM : Hid (∀ w', Kept No (w.alloc (.cells #[.int .i64 err, .func (.func k) #[] caps, .nilFunc, .nilFunc] 108)) w' → w'.cell? ⟨w.heap.size, 0, none⟩ = some (.int .i64 err) ∧ w'.cell? ⟨w.heap.size, 1, none⟩ = some (.func (.func k) #[] caps) ∧ w'.cell? ⟨w.heap.size, 2, none⟩ = some (.nilFunc) ∧ w'.cell? ⟨w.heap.size, 3, none⟩ = some (.nilFunc)) := fun w' k => ⟨k.cell (by simp) (fun h => h), k.cell (by simp) (fun h => h), k.cell (by simp) (fun h => h), k.cell (by simp) (fun h => h)⟩
  clear hc
  unfold Enters at hen
  have q1 : ∀ w : World, (binOp .neq 105 (.func (.func k) #[] caps) .nilFunc).run Tryz.prog w = .ok (.bool true) w := fun w => by kernel_rfl
  have q2 : ∀ w : World, (binOp .neq 106 (.nilFunc) .nilFunc).run Tryz.prog w = .ok (.bool false) w := fun w => by kernel_rfl
  have q3 : ∀ w : World, (binOp .neq 68 .nilFunc .nilFunc).run Tryz.prog w = .ok (.bool false) w := fun w => by kernel_rfl
  go_enter Tryz.func91, Tryz.ntmps91
  go_wp2_with (go_at_fn k; refine hc1.mono ?_; rintro e w' ⟨rfl, hk⟩; have HK2 : Hid (Kept No w w') := HK.out.trans hk (fun _ h => h.elim); obtain ⟨m0, m1, m2, m3⟩ := HM.out _ hk; clear hk)
  go_ret
  exact ⟨rfl, HK2.out⟩

set_option maxHeartbeats 4000000 in
theorem findsSl_behind_true (err : Int) (k : Nat) (caps : Array Value) (la : Option Addr) (ln lc : Nat) (aa : Option Addr) (an ac : Nat) (w : World) (hen : Enters Tryz.prog k)
    (hc : ∀ w', Kept No w w' → Calls Tryz.prog k (#[(.slice la ln lc), .slice aa an ac] ++ caps) w' fun e w'' => e = .returned (.bool true) ∧ Kept No w' w'') :
    Calls Tryz.prog 91 #[.agg #[.int .i64 err, .nilFunc, .func (.func k) #[] caps, .nilFunc], (.slice la ln lc), .slice aa an ac] w fun e w' => e = .returned (.int .i64 0) ∧ Kept No w w' := by
  have HK : Hid (Kept No w (w.alloc (.cells #[.int .i64 err, .nilFunc, .func (.func k) #[] caps, .nilFunc] 108))) := (Kept.refl No w).alloc _
  have hc1 := hc _ HK.out
  have HM : Hid (∀ w', Kept No (w.alloc (.cells #[.int .i64 err, .nilFunc, .func (.func k) #[] caps, .nilFunc] 108)) w' → w'.cell? ⟨w.heap.size, 0, none⟩ = some (.int .i64 err) ∧ w'.cell? ⟨w.heap.size, 1, none⟩ = some (.nilFunc) ∧ w'.cell? ⟨w.heap.size, 2, none⟩ = some (.func (.func k) #[] caps) ∧ w'.cell? ⟨w.heap.size, 3, none⟩ = some (.nilFunc)) := fun w' k => ⟨k.cell (by simp) (fun h => h), k.cell (by simp) (fun h => h), k.cell (by simp) (fun h => h), k.cell (by simp) (fun h => h)⟩
  clear hc
  unfold Enters at hen
  have q1 : ∀ w : World, (binOp .neq 105 (.nilFunc) .nilFunc).run Tryz.prog w = .ok (.bool false) w := fun w => by kernel_rfl
  have q2 : ∀ w : World, (binOp .neq 106 (.func (.func k) #[] caps) .nilFunc).run Tryz.prog w = .ok (.bool true) w := fun w => by kernel_rfl
  have q3 : ∀ w : World, (binOp .neq 68 .nilFunc .nilFunc).run Tryz.prog w = .ok (.bool false) w := fun w => by kernel_rfl
  go_enter Tryz.func91, Tryz.ntmps91
  go_wp2_with (go_at_fn k; refine hc1.mono ?_; rintro e w' ⟨rfl, hk⟩; have HK2 : Hid (Kept No w w') := HK.out.trans hk (fun _ h => h.elim); obtain ⟨m0, m1, m2, m3⟩ := HM.out _ hk; clear hk)
  go_ret
  exact ⟨rfl, HK2.out⟩

set_option maxHeartbeats 4000000 in
theorem findsSl_behind_false (err : Int) (k : Nat) (caps : Array Value) (la : Option Addr) (ln lc : Nat) (aa : Option Addr) (an ac : Nat) (w : World) (hen : Enters Tryz.prog k)
    (hc : ∀ w', Kept No w w' → Calls Tryz.prog k (#[(.slice la ln lc), .slice aa an ac] ++ caps) w' fun e w'' => e = .returned (.bool false) ∧ Kept No w' w'') :
    Calls Tryz.prog 91 #[.agg #[.int .i64 err, .nilFunc, .func (.func k) #[] caps, .nilFunc], (.slice la ln lc), .slice aa an ac] w fun e w' => e = .returned (.int .i64 err) ∧ Kept No w w' := by
  have HK : Hid (Kept No w (w.alloc (.cells #[.int .i64 err, .nilFunc, .func (.func k) #[] caps, .nilFunc] 108))) := (Kept.refl No w).alloc _
  have hc1 := hc _ HK.out
  have HM : Hid (∀ w', Kept No (w.alloc (.cells #[.int .i64 err, .nilFunc, .func (.func k) #[] caps, .nilFunc] 108)) w' → w'.cell? ⟨w.heap.size, 0, none⟩ = some (.int .i64 err) ∧ w'.cell? ⟨w.heap.size, 1, none⟩ = some (.nilFunc) ∧ w'.cell? ⟨w.heap.size, 2, none⟩ = some (.func (.func k) #[] caps) ∧ w'.cell? ⟨w.heap.size, 3, none⟩ = some (.nilFunc)) := fun w' k => ⟨k.cell (by simp) (fun h => h), k.cell (by simp) (fun h => h), k.cell (by simp) (fun h => h), k.cell (by simp) (fun h => h)⟩
  clear hc
  unfold Enters at hen
  have q1 : ∀ w : World, (binOp .neq 105 (.nilFunc) .nilFunc).run Tryz.prog w = .ok (.bool false) w := fun w => by kernel_rfl
  have q2 : ∀ w : World, (binOp .neq 106 (.func (.func k) #[] caps) .nilFunc).run Tryz.prog w = .ok (.bool true) w := fun w => by kernel_rfl
  have q3 : ∀ w : World, (binOp .neq 68 .nilFunc .nilFunc).run Tryz.prog w = .ok (.bool false) w := fun w => by kernel_rfl
  go_enter Tryz.func91, Tryz.ntmps91
  go_wp2_with (go_at_fn k; refine hc1.mono ?_; rintro e w' ⟨rfl, hk⟩; have HK2 : Hid (Kept No w w') := HK.out.trans hk (fun _ h => h.elim); obtain ⟨m0, m1, m2, m3⟩ := HM.out _ hk; clear hk)
  go_ret
  exact ⟨rfl, HK2.out⟩

end Go.Proofs.YtibmgpinfdcaoaaGreatDoor
