/-
  Which events go.
-/
import Derived.Test.YtjhhldgbllbbhaaGreatDoorVShow
namespace Go.Proofs.YtjhhldgbllbbhaaGreatDoor
open Go.RowKit
set_option linter.unusedVariables false
set_option linter.unusedSimpArgs false
set_option maxRecDepth 100000

def Ev.Go (x : Ev) : Prop := (0 ≤ x.tk) ∧ (x.tk < 1099511627776) ∧ (1 ≤ x.pt) ∧ (x.pt ≤ 32) ∧ (1 ≤ x.kd) ∧ (x.kd ≤ 12) ∧ (0 ≤ x.pr) ∧ (x.pr ≤ 16) ∧ ((x.d.length : Int) ≤ 16)
instance (x : Ev) : Decidable x.Go := inferInstanceAs (Decidable ((0 ≤ x.tk) ∧ (x.tk < 1099511627776) ∧ (1 ≤ x.pt) ∧ (x.pt ≤ 32) ∧ (1 ≤ x.kd) ∧ (x.kd ≤ 12) ∧ (0 ≤ x.pr) ∧ (x.pr ≤ 16) ∧ ((x.d.length : Int) ≤ 16)))
set_option maxHeartbeats 4000000 in
theorem got_0 {x : Ev} {da : Option Addr} {dc : Nat} (w : World) (h0 : ¬ (0 ≤ x.tk)) :
    Calls Tryz.prog 13 #[.agg (x.val da dc)] w fun r w' => r = .returned (.bool false) ∧ Kept No w w' := by
  obtain ⟨w2, e2⟩ : ∃ w2, w2 = w.alloc (.cells #[.int .i64 x.tk, .int .i64 x.pt, .int .i64 x.kd, .int .i64 x.pr, .int .i64 x.ea, .int .i64 x.eb, .slice da x.d.length dc] 25) := ⟨_, rfl⟩
  have K1 : Kept No w w2 := by rw [e2]; exact (Kept.refl No w).alloc _
  have BA : w2.heap[w.heap.size]? = some (.cells #[.int .i64 x.tk, .int .i64 x.pt, .int .i64 x.kd, .int .i64 x.pr, .int .i64 x.ea, .int .i64 x.eb, .slice da x.d.length dc] 25) := by rw [e2]; exact alloc_new w _
  have c0 : w2.cell? ⟨w.heap.size, 0, none⟩ = some (.int .i64 x.tk) := (cell_blk BA 0).trans rfl
  have HH := hid K1
  clear K1 BA
  show Calls Tryz.prog 13 #[.agg #[.int .i64 x.tk, .int .i64 x.pt, .int .i64 x.kd, .int .i64 x.pr, .int .i64 x.ea, .int .i64 x.eb, .slice da x.d.length dc]] w _
  go_enter Tryz.func13, Tryz.ntmps13
  go_upto_region 1 with fail
  rw [← e2]
  clear e2
  generalize x.tk = z0 at *
  generalize x.pt = z1 at *
  generalize x.kd = z2 at *
  generalize x.pr = z3 at *
  go_wp2
  go_ret
  exact ⟨rfl, HH.out⟩
set_option maxHeartbeats 4000000 in
theorem got_1 {x : Ev} {da : Option Addr} {dc : Nat} (w : World) (h0 : 0 ≤ x.tk) (h1 : ¬ (x.tk < 1099511627776)) :
    Calls Tryz.prog 13 #[.agg (x.val da dc)] w fun r w' => r = .returned (.bool false) ∧ Kept No w w' := by
  obtain ⟨w2, e2⟩ : ∃ w2, w2 = w.alloc (.cells #[.int .i64 x.tk, .int .i64 x.pt, .int .i64 x.kd, .int .i64 x.pr, .int .i64 x.ea, .int .i64 x.eb, .slice da x.d.length dc] 25) := ⟨_, rfl⟩
  have K1 : Kept No w w2 := by rw [e2]; exact (Kept.refl No w).alloc _
  have BA : w2.heap[w.heap.size]? = some (.cells #[.int .i64 x.tk, .int .i64 x.pt, .int .i64 x.kd, .int .i64 x.pr, .int .i64 x.ea, .int .i64 x.eb, .slice da x.d.length dc] 25) := by rw [e2]; exact alloc_new w _
  have c0 : w2.cell? ⟨w.heap.size, 0, none⟩ = some (.int .i64 x.tk) := (cell_blk BA 0).trans rfl
  have HH := hid K1
  clear K1 BA
  show Calls Tryz.prog 13 #[.agg #[.int .i64 x.tk, .int .i64 x.pt, .int .i64 x.kd, .int .i64 x.pr, .int .i64 x.ea, .int .i64 x.eb, .slice da x.d.length dc]] w _
  go_enter Tryz.func13, Tryz.ntmps13
  go_upto_region 1 with fail
  rw [← e2]
  clear e2
  generalize x.tk = z0 at *
  generalize x.pt = z1 at *
  generalize x.kd = z2 at *
  generalize x.pr = z3 at *
  go_wp2
  go_ret
  exact ⟨rfl, HH.out⟩
set_option maxHeartbeats 4000000 in
theorem got_2 {x : Ev} {da : Option Addr} {dc : Nat} (w : World) (h0 : 0 ≤ x.tk) (h1 : x.tk < 1099511627776) (h2 : ¬ (1 ≤ x.pt)) :
    Calls Tryz.prog 13 #[.agg (x.val da dc)] w fun r w' => r = .returned (.bool false) ∧ Kept No w w' := by
  obtain ⟨w2, e2⟩ : ∃ w2, w2 = w.alloc (.cells #[.int .i64 x.tk, .int .i64 x.pt, .int .i64 x.kd, .int .i64 x.pr, .int .i64 x.ea, .int .i64 x.eb, .slice da x.d.length dc] 25) := ⟨_, rfl⟩
  have K1 : Kept No w w2 := by rw [e2]; exact (Kept.refl No w).alloc _
  have BA : w2.heap[w.heap.size]? = some (.cells #[.int .i64 x.tk, .int .i64 x.pt, .int .i64 x.kd, .int .i64 x.pr, .int .i64 x.ea, .int .i64 x.eb, .slice da x.d.length dc] 25) := by rw [e2]; exact alloc_new w _
  have c0 : w2.cell? ⟨w.heap.size, 0, none⟩ = some (.int .i64 x.tk) := (cell_blk BA 0).trans rfl
  have c1 : w2.cell? ⟨w.heap.size, 1, none⟩ = some (.int .i64 x.pt) := (cell_blk BA 1).trans rfl
  have HH := hid K1
  clear K1 BA
  show Calls Tryz.prog 13 #[.agg #[.int .i64 x.tk, .int .i64 x.pt, .int .i64 x.kd, .int .i64 x.pr, .int .i64 x.ea, .int .i64 x.eb, .slice da x.d.length dc]] w _
  go_enter Tryz.func13, Tryz.ntmps13
  go_upto_region 1 with fail
  rw [← e2]
  clear e2
  generalize x.tk = z0 at *
  generalize x.pt = z1 at *
  generalize x.kd = z2 at *
  generalize x.pr = z3 at *
  go_wp2
  go_ret
  exact ⟨rfl, HH.out⟩
set_option maxHeartbeats 4000000 in
theorem got_3 {x : Ev} {da : Option Addr} {dc : Nat} (w : World) (h0 : 0 ≤ x.tk) (h1 : x.tk < 1099511627776) (h2 : 1 ≤ x.pt) (h3 : ¬ (x.pt ≤ 32)) :
    Calls Tryz.prog 13 #[.agg (x.val da dc)] w fun r w' => r = .returned (.bool false) ∧ Kept No w w' := by
  obtain ⟨w2, e2⟩ : ∃ w2, w2 = w.alloc (.cells #[.int .i64 x.tk, .int .i64 x.pt, .int .i64 x.kd, .int .i64 x.pr, .int .i64 x.ea, .int .i64 x.eb, .slice da x.d.length dc] 25) := ⟨_, rfl⟩
  have K1 : Kept No w w2 := by rw [e2]; exact (Kept.refl No w).alloc _
  have BA : w2.heap[w.heap.size]? = some (.cells #[.int .i64 x.tk, .int .i64 x.pt, .int .i64 x.kd, .int .i64 x.pr, .int .i64 x.ea, .int .i64 x.eb, .slice da x.d.length dc] 25) := by rw [e2]; exact alloc_new w _
  have c0 : w2.cell? ⟨w.heap.size, 0, none⟩ = some (.int .i64 x.tk) := (cell_blk BA 0).trans rfl
  have c1 : w2.cell? ⟨w.heap.size, 1, none⟩ = some (.int .i64 x.pt) := (cell_blk BA 1).trans rfl
  have HH := hid K1
  clear K1 BA
  show Calls Tryz.prog 13 #[.agg #[.int .i64 x.tk, .int .i64 x.pt, .int .i64 x.kd, .int .i64 x.pr, .int .i64 x.ea, .int .i64 x.eb, .slice da x.d.length dc]] w _
  go_enter Tryz.func13, Tryz.ntmps13
  go_upto_region 1 with fail
  rw [← e2]
  clear e2
  generalize x.tk = z0 at *
  generalize x.pt = z1 at *
  generalize x.kd = z2 at *
  generalize x.pr = z3 at *
  go_wp2
  go_ret
  exact ⟨rfl, HH.out⟩
set_option maxHeartbeats 4000000 in
theorem got_4 {x : Ev} {da : Option Addr} {dc : Nat} (w : World) (h0 : 0 ≤ x.tk) (h1 : x.tk < 1099511627776) (h2 : 1 ≤ x.pt) (h3 : x.pt ≤ 32) (h4 : ¬ (1 ≤ x.kd)) :
    Calls Tryz.prog 13 #[.agg (x.val da dc)] w fun r w' => r = .returned (.bool false) ∧ Kept No w w' := by
  obtain ⟨w2, e2⟩ : ∃ w2, w2 = w.alloc (.cells #[.int .i64 x.tk, .int .i64 x.pt, .int .i64 x.kd, .int .i64 x.pr, .int .i64 x.ea, .int .i64 x.eb, .slice da x.d.length dc] 25) := ⟨_, rfl⟩
  have K1 : Kept No w w2 := by rw [e2]; exact (Kept.refl No w).alloc _
  have BA : w2.heap[w.heap.size]? = some (.cells #[.int .i64 x.tk, .int .i64 x.pt, .int .i64 x.kd, .int .i64 x.pr, .int .i64 x.ea, .int .i64 x.eb, .slice da x.d.length dc] 25) := by rw [e2]; exact alloc_new w _
  have c0 : w2.cell? ⟨w.heap.size, 0, none⟩ = some (.int .i64 x.tk) := (cell_blk BA 0).trans rfl
  have c1 : w2.cell? ⟨w.heap.size, 1, none⟩ = some (.int .i64 x.pt) := (cell_blk BA 1).trans rfl
  have c2 : w2.cell? ⟨w.heap.size, 2, none⟩ = some (.int .i64 x.kd) := (cell_blk BA 2).trans rfl
  have HH := hid K1
  clear K1 BA
  show Calls Tryz.prog 13 #[.agg #[.int .i64 x.tk, .int .i64 x.pt, .int .i64 x.kd, .int .i64 x.pr, .int .i64 x.ea, .int .i64 x.eb, .slice da x.d.length dc]] w _
  go_enter Tryz.func13, Tryz.ntmps13
  go_upto_region 1 with fail
  rw [← e2]
  clear e2
  generalize x.tk = z0 at *
  generalize x.pt = z1 at *
  generalize x.kd = z2 at *
  generalize x.pr = z3 at *
  go_wp2
  go_ret
  exact ⟨rfl, HH.out⟩
set_option maxHeartbeats 4000000 in
theorem got_5 {x : Ev} {da : Option Addr} {dc : Nat} (w : World) (h0 : 0 ≤ x.tk) (h1 : x.tk < 1099511627776) (h2 : 1 ≤ x.pt) (h3 : x.pt ≤ 32) (h4 : 1 ≤ x.kd) (h5 : ¬ (x.kd ≤ 12)) :
    Calls Tryz.prog 13 #[.agg (x.val da dc)] w fun r w' => r = .returned (.bool false) ∧ Kept No w w' := by
  obtain ⟨w2, e2⟩ : ∃ w2, w2 = w.alloc (.cells #[.int .i64 x.tk, .int .i64 x.pt, .int .i64 x.kd, .int .i64 x.pr, .int .i64 x.ea, .int .i64 x.eb, .slice da x.d.length dc] 25) := ⟨_, rfl⟩
  have K1 : Kept No w w2 := by rw [e2]; exact (Kept.refl No w).alloc _
  have BA : w2.heap[w.heap.size]? = some (.cells #[.int .i64 x.tk, .int .i64 x.pt, .int .i64 x.kd, .int .i64 x.pr, .int .i64 x.ea, .int .i64 x.eb, .slice da x.d.length dc] 25) := by rw [e2]; exact alloc_new w _
  have c0 : w2.cell? ⟨w.heap.size, 0, none⟩ = some (.int .i64 x.tk) := (cell_blk BA 0).trans rfl
  have c1 : w2.cell? ⟨w.heap.size, 1, none⟩ = some (.int .i64 x.pt) := (cell_blk BA 1).trans rfl
  have c2 : w2.cell? ⟨w.heap.size, 2, none⟩ = some (.int .i64 x.kd) := (cell_blk BA 2).trans rfl
  have HH := hid K1
  clear K1 BA
  show Calls Tryz.prog 13 #[.agg #[.int .i64 x.tk, .int .i64 x.pt, .int .i64 x.kd, .int .i64 x.pr, .int .i64 x.ea, .int .i64 x.eb, .slice da x.d.length dc]] w _
  go_enter Tryz.func13, Tryz.ntmps13
  go_upto_region 1 with fail
  rw [← e2]
  clear e2
  generalize x.tk = z0 at *
  generalize x.pt = z1 at *
  generalize x.kd = z2 at *
  generalize x.pr = z3 at *
  go_wp2
  go_ret
  exact ⟨rfl, HH.out⟩
set_option maxHeartbeats 4000000 in
theorem got_6 {x : Ev} {da : Option Addr} {dc : Nat} (w : World) (h0 : 0 ≤ x.tk) (h1 : x.tk < 1099511627776) (h2 : 1 ≤ x.pt) (h3 : x.pt ≤ 32) (h4 : 1 ≤ x.kd) (h5 : x.kd ≤ 12) (h6 : ¬ (0 ≤ x.pr)) :
    Calls Tryz.prog 13 #[.agg (x.val da dc)] w fun r w' => r = .returned (.bool false) ∧ Kept No w w' := by
  obtain ⟨w2, e2⟩ : ∃ w2, w2 = w.alloc (.cells #[.int .i64 x.tk, .int .i64 x.pt, .int .i64 x.kd, .int .i64 x.pr, .int .i64 x.ea, .int .i64 x.eb, .slice da x.d.length dc] 25) := ⟨_, rfl⟩
  have K1 : Kept No w w2 := by rw [e2]; exact (Kept.refl No w).alloc _
  have BA : w2.heap[w.heap.size]? = some (.cells #[.int .i64 x.tk, .int .i64 x.pt, .int .i64 x.kd, .int .i64 x.pr, .int .i64 x.ea, .int .i64 x.eb, .slice da x.d.length dc] 25) := by rw [e2]; exact alloc_new w _
  have c0 : w2.cell? ⟨w.heap.size, 0, none⟩ = some (.int .i64 x.tk) := (cell_blk BA 0).trans rfl
  have c1 : w2.cell? ⟨w.heap.size, 1, none⟩ = some (.int .i64 x.pt) := (cell_blk BA 1).trans rfl
  have c2 : w2.cell? ⟨w.heap.size, 2, none⟩ = some (.int .i64 x.kd) := (cell_blk BA 2).trans rfl
  have c3 : w2.cell? ⟨w.heap.size, 3, none⟩ = some (.int .i64 x.pr) := (cell_blk BA 3).trans rfl
  have HH := hid K1
  clear K1 BA
  show Calls Tryz.prog 13 #[.agg #[.int .i64 x.tk, .int .i64 x.pt, .int .i64 x.kd, .int .i64 x.pr, .int .i64 x.ea, .int .i64 x.eb, .slice da x.d.length dc]] w _
  go_enter Tryz.func13, Tryz.ntmps13
  go_upto_region 1 with fail
  rw [← e2]
  clear e2
  generalize x.tk = z0 at *
  generalize x.pt = z1 at *
  generalize x.kd = z2 at *
  generalize x.pr = z3 at *
  go_wp2
  go_ret
  exact ⟨rfl, HH.out⟩
set_option maxHeartbeats 4000000 in
theorem got_7 {x : Ev} {da : Option Addr} {dc : Nat} (w : World) (h0 : 0 ≤ x.tk) (h1 : x.tk < 1099511627776) (h2 : 1 ≤ x.pt) (h3 : x.pt ≤ 32) (h4 : 1 ≤ x.kd) (h5 : x.kd ≤ 12) (h6 : 0 ≤ x.pr) (h7 : ¬ (x.pr ≤ 16)) :
    Calls Tryz.prog 13 #[.agg (x.val da dc)] w fun r w' => r = .returned (.bool false) ∧ Kept No w w' := by
  obtain ⟨w2, e2⟩ : ∃ w2, w2 = w.alloc (.cells #[.int .i64 x.tk, .int .i64 x.pt, .int .i64 x.kd, .int .i64 x.pr, .int .i64 x.ea, .int .i64 x.eb, .slice da x.d.length dc] 25) := ⟨_, rfl⟩
  have K1 : Kept No w w2 := by rw [e2]; exact (Kept.refl No w).alloc _
  have BA : w2.heap[w.heap.size]? = some (.cells #[.int .i64 x.tk, .int .i64 x.pt, .int .i64 x.kd, .int .i64 x.pr, .int .i64 x.ea, .int .i64 x.eb, .slice da x.d.length dc] 25) := by rw [e2]; exact alloc_new w _
  have c0 : w2.cell? ⟨w.heap.size, 0, none⟩ = some (.int .i64 x.tk) := (cell_blk BA 0).trans rfl
  have c1 : w2.cell? ⟨w.heap.size, 1, none⟩ = some (.int .i64 x.pt) := (cell_blk BA 1).trans rfl
  have c2 : w2.cell? ⟨w.heap.size, 2, none⟩ = some (.int .i64 x.kd) := (cell_blk BA 2).trans rfl
  have c3 : w2.cell? ⟨w.heap.size, 3, none⟩ = some (.int .i64 x.pr) := (cell_blk BA 3).trans rfl
  have HH := hid K1
  clear K1 BA
  show Calls Tryz.prog 13 #[.agg #[.int .i64 x.tk, .int .i64 x.pt, .int .i64 x.kd, .int .i64 x.pr, .int .i64 x.ea, .int .i64 x.eb, .slice da x.d.length dc]] w _
  go_enter Tryz.func13, Tryz.ntmps13
  go_upto_region 1 with fail
  rw [← e2]
  clear e2
  generalize x.tk = z0 at *
  generalize x.pt = z1 at *
  generalize x.kd = z2 at *
  generalize x.pr = z3 at *
  go_wp2
  go_ret
  exact ⟨rfl, HH.out⟩
set_option maxHeartbeats 4000000 in
theorem got_8 {x : Ev} {da : Option Addr} {dc : Nat} (w : World) (h0 : 0 ≤ x.tk) (h1 : x.tk < 1099511627776) (h2 : 1 ≤ x.pt) (h3 : x.pt ≤ 32) (h4 : 1 ≤ x.kd) (h5 : x.kd ≤ 12) (h6 : 0 ≤ x.pr) (h7 : x.pr ≤ 16) (h8 : ¬ ((x.d.length : Int) ≤ 16)) :
    Calls Tryz.prog 13 #[.agg (x.val da dc)] w fun r w' => r = .returned (.bool false) ∧ Kept No w w' := by
  obtain ⟨w2, e2⟩ : ∃ w2, w2 = w.alloc (.cells #[.int .i64 x.tk, .int .i64 x.pt, .int .i64 x.kd, .int .i64 x.pr, .int .i64 x.ea, .int .i64 x.eb, .slice da x.d.length dc] 25) := ⟨_, rfl⟩
  have K1 : Kept No w w2 := by rw [e2]; exact (Kept.refl No w).alloc _
  have BA : w2.heap[w.heap.size]? = some (.cells #[.int .i64 x.tk, .int .i64 x.pt, .int .i64 x.kd, .int .i64 x.pr, .int .i64 x.ea, .int .i64 x.eb, .slice da x.d.length dc] 25) := by rw [e2]; exact alloc_new w _
  have c0 : w2.cell? ⟨w.heap.size, 0, none⟩ = some (.int .i64 x.tk) := (cell_blk BA 0).trans rfl
  have c1 : w2.cell? ⟨w.heap.size, 1, none⟩ = some (.int .i64 x.pt) := (cell_blk BA 1).trans rfl
  have c2 : w2.cell? ⟨w.heap.size, 2, none⟩ = some (.int .i64 x.kd) := (cell_blk BA 2).trans rfl
  have c3 : w2.cell? ⟨w.heap.size, 3, none⟩ = some (.int .i64 x.pr) := (cell_blk BA 3).trans rfl
  have c6 : w2.cell? ⟨w.heap.size, 6, none⟩ = some (.slice da x.d.length dc) := (cell_blk BA 6).trans rfl
  have HH := hid K1
  clear K1 BA
  show Calls Tryz.prog 13 #[.agg #[.int .i64 x.tk, .int .i64 x.pt, .int .i64 x.kd, .int .i64 x.pr, .int .i64 x.ea, .int .i64 x.eb, .slice da x.d.length dc]] w _
  go_enter Tryz.func13, Tryz.ntmps13
  go_upto_region 1 with fail
  rw [← e2]
  clear e2
  generalize x.tk = z0 at *
  generalize x.pt = z1 at *
  generalize x.kd = z2 at *
  generalize x.pr = z3 at *
  go_wp2
  go_ret
  exact ⟨rfl, HH.out⟩
set_option maxHeartbeats 4000000 in
theorem got_9 {x : Ev} {da : Option Addr} {dc : Nat} (w : World) (h0 : 0 ≤ x.tk) (h1 : x.tk < 1099511627776) (h2 : 1 ≤ x.pt) (h3 : x.pt ≤ 32) (h4 : 1 ≤ x.kd) (h5 : x.kd ≤ 12) (h6 : 0 ≤ x.pr) (h7 : x.pr ≤ 16) (h8 : (x.d.length : Int) ≤ 16) :
    Calls Tryz.prog 13 #[.agg (x.val da dc)] w fun r w' => r = .returned (.bool true) ∧ Kept No w w' := by
  obtain ⟨w2, e2⟩ : ∃ w2, w2 = w.alloc (.cells #[.int .i64 x.tk, .int .i64 x.pt, .int .i64 x.kd, .int .i64 x.pr, .int .i64 x.ea, .int .i64 x.eb, .slice da x.d.length dc] 25) := ⟨_, rfl⟩
  have K1 : Kept No w w2 := by rw [e2]; exact (Kept.refl No w).alloc _
  have BA : w2.heap[w.heap.size]? = some (.cells #[.int .i64 x.tk, .int .i64 x.pt, .int .i64 x.kd, .int .i64 x.pr, .int .i64 x.ea, .int .i64 x.eb, .slice da x.d.length dc] 25) := by rw [e2]; exact alloc_new w _
  have c0 : w2.cell? ⟨w.heap.size, 0, none⟩ = some (.int .i64 x.tk) := (cell_blk BA 0).trans rfl
  have c1 : w2.cell? ⟨w.heap.size, 1, none⟩ = some (.int .i64 x.pt) := (cell_blk BA 1).trans rfl
  have c2 : w2.cell? ⟨w.heap.size, 2, none⟩ = some (.int .i64 x.kd) := (cell_blk BA 2).trans rfl
  have c3 : w2.cell? ⟨w.heap.size, 3, none⟩ = some (.int .i64 x.pr) := (cell_blk BA 3).trans rfl
  have c6 : w2.cell? ⟨w.heap.size, 6, none⟩ = some (.slice da x.d.length dc) := (cell_blk BA 6).trans rfl
  have HH := hid K1
  clear K1 BA
  show Calls Tryz.prog 13 #[.agg #[.int .i64 x.tk, .int .i64 x.pt, .int .i64 x.kd, .int .i64 x.pr, .int .i64 x.ea, .int .i64 x.eb, .slice da x.d.length dc]] w _
  go_enter Tryz.func13, Tryz.ntmps13
  go_upto_region 1 with fail
  rw [← e2]
  clear e2
  generalize x.tk = z0 at *
  generalize x.pt = z1 at *
  generalize x.kd = z2 at *
  generalize x.pr = z3 at *
  go_wp2
  go_ret
  exact ⟨rfl, HH.out⟩
theorem goest_any {x : Ev} {da : Option Addr} {dc : Nat} (w : World) :
    Calls Tryz.prog 13 #[.agg (x.val da dc)] w fun r w' => r = .returned (.bool (decide x.Go)) ∧ Kept No w w' := by
  by_cases h0 : 0 ≤ x.tk
  rotate_left
  · rw [decide_eq_false (fun h : x.Go => h0 h.1)]
    exact got_0 w h0
  by_cases h1 : x.tk < 1099511627776
  rotate_left
  · rw [decide_eq_false (fun h : x.Go => h1 h.2.1)]
    exact got_1 w h0 h1
  by_cases h2 : 1 ≤ x.pt
  rotate_left
  · rw [decide_eq_false (fun h : x.Go => h2 h.2.2.1)]
    exact got_2 w h0 h1 h2
  by_cases h3 : x.pt ≤ 32
  rotate_left
  · rw [decide_eq_false (fun h : x.Go => h3 h.2.2.2.1)]
    exact got_3 w h0 h1 h2 h3
  by_cases h4 : 1 ≤ x.kd
  rotate_left
  · rw [decide_eq_false (fun h : x.Go => h4 h.2.2.2.2.1)]
    exact got_4 w h0 h1 h2 h3 h4
  by_cases h5 : x.kd ≤ 12
  rotate_left
  · rw [decide_eq_false (fun h : x.Go => h5 h.2.2.2.2.2.1)]
    exact got_5 w h0 h1 h2 h3 h4 h5
  by_cases h6 : 0 ≤ x.pr
  rotate_left
  · rw [decide_eq_false (fun h : x.Go => h6 h.2.2.2.2.2.2.1)]
    exact got_6 w h0 h1 h2 h3 h4 h5 h6
  by_cases h7 : x.pr ≤ 16
  rotate_left
  · rw [decide_eq_false (fun h : x.Go => h7 h.2.2.2.2.2.2.2.1)]
    exact got_7 w h0 h1 h2 h3 h4 h5 h6 h7
  by_cases h8 : (x.d.length : Int) ≤ 16
  rotate_left
  · rw [decide_eq_false (fun h : x.Go => h8 h.2.2.2.2.2.2.2.2)]
    exact got_8 w h0 h1 h2 h3 h4 h5 h6 h7 h8
  rw [decide_eq_true (show x.Go from ⟨h0, h1, h2, h3, h4, h5, h6, h7, h8⟩)]
  exact got_9 w h0 h1 h2 h3 h4 h5 h6 h7 h8
set_option maxHeartbeats 4000000 in
theorem gol_0 {x : Ev} {da : Option Addr} {dc : Nat} (w : World) (h0 : ¬ (0 ≤ x.tk)) :
    Calls Tryz.prog 6 #[.agg (x.val da dc)] w fun r w' => r = .returned (.bool false) ∧ Kept No w w' := by
  obtain ⟨w2, e2⟩ : ∃ w2, w2 = w.alloc (.cells #[.int .i64 x.tk, .int .i64 x.pt, .int .i64 x.kd, .int .i64 x.pr, .int .i64 x.ea, .int .i64 x.eb, .slice da x.d.length dc] 25) := ⟨_, rfl⟩
  have K1 : Kept No w w2 := by rw [e2]; exact (Kept.refl No w).alloc _
  have BA : w2.heap[w.heap.size]? = some (.cells #[.int .i64 x.tk, .int .i64 x.pt, .int .i64 x.kd, .int .i64 x.pr, .int .i64 x.ea, .int .i64 x.eb, .slice da x.d.length dc] 25) := by rw [e2]; exact alloc_new w _
  have c0 : w2.cell? ⟨w.heap.size, 0, none⟩ = some (.int .i64 x.tk) := (cell_blk BA 0).trans rfl
  have HH := hid K1
  clear K1 BA
  show Calls Tryz.prog 6 #[.agg #[.int .i64 x.tk, .int .i64 x.pt, .int .i64 x.kd, .int .i64 x.pr, .int .i64 x.ea, .int .i64 x.eb, .slice da x.d.length dc]] w _
  go_enter Tryz.func6, Tryz.ntmps6
  go_upto_region 1 with fail
  rw [← e2]
  clear e2
  generalize x.tk = z0 at *
  generalize x.pt = z1 at *
  generalize x.kd = z2 at *
  generalize x.pr = z3 at *
  go_wp2
  go_ret
  exact ⟨rfl, HH.out⟩
set_option maxHeartbeats 4000000 in
theorem gol_1 {x : Ev} {da : Option Addr} {dc : Nat} (w : World) (h0 : 0 ≤ x.tk) (h1 : ¬ (x.tk < 1099511627776)) :
    Calls Tryz.prog 6 #[.agg (x.val da dc)] w fun r w' => r = .returned (.bool false) ∧ Kept No w w' := by
  obtain ⟨w2, e2⟩ : ∃ w2, w2 = w.alloc (.cells #[.int .i64 x.tk, .int .i64 x.pt, .int .i64 x.kd, .int .i64 x.pr, .int .i64 x.ea, .int .i64 x.eb, .slice da x.d.length dc] 25) := ⟨_, rfl⟩
  have K1 : Kept No w w2 := by rw [e2]; exact (Kept.refl No w).alloc _
  have BA : w2.heap[w.heap.size]? = some (.cells #[.int .i64 x.tk, .int .i64 x.pt, .int .i64 x.kd, .int .i64 x.pr, .int .i64 x.ea, .int .i64 x.eb, .slice da x.d.length dc] 25) := by rw [e2]; exact alloc_new w _
  have c0 : w2.cell? ⟨w.heap.size, 0, none⟩ = some (.int .i64 x.tk) := (cell_blk BA 0).trans rfl
  have HH := hid K1
  clear K1 BA
  show Calls Tryz.prog 6 #[.agg #[.int .i64 x.tk, .int .i64 x.pt, .int .i64 x.kd, .int .i64 x.pr, .int .i64 x.ea, .int .i64 x.eb, .slice da x.d.length dc]] w _
  go_enter Tryz.func6, Tryz.ntmps6
  go_upto_region 1 with fail
  rw [← e2]
  clear e2
  generalize x.tk = z0 at *
  generalize x.pt = z1 at *
  generalize x.kd = z2 at *
  generalize x.pr = z3 at *
  go_wp2
  go_ret
  exact ⟨rfl, HH.out⟩
set_option maxHeartbeats 4000000 in
theorem gol_2 {x : Ev} {da : Option Addr} {dc : Nat} (w : World) (h0 : 0 ≤ x.tk) (h1 : x.tk < 1099511627776) (h2 : ¬ (1 ≤ x.pt)) :
    Calls Tryz.prog 6 #[.agg (x.val da dc)] w fun r w' => r = .returned (.bool false) ∧ Kept No w w' := by
  obtain ⟨w2, e2⟩ : ∃ w2, w2 = w.alloc (.cells #[.int .i64 x.tk, .int .i64 x.pt, .int .i64 x.kd, .int .i64 x.pr, .int .i64 x.ea, .int .i64 x.eb, .slice da x.d.length dc] 25) := ⟨_, rfl⟩
  have K1 : Kept No w w2 := by rw [e2]; exact (Kept.refl No w).alloc _
  have BA : w2.heap[w.heap.size]? = some (.cells #[.int .i64 x.tk, .int .i64 x.pt, .int .i64 x.kd, .int .i64 x.pr, .int .i64 x.ea, .int .i64 x.eb, .slice da x.d.length dc] 25) := by rw [e2]; exact alloc_new w _
  have c0 : w2.cell? ⟨w.heap.size, 0, none⟩ = some (.int .i64 x.tk) := (cell_blk BA 0).trans rfl
  have c1 : w2.cell? ⟨w.heap.size, 1, none⟩ = some (.int .i64 x.pt) := (cell_blk BA 1).trans rfl
  have HH := hid K1
  clear K1 BA
  show Calls Tryz.prog 6 #[.agg #[.int .i64 x.tk, .int .i64 x.pt, .int .i64 x.kd, .int .i64 x.pr, .int .i64 x.ea, .int .i64 x.eb, .slice da x.d.length dc]] w _
  go_enter Tryz.func6, Tryz.ntmps6
  go_upto_region 1 with fail
  rw [← e2]
  clear e2
  generalize x.tk = z0 at *
  generalize x.pt = z1 at *
  generalize x.kd = z2 at *
  generalize x.pr = z3 at *
  go_wp2
  go_ret
  exact ⟨rfl, HH.out⟩
set_option maxHeartbeats 4000000 in
theorem gol_3 {x : Ev} {da : Option Addr} {dc : Nat} (w : World) (h0 : 0 ≤ x.tk) (h1 : x.tk < 1099511627776) (h2 : 1 ≤ x.pt) (h3 : ¬ (x.pt ≤ 32)) :
    Calls Tryz.prog 6 #[.agg (x.val da dc)] w fun r w' => r = .returned (.bool false) ∧ Kept No w w' := by
  obtain ⟨w2, e2⟩ : ∃ w2, w2 = w.alloc (.cells #[.int .i64 x.tk, .int .i64 x.pt, .int .i64 x.kd, .int .i64 x.pr, .int .i64 x.ea, .int .i64 x.eb, .slice da x.d.length dc] 25) := ⟨_, rfl⟩
  have K1 : Kept No w w2 := by rw [e2]; exact (Kept.refl No w).alloc _
  have BA : w2.heap[w.heap.size]? = some (.cells #[.int .i64 x.tk, .int .i64 x.pt, .int .i64 x.kd, .int .i64 x.pr, .int .i64 x.ea, .int .i64 x.eb, .slice da x.d.length dc] 25) := by rw [e2]; exact alloc_new w _
  have c0 : w2.cell? ⟨w.heap.size, 0, none⟩ = some (.int .i64 x.tk) := (cell_blk BA 0).trans rfl
  have c1 : w2.cell? ⟨w.heap.size, 1, none⟩ = some (.int .i64 x.pt) := (cell_blk BA 1).trans rfl
  have HH := hid K1
  clear K1 BA
  show Calls Tryz.prog 6 #[.agg #[.int .i64 x.tk, .int .i64 x.pt, .int .i64 x.kd, .int .i64 x.pr, .int .i64 x.ea, .int .i64 x.eb, .slice da x.d.length dc]] w _
  go_enter Tryz.func6, Tryz.ntmps6
  go_upto_region 1 with fail
  rw [← e2]
  clear e2
  generalize x.tk = z0 at *
  generalize x.pt = z1 at *
  generalize x.kd = z2 at *
  generalize x.pr = z3 at *
  go_wp2
  go_ret
  exact ⟨rfl, HH.out⟩
set_option maxHeartbeats 4000000 in
theorem gol_4 {x : Ev} {da : Option Addr} {dc : Nat} (w : World) (h0 : 0 ≤ x.tk) (h1 : x.tk < 1099511627776) (h2 : 1 ≤ x.pt) (h3 : x.pt ≤ 32) (h4 : ¬ (1 ≤ x.kd)) :
    Calls Tryz.prog 6 #[.agg (x.val da dc)] w fun r w' => r = .returned (.bool false) ∧ Kept No w w' := by
  obtain ⟨w2, e2⟩ : ∃ w2, w2 = w.alloc (.cells #[.int .i64 x.tk, .int .i64 x.pt, .int .i64 x.kd, .int .i64 x.pr, .int .i64 x.ea, .int .i64 x.eb, .slice da x.d.length dc] 25) := ⟨_, rfl⟩
  have K1 : Kept No w w2 := by rw [e2]; exact (Kept.refl No w).alloc _
  have BA : w2.heap[w.heap.size]? = some (.cells #[.int .i64 x.tk, .int .i64 x.pt, .int .i64 x.kd, .int .i64 x.pr, .int .i64 x.ea, .int .i64 x.eb, .slice da x.d.length dc] 25) := by rw [e2]; exact alloc_new w _
  have c0 : w2.cell? ⟨w.heap.size, 0, none⟩ = some (.int .i64 x.tk) := (cell_blk BA 0).trans rfl
  have c1 : w2.cell? ⟨w.heap.size, 1, none⟩ = some (.int .i64 x.pt) := (cell_blk BA 1).trans rfl
  have c2 : w2.cell? ⟨w.heap.size, 2, none⟩ = some (.int .i64 x.kd) := (cell_blk BA 2).trans rfl
  have HH := hid K1
  clear K1 BA
  show Calls Tryz.prog 6 #[.agg #[.int .i64 x.tk, .int .i64 x.pt, .int .i64 x.kd, .int .i64 x.pr, .int .i64 x.ea, .int .i64 x.eb, .slice da x.d.length dc]] w _
  go_enter Tryz.func6, Tryz.ntmps6
  go_upto_region 1 with fail
  rw [← e2]
  clear e2
  generalize x.tk = z0 at *
  generalize x.pt = z1 at *
  generalize x.kd = z2 at *
  generalize x.pr = z3 at *
  go_wp2
  go_ret
  exact ⟨rfl, HH.out⟩
set_option maxHeartbeats 4000000 in
theorem gol_5 {x : Ev} {da : Option Addr} {dc : Nat} (w : World) (h0 : 0 ≤ x.tk) (h1 : x.tk < 1099511627776) (h2 : 1 ≤ x.pt) (h3 : x.pt ≤ 32) (h4 : 1 ≤ x.kd) (h5 : ¬ (x.kd ≤ 12)) :
    Calls Tryz.prog 6 #[.agg (x.val da dc)] w fun r w' => r = .returned (.bool false) ∧ Kept No w w' := by
  obtain ⟨w2, e2⟩ : ∃ w2, w2 = w.alloc (.cells #[.int .i64 x.tk, .int .i64 x.pt, .int .i64 x.kd, .int .i64 x.pr, .int .i64 x.ea, .int .i64 x.eb, .slice da x.d.length dc] 25) := ⟨_, rfl⟩
  have K1 : Kept No w w2 := by rw [e2]; exact (Kept.refl No w).alloc _
  have BA : w2.heap[w.heap.size]? = some (.cells #[.int .i64 x.tk, .int .i64 x.pt, .int .i64 x.kd, .int .i64 x.pr, .int .i64 x.ea, .int .i64 x.eb, .slice da x.d.length dc] 25) := by rw [e2]; exact alloc_new w _
  have c0 : w2.cell? ⟨w.heap.size, 0, none⟩ = some (.int .i64 x.tk) := (cell_blk BA 0).trans rfl
  have c1 : w2.cell? ⟨w.heap.size, 1, none⟩ = some (.int .i64 x.pt) := (cell_blk BA 1).trans rfl
  have c2 : w2.cell? ⟨w.heap.size, 2, none⟩ = some (.int .i64 x.kd) := (cell_blk BA 2).trans rfl
  have HH := hid K1
  clear K1 BA
  show Calls Tryz.prog 6 #[.agg #[.int .i64 x.tk, .int .i64 x.pt, .int .i64 x.kd, .int .i64 x.pr, .int .i64 x.ea, .int .i64 x.eb, .slice da x.d.length dc]] w _
  go_enter Tryz.func6, Tryz.ntmps6
  go_upto_region 1 with fail
  rw [← e2]
  clear e2
  generalize x.tk = z0 at *
  generalize x.pt = z1 at *
  generalize x.kd = z2 at *
  generalize x.pr = z3 at *
  go_wp2
  go_ret
  exact ⟨rfl, HH.out⟩
set_option maxHeartbeats 4000000 in
theorem gol_6 {x : Ev} {da : Option Addr} {dc : Nat} (w : World) (h0 : 0 ≤ x.tk) (h1 : x.tk < 1099511627776) (h2 : 1 ≤ x.pt) (h3 : x.pt ≤ 32) (h4 : 1 ≤ x.kd) (h5 : x.kd ≤ 12) (h6 : ¬ (0 ≤ x.pr)) :
    Calls Tryz.prog 6 #[.agg (x.val da dc)] w fun r w' => r = .returned (.bool false) ∧ Kept No w w' := by
  obtain ⟨w2, e2⟩ : ∃ w2, w2 = w.alloc (.cells #[.int .i64 x.tk, .int .i64 x.pt, .int .i64 x.kd, .int .i64 x.pr, .int .i64 x.ea, .int .i64 x.eb, .slice da x.d.length dc] 25) := ⟨_, rfl⟩
  have K1 : Kept No w w2 := by rw [e2]; exact (Kept.refl No w).alloc _
  have BA : w2.heap[w.heap.size]? = some (.cells #[.int .i64 x.tk, .int .i64 x.pt, .int .i64 x.kd, .int .i64 x.pr, .int .i64 x.ea, .int .i64 x.eb, .slice da x.d.length dc] 25) := by rw [e2]; exact alloc_new w _
  have c0 : w2.cell? ⟨w.heap.size, 0, none⟩ = some (.int .i64 x.tk) := (cell_blk BA 0).trans rfl
  have c1 : w2.cell? ⟨w.heap.size, 1, none⟩ = some (.int .i64 x.pt) := (cell_blk BA 1).trans rfl
  have c2 : w2.cell? ⟨w.heap.size, 2, none⟩ = some (.int .i64 x.kd) := (cell_blk BA 2).trans rfl
  have c3 : w2.cell? ⟨w.heap.size, 3, none⟩ = some (.int .i64 x.pr) := (cell_blk BA 3).trans rfl
  have HH := hid K1
  clear K1 BA
  show Calls Tryz.prog 6 #[.agg #[.int .i64 x.tk, .int .i64 x.pt, .int .i64 x.kd, .int .i64 x.pr, .int .i64 x.ea, .int .i64 x.eb, .slice da x.d.length dc]] w _
  go_enter Tryz.func6, Tryz.ntmps6
  go_upto_region 1 with fail
  rw [← e2]
  clear e2
  generalize x.tk = z0 at *
  generalize x.pt = z1 at *
  generalize x.kd = z2 at *
  generalize x.pr = z3 at *
  go_wp2
  go_ret
  exact ⟨rfl, HH.out⟩
set_option maxHeartbeats 4000000 in
theorem gol_7 {x : Ev} {da : Option Addr} {dc : Nat} (w : World) (h0 : 0 ≤ x.tk) (h1 : x.tk < 1099511627776) (h2 : 1 ≤ x.pt) (h3 : x.pt ≤ 32) (h4 : 1 ≤ x.kd) (h5 : x.kd ≤ 12) (h6 : 0 ≤ x.pr) (h7 : ¬ (x.pr ≤ 16)) :
    Calls Tryz.prog 6 #[.agg (x.val da dc)] w fun r w' => r = .returned (.bool false) ∧ Kept No w w' := by
  obtain ⟨w2, e2⟩ : ∃ w2, w2 = w.alloc (.cells #[.int .i64 x.tk, .int .i64 x.pt, .int .i64 x.kd, .int .i64 x.pr, .int .i64 x.ea, .int .i64 x.eb, .slice da x.d.length dc] 25) := ⟨_, rfl⟩
  have K1 : Kept No w w2 := by rw [e2]; exact (Kept.refl No w).alloc _
  have BA : w2.heap[w.heap.size]? = some (.cells #[.int .i64 x.tk, .int .i64 x.pt, .int .i64 x.kd, .int .i64 x.pr, .int .i64 x.ea, .int .i64 x.eb, .slice da x.d.length dc] 25) := by rw [e2]; exact alloc_new w _
  have c0 : w2.cell? ⟨w.heap.size, 0, none⟩ = some (.int .i64 x.tk) := (cell_blk BA 0).trans rfl
  have c1 : w2.cell? ⟨w.heap.size, 1, none⟩ = some (.int .i64 x.pt) := (cell_blk BA 1).trans rfl
  have c2 : w2.cell? ⟨w.heap.size, 2, none⟩ = some (.int .i64 x.kd) := (cell_blk BA 2).trans rfl
  have c3 : w2.cell? ⟨w.heap.size, 3, none⟩ = some (.int .i64 x.pr) := (cell_blk BA 3).trans rfl
  have HH := hid K1
  clear K1 BA
  show Calls Tryz.prog 6 #[.agg #[.int .i64 x.tk, .int .i64 x.pt, .int .i64 x.kd, .int .i64 x.pr, .int .i64 x.ea, .int .i64 x.eb, .slice da x.d.length dc]] w _
  go_enter Tryz.func6, Tryz.ntmps6
  go_upto_region 1 with fail
  rw [← e2]
  clear e2
  generalize x.tk = z0 at *
  generalize x.pt = z1 at *
  generalize x.kd = z2 at *
  generalize x.pr = z3 at *
  go_wp2
  go_ret
  exact ⟨rfl, HH.out⟩
set_option maxHeartbeats 4000000 in
theorem gol_8 {x : Ev} {da : Option Addr} {dc : Nat} (w : World) (h0 : 0 ≤ x.tk) (h1 : x.tk < 1099511627776) (h2 : 1 ≤ x.pt) (h3 : x.pt ≤ 32) (h4 : 1 ≤ x.kd) (h5 : x.kd ≤ 12) (h6 : 0 ≤ x.pr) (h7 : x.pr ≤ 16) (h8 : ¬ ((x.d.length : Int) ≤ 16)) :
    Calls Tryz.prog 6 #[.agg (x.val da dc)] w fun r w' => r = .returned (.bool false) ∧ Kept No w w' := by
  obtain ⟨w2, e2⟩ : ∃ w2, w2 = w.alloc (.cells #[.int .i64 x.tk, .int .i64 x.pt, .int .i64 x.kd, .int .i64 x.pr, .int .i64 x.ea, .int .i64 x.eb, .slice da x.d.length dc] 25) := ⟨_, rfl⟩
  have K1 : Kept No w w2 := by rw [e2]; exact (Kept.refl No w).alloc _
  have BA : w2.heap[w.heap.size]? = some (.cells #[.int .i64 x.tk, .int .i64 x.pt, .int .i64 x.kd, .int .i64 x.pr, .int .i64 x.ea, .int .i64 x.eb, .slice da x.d.length dc] 25) := by rw [e2]; exact alloc_new w _
  have c0 : w2.cell? ⟨w.heap.size, 0, none⟩ = some (.int .i64 x.tk) := (cell_blk BA 0).trans rfl
  have c1 : w2.cell? ⟨w.heap.size, 1, none⟩ = some (.int .i64 x.pt) := (cell_blk BA 1).trans rfl
  have c2 : w2.cell? ⟨w.heap.size, 2, none⟩ = some (.int .i64 x.kd) := (cell_blk BA 2).trans rfl
  have c3 : w2.cell? ⟨w.heap.size, 3, none⟩ = some (.int .i64 x.pr) := (cell_blk BA 3).trans rfl
  have c6 : w2.cell? ⟨w.heap.size, 6, none⟩ = some (.slice da x.d.length dc) := (cell_blk BA 6).trans rfl
  have HH := hid K1
  clear K1 BA
  show Calls Tryz.prog 6 #[.agg #[.int .i64 x.tk, .int .i64 x.pt, .int .i64 x.kd, .int .i64 x.pr, .int .i64 x.ea, .int .i64 x.eb, .slice da x.d.length dc]] w _
  go_enter Tryz.func6, Tryz.ntmps6
  go_upto_region 1 with fail
  rw [← e2]
  clear e2
  generalize x.tk = z0 at *
  generalize x.pt = z1 at *
  generalize x.kd = z2 at *
  generalize x.pr = z3 at *
  go_wp2
  go_ret
  exact ⟨rfl, HH.out⟩
set_option maxHeartbeats 4000000 in
theorem gol_9 {x : Ev} {da : Option Addr} {dc : Nat} (w : World) (h0 : 0 ≤ x.tk) (h1 : x.tk < 1099511627776) (h2 : 1 ≤ x.pt) (h3 : x.pt ≤ 32) (h4 : 1 ≤ x.kd) (h5 : x.kd ≤ 12) (h6 : 0 ≤ x.pr) (h7 : x.pr ≤ 16) (h8 : (x.d.length : Int) ≤ 16) :
    Calls Tryz.prog 6 #[.agg (x.val da dc)] w fun r w' => r = .returned (.bool true) ∧ Kept No w w' := by
  obtain ⟨w2, e2⟩ : ∃ w2, w2 = w.alloc (.cells #[.int .i64 x.tk, .int .i64 x.pt, .int .i64 x.kd, .int .i64 x.pr, .int .i64 x.ea, .int .i64 x.eb, .slice da x.d.length dc] 25) := ⟨_, rfl⟩
  have K1 : Kept No w w2 := by rw [e2]; exact (Kept.refl No w).alloc _
  have BA : w2.heap[w.heap.size]? = some (.cells #[.int .i64 x.tk, .int .i64 x.pt, .int .i64 x.kd, .int .i64 x.pr, .int .i64 x.ea, .int .i64 x.eb, .slice da x.d.length dc] 25) := by rw [e2]; exact alloc_new w _
  have c0 : w2.cell? ⟨w.heap.size, 0, none⟩ = some (.int .i64 x.tk) := (cell_blk BA 0).trans rfl
  have c1 : w2.cell? ⟨w.heap.size, 1, none⟩ = some (.int .i64 x.pt) := (cell_blk BA 1).trans rfl
  have c2 : w2.cell? ⟨w.heap.size, 2, none⟩ = some (.int .i64 x.kd) := (cell_blk BA 2).trans rfl
  have c3 : w2.cell? ⟨w.heap.size, 3, none⟩ = some (.int .i64 x.pr) := (cell_blk BA 3).trans rfl
  have c6 : w2.cell? ⟨w.heap.size, 6, none⟩ = some (.slice da x.d.length dc) := (cell_blk BA 6).trans rfl
  have HH := hid K1
  clear K1 BA
  show Calls Tryz.prog 6 #[.agg #[.int .i64 x.tk, .int .i64 x.pt, .int .i64 x.kd, .int .i64 x.pr, .int .i64 x.ea, .int .i64 x.eb, .slice da x.d.length dc]] w _
  go_enter Tryz.func6, Tryz.ntmps6
  go_upto_region 1 with fail
  rw [← e2]
  clear e2
  generalize x.tk = z0 at *
  generalize x.pt = z1 at *
  generalize x.kd = z2 at *
  generalize x.pr = z3 at *
  go_wp2
  go_ret
  exact ⟨rfl, HH.out⟩
theorem goesl_any {x : Ev} {da : Option Addr} {dc : Nat} (w : World) :
    Calls Tryz.prog 6 #[.agg (x.val da dc)] w fun r w' => r = .returned (.bool (decide x.Go)) ∧ Kept No w w' := by
  by_cases h0 : 0 ≤ x.tk
  rotate_left
  · rw [decide_eq_false (fun h : x.Go => h0 h.1)]
    exact gol_0 w h0
  by_cases h1 : x.tk < 1099511627776
  rotate_left
  · rw [decide_eq_false (fun h : x.Go => h1 h.2.1)]
    exact gol_1 w h0 h1
  by_cases h2 : 1 ≤ x.pt
  rotate_left
  · rw [decide_eq_false (fun h : x.Go => h2 h.2.2.1)]
    exact gol_2 w h0 h1 h2
  by_cases h3 : x.pt ≤ 32
  rotate_left
  · rw [decide_eq_false (fun h : x.Go => h3 h.2.2.2.1)]
    exact gol_3 w h0 h1 h2 h3
  by_cases h4 : 1 ≤ x.kd
  rotate_left
  · rw [decide_eq_false (fun h : x.Go => h4 h.2.2.2.2.1)]
    exact gol_4 w h0 h1 h2 h3 h4
  by_cases h5 : x.kd ≤ 12
  rotate_left
  · rw [decide_eq_false (fun h : x.Go => h5 h.2.2.2.2.2.1)]
    exact gol_5 w h0 h1 h2 h3 h4 h5
  by_cases h6 : 0 ≤ x.pr
  rotate_left
  · rw [decide_eq_false (fun h : x.Go => h6 h.2.2.2.2.2.2.1)]
    exact gol_6 w h0 h1 h2 h3 h4 h5 h6
  by_cases h7 : x.pr ≤ 16
  rotate_left
  · rw [decide_eq_false (fun h : x.Go => h7 h.2.2.2.2.2.2.2.1)]
    exact gol_7 w h0 h1 h2 h3 h4 h5 h6 h7
  by_cases h8 : (x.d.length : Int) ≤ 16
  rotate_left
  · rw [decide_eq_false (fun h : x.Go => h8 h.2.2.2.2.2.2.2.2)]
    exact gol_8 w h0 h1 h2 h3 h4 h5 h6 h7 h8
  rw [decide_eq_true (show x.Go from ⟨h0, h1, h2, h3, h4, h5, h6, h7, h8⟩)]
  exact gol_9 w h0 h1 h2 h3 h4 h5 h6 h7 h8
end Go.Proofs.YtjhhldgbllbbhaaGreatDoor
