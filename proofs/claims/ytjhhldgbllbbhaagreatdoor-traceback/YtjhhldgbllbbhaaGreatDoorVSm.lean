/-
  The document's Same: of any two events.
-/
import Derived.Test.YtjhhldgbllbbhaaGreatDoorVEv
namespace Go.Proofs.YtjhhldgbllbbhaaGreatDoor
open Go.RowKit
set_option linter.unusedVariables false
set_option linter.unusedSimpArgs false
set_option maxRecDepth 100000

set_option maxHeartbeats 4000000 in
theorem sme_0 {F G : Nat → Prop} {x y : Ev} {da ea : Option Addr} {dc ec : Nat} (w : World) (hx : Ir w F x da dc) (hy : Ir w G y ea ec) (h0 : (x.tk != y.tk) = true) :
    Calls Tryz.prog 9 #[.agg (x.val da dc), .agg (y.val ea ec)] w fun r w' => r = .returned (.bool false) ∧ Kept No w w' := by
  obtain ⟨w2, e2, K1, ix, iy, BA, BR⟩ := one_boxes w hx hy
  have x0 : w2.cell? ⟨w.heap.size, 0, none⟩ = some (.int .i64 x.tk) := (cell_blk BA 0).trans rfl
  have y0 : w2.cell? ⟨w.heap.size + 1, 0, none⟩ = some (.int .i64 y.tk) := (cell_blk BR 0).trans rfl
  have HH := hid K1
  clear K1 BA BR hx hy ix iy
  show Calls Tryz.prog 9 #[.agg #[.int .i64 x.tk, .int .i64 x.pt, .int .i64 x.kd, .int .i64 x.pr, .int .i64 x.ea, .int .i64 x.eb, .slice da x.d.length dc], .agg #[.int .i64 y.tk, .int .i64 y.pt, .int .i64 y.kd, .int .i64 y.pr, .int .i64 y.ea, .int .i64 y.eb, .slice ea y.d.length ec]] w _
  go_enter Tryz.func9, Tryz.ntmps9
  go_upto_region 1 with fail
  rw [← e2]
  clear e2
  go_wp2
  go_ret
  exact ⟨rfl, HH.out⟩

set_option maxHeartbeats 4000000 in
theorem sme_1 {F G : Nat → Prop} {x y : Ev} {da ea : Option Addr} {dc ec : Nat} (w : World) (hx : Ir w F x da dc) (hy : Ir w G y ea ec) (h0 : (x.tk != y.tk) = false) (h1 : (x.pt != y.pt) = true) :
    Calls Tryz.prog 9 #[.agg (x.val da dc), .agg (y.val ea ec)] w fun r w' => r = .returned (.bool false) ∧ Kept No w w' := by
  obtain ⟨w2, e2, K1, ix, iy, BA, BR⟩ := one_boxes w hx hy
  have x0 : w2.cell? ⟨w.heap.size, 0, none⟩ = some (.int .i64 x.tk) := (cell_blk BA 0).trans rfl
  have y0 : w2.cell? ⟨w.heap.size + 1, 0, none⟩ = some (.int .i64 y.tk) := (cell_blk BR 0).trans rfl
  have x1 : w2.cell? ⟨w.heap.size, 1, none⟩ = some (.int .i64 x.pt) := (cell_blk BA 1).trans rfl
  have y1 : w2.cell? ⟨w.heap.size + 1, 1, none⟩ = some (.int .i64 y.pt) := (cell_blk BR 1).trans rfl
  have HH := hid K1
  clear K1 BA BR hx hy ix iy
  show Calls Tryz.prog 9 #[.agg #[.int .i64 x.tk, .int .i64 x.pt, .int .i64 x.kd, .int .i64 x.pr, .int .i64 x.ea, .int .i64 x.eb, .slice da x.d.length dc], .agg #[.int .i64 y.tk, .int .i64 y.pt, .int .i64 y.kd, .int .i64 y.pr, .int .i64 y.ea, .int .i64 y.eb, .slice ea y.d.length ec]] w _
  go_enter Tryz.func9, Tryz.ntmps9
  go_upto_region 1 with fail
  rw [← e2]
  clear e2
  go_wp2
  go_ret
  exact ⟨rfl, HH.out⟩

set_option maxHeartbeats 4000000 in
theorem sme_2 {F G : Nat → Prop} {x y : Ev} {da ea : Option Addr} {dc ec : Nat} (w : World) (hx : Ir w F x da dc) (hy : Ir w G y ea ec) (h0 : (x.tk != y.tk) = false) (h1 : (x.pt != y.pt) = false) (h2 : (x.kd != y.kd) = true) :
    Calls Tryz.prog 9 #[.agg (x.val da dc), .agg (y.val ea ec)] w fun r w' => r = .returned (.bool false) ∧ Kept No w w' := by
  obtain ⟨w2, e2, K1, ix, iy, BA, BR⟩ := one_boxes w hx hy
  have x0 : w2.cell? ⟨w.heap.size, 0, none⟩ = some (.int .i64 x.tk) := (cell_blk BA 0).trans rfl
  have y0 : w2.cell? ⟨w.heap.size + 1, 0, none⟩ = some (.int .i64 y.tk) := (cell_blk BR 0).trans rfl
  have x1 : w2.cell? ⟨w.heap.size, 1, none⟩ = some (.int .i64 x.pt) := (cell_blk BA 1).trans rfl
  have y1 : w2.cell? ⟨w.heap.size + 1, 1, none⟩ = some (.int .i64 y.pt) := (cell_blk BR 1).trans rfl
  have x2 : w2.cell? ⟨w.heap.size, 2, none⟩ = some (.int .i64 x.kd) := (cell_blk BA 2).trans rfl
  have y2 : w2.cell? ⟨w.heap.size + 1, 2, none⟩ = some (.int .i64 y.kd) := (cell_blk BR 2).trans rfl
  have HH := hid K1
  clear K1 BA BR hx hy ix iy
  show Calls Tryz.prog 9 #[.agg #[.int .i64 x.tk, .int .i64 x.pt, .int .i64 x.kd, .int .i64 x.pr, .int .i64 x.ea, .int .i64 x.eb, .slice da x.d.length dc], .agg #[.int .i64 y.tk, .int .i64 y.pt, .int .i64 y.kd, .int .i64 y.pr, .int .i64 y.ea, .int .i64 y.eb, .slice ea y.d.length ec]] w _
  go_enter Tryz.func9, Tryz.ntmps9
  go_upto_region 1 with fail
  rw [← e2]
  clear e2
  go_wp2
  go_ret
  exact ⟨rfl, HH.out⟩

set_option maxHeartbeats 4000000 in
theorem sme_3 {F G : Nat → Prop} {x y : Ev} {da ea : Option Addr} {dc ec : Nat} (w : World) (hx : Ir w F x da dc) (hy : Ir w G y ea ec) (h0 : (x.tk != y.tk) = false) (h1 : (x.pt != y.pt) = false) (h2 : (x.kd != y.kd) = false) (h3 : (x.pr != y.pr) = true) :
    Calls Tryz.prog 9 #[.agg (x.val da dc), .agg (y.val ea ec)] w fun r w' => r = .returned (.bool false) ∧ Kept No w w' := by
  obtain ⟨w2, e2, K1, ix, iy, BA, BR⟩ := one_boxes w hx hy
  have x0 : w2.cell? ⟨w.heap.size, 0, none⟩ = some (.int .i64 x.tk) := (cell_blk BA 0).trans rfl
  have y0 : w2.cell? ⟨w.heap.size + 1, 0, none⟩ = some (.int .i64 y.tk) := (cell_blk BR 0).trans rfl
  have x1 : w2.cell? ⟨w.heap.size, 1, none⟩ = some (.int .i64 x.pt) := (cell_blk BA 1).trans rfl
  have y1 : w2.cell? ⟨w.heap.size + 1, 1, none⟩ = some (.int .i64 y.pt) := (cell_blk BR 1).trans rfl
  have x2 : w2.cell? ⟨w.heap.size, 2, none⟩ = some (.int .i64 x.kd) := (cell_blk BA 2).trans rfl
  have y2 : w2.cell? ⟨w.heap.size + 1, 2, none⟩ = some (.int .i64 y.kd) := (cell_blk BR 2).trans rfl
  have x3 : w2.cell? ⟨w.heap.size, 3, none⟩ = some (.int .i64 x.pr) := (cell_blk BA 3).trans rfl
  have y3 : w2.cell? ⟨w.heap.size + 1, 3, none⟩ = some (.int .i64 y.pr) := (cell_blk BR 3).trans rfl
  have HH := hid K1
  clear K1 BA BR hx hy ix iy
  show Calls Tryz.prog 9 #[.agg #[.int .i64 x.tk, .int .i64 x.pt, .int .i64 x.kd, .int .i64 x.pr, .int .i64 x.ea, .int .i64 x.eb, .slice da x.d.length dc], .agg #[.int .i64 y.tk, .int .i64 y.pt, .int .i64 y.kd, .int .i64 y.pr, .int .i64 y.ea, .int .i64 y.eb, .slice ea y.d.length ec]] w _
  go_enter Tryz.func9, Tryz.ntmps9
  go_upto_region 1 with fail
  rw [← e2]
  clear e2
  go_wp2
  go_ret
  exact ⟨rfl, HH.out⟩

set_option maxHeartbeats 4000000 in
theorem sme_4 {F G : Nat → Prop} {x y : Ev} {da ea : Option Addr} {dc ec : Nat} (w : World) (hx : Ir w F x da dc) (hy : Ir w G y ea ec) (h0 : (x.tk != y.tk) = false) (h1 : (x.pt != y.pt) = false) (h2 : (x.kd != y.kd) = false) (h3 : (x.pr != y.pr) = false) (h4 : (x.ea != y.ea) = true) :
    Calls Tryz.prog 9 #[.agg (x.val da dc), .agg (y.val ea ec)] w fun r w' => r = .returned (.bool false) ∧ Kept No w w' := by
  obtain ⟨w2, e2, K1, ix, iy, BA, BR⟩ := one_boxes w hx hy
  have x0 : w2.cell? ⟨w.heap.size, 0, none⟩ = some (.int .i64 x.tk) := (cell_blk BA 0).trans rfl
  have y0 : w2.cell? ⟨w.heap.size + 1, 0, none⟩ = some (.int .i64 y.tk) := (cell_blk BR 0).trans rfl
  have x1 : w2.cell? ⟨w.heap.size, 1, none⟩ = some (.int .i64 x.pt) := (cell_blk BA 1).trans rfl
  have y1 : w2.cell? ⟨w.heap.size + 1, 1, none⟩ = some (.int .i64 y.pt) := (cell_blk BR 1).trans rfl
  have x2 : w2.cell? ⟨w.heap.size, 2, none⟩ = some (.int .i64 x.kd) := (cell_blk BA 2).trans rfl
  have y2 : w2.cell? ⟨w.heap.size + 1, 2, none⟩ = some (.int .i64 y.kd) := (cell_blk BR 2).trans rfl
  have x3 : w2.cell? ⟨w.heap.size, 3, none⟩ = some (.int .i64 x.pr) := (cell_blk BA 3).trans rfl
  have y3 : w2.cell? ⟨w.heap.size + 1, 3, none⟩ = some (.int .i64 y.pr) := (cell_blk BR 3).trans rfl
  have x4 : w2.cell? ⟨w.heap.size, 4, none⟩ = some (.int .i64 x.ea) := (cell_blk BA 4).trans rfl
  have y4 : w2.cell? ⟨w.heap.size + 1, 4, none⟩ = some (.int .i64 y.ea) := (cell_blk BR 4).trans rfl
  have HH := hid K1
  clear K1 BA BR hx hy ix iy
  show Calls Tryz.prog 9 #[.agg #[.int .i64 x.tk, .int .i64 x.pt, .int .i64 x.kd, .int .i64 x.pr, .int .i64 x.ea, .int .i64 x.eb, .slice da x.d.length dc], .agg #[.int .i64 y.tk, .int .i64 y.pt, .int .i64 y.kd, .int .i64 y.pr, .int .i64 y.ea, .int .i64 y.eb, .slice ea y.d.length ec]] w _
  go_enter Tryz.func9, Tryz.ntmps9
  go_upto_region 1 with fail
  rw [← e2]
  clear e2
  go_wp2
  go_ret
  exact ⟨rfl, HH.out⟩

set_option maxHeartbeats 4000000 in
theorem sme_5 {F G : Nat → Prop} {x y : Ev} {da ea : Option Addr} {dc ec : Nat} (w : World) (hx : Ir w F x da dc) (hy : Ir w G y ea ec) (h0 : (x.tk != y.tk) = false) (h1 : (x.pt != y.pt) = false) (h2 : (x.kd != y.kd) = false) (h3 : (x.pr != y.pr) = false) (h4 : (x.ea != y.ea) = false) (h5 : (x.eb != y.eb) = true) :
    Calls Tryz.prog 9 #[.agg (x.val da dc), .agg (y.val ea ec)] w fun r w' => r = .returned (.bool false) ∧ Kept No w w' := by
  obtain ⟨w2, e2, K1, ix, iy, BA, BR⟩ := one_boxes w hx hy
  have x0 : w2.cell? ⟨w.heap.size, 0, none⟩ = some (.int .i64 x.tk) := (cell_blk BA 0).trans rfl
  have y0 : w2.cell? ⟨w.heap.size + 1, 0, none⟩ = some (.int .i64 y.tk) := (cell_blk BR 0).trans rfl
  have x1 : w2.cell? ⟨w.heap.size, 1, none⟩ = some (.int .i64 x.pt) := (cell_blk BA 1).trans rfl
  have y1 : w2.cell? ⟨w.heap.size + 1, 1, none⟩ = some (.int .i64 y.pt) := (cell_blk BR 1).trans rfl
  have x2 : w2.cell? ⟨w.heap.size, 2, none⟩ = some (.int .i64 x.kd) := (cell_blk BA 2).trans rfl
  have y2 : w2.cell? ⟨w.heap.size + 1, 2, none⟩ = some (.int .i64 y.kd) := (cell_blk BR 2).trans rfl
  have x3 : w2.cell? ⟨w.heap.size, 3, none⟩ = some (.int .i64 x.pr) := (cell_blk BA 3).trans rfl
  have y3 : w2.cell? ⟨w.heap.size + 1, 3, none⟩ = some (.int .i64 y.pr) := (cell_blk BR 3).trans rfl
  have x4 : w2.cell? ⟨w.heap.size, 4, none⟩ = some (.int .i64 x.ea) := (cell_blk BA 4).trans rfl
  have y4 : w2.cell? ⟨w.heap.size + 1, 4, none⟩ = some (.int .i64 y.ea) := (cell_blk BR 4).trans rfl
  have x5 : w2.cell? ⟨w.heap.size, 5, none⟩ = some (.int .i64 x.eb) := (cell_blk BA 5).trans rfl
  have y5 : w2.cell? ⟨w.heap.size + 1, 5, none⟩ = some (.int .i64 y.eb) := (cell_blk BR 5).trans rfl
  have HH := hid K1
  clear K1 BA BR hx hy ix iy
  show Calls Tryz.prog 9 #[.agg #[.int .i64 x.tk, .int .i64 x.pt, .int .i64 x.kd, .int .i64 x.pr, .int .i64 x.ea, .int .i64 x.eb, .slice da x.d.length dc], .agg #[.int .i64 y.tk, .int .i64 y.pt, .int .i64 y.kd, .int .i64 y.pr, .int .i64 y.ea, .int .i64 y.eb, .slice ea y.d.length ec]] w _
  go_enter Tryz.func9, Tryz.ntmps9
  go_upto_region 1 with fail
  rw [← e2]
  clear e2
  go_wp2
  go_ret
  exact ⟨rfl, HH.out⟩

set_option maxHeartbeats 4000000 in
theorem sme_6 {F G : Nat → Prop} {x y : Ev} {da ea : Option Addr} {dc ec : Nat} (w : World) (hx : Ir w F x da dc) (hy : Ir w G y ea ec) (h0 : (x.tk != y.tk) = false) (h1 : (x.pt != y.pt) = false) (h2 : (x.kd != y.kd) = false) (h3 : (x.pr != y.pr) = false) (h4 : (x.ea != y.ea) = false) (h5 : (x.eb != y.eb) = false) (h6 : ((x.d.length : Int) != (y.d.length : Int)) = true) :
    Calls Tryz.prog 9 #[.agg (x.val da dc), .agg (y.val ea ec)] w fun r w' => r = .returned (.bool false) ∧ Kept No w w' := by
  obtain ⟨w2, e2, K1, ix, iy, BA, BR⟩ := one_boxes w hx hy
  have x0 : w2.cell? ⟨w.heap.size, 0, none⟩ = some (.int .i64 x.tk) := (cell_blk BA 0).trans rfl
  have y0 : w2.cell? ⟨w.heap.size + 1, 0, none⟩ = some (.int .i64 y.tk) := (cell_blk BR 0).trans rfl
  have x1 : w2.cell? ⟨w.heap.size, 1, none⟩ = some (.int .i64 x.pt) := (cell_blk BA 1).trans rfl
  have y1 : w2.cell? ⟨w.heap.size + 1, 1, none⟩ = some (.int .i64 y.pt) := (cell_blk BR 1).trans rfl
  have x2 : w2.cell? ⟨w.heap.size, 2, none⟩ = some (.int .i64 x.kd) := (cell_blk BA 2).trans rfl
  have y2 : w2.cell? ⟨w.heap.size + 1, 2, none⟩ = some (.int .i64 y.kd) := (cell_blk BR 2).trans rfl
  have x3 : w2.cell? ⟨w.heap.size, 3, none⟩ = some (.int .i64 x.pr) := (cell_blk BA 3).trans rfl
  have y3 : w2.cell? ⟨w.heap.size + 1, 3, none⟩ = some (.int .i64 y.pr) := (cell_blk BR 3).trans rfl
  have x4 : w2.cell? ⟨w.heap.size, 4, none⟩ = some (.int .i64 x.ea) := (cell_blk BA 4).trans rfl
  have y4 : w2.cell? ⟨w.heap.size + 1, 4, none⟩ = some (.int .i64 y.ea) := (cell_blk BR 4).trans rfl
  have x5 : w2.cell? ⟨w.heap.size, 5, none⟩ = some (.int .i64 x.eb) := (cell_blk BA 5).trans rfl
  have y5 : w2.cell? ⟨w.heap.size + 1, 5, none⟩ = some (.int .i64 y.eb) := (cell_blk BR 5).trans rfl
  have x6 : w2.cell? ⟨w.heap.size, 6, none⟩ = some (.slice da x.d.length dc) := (cell_blk BA 6).trans rfl
  have y6 : w2.cell? ⟨w.heap.size + 1, 6, none⟩ = some (.slice ea y.d.length ec) := (cell_blk BR 6).trans rfl
  have q1 := ix.zs.cap
  have q2 := ix.zs.max
  have q3 := iy.zs.cap
  have q4 := iy.zs.max
  have HH := hid K1
  clear K1 BA BR hx hy ix iy
  show Calls Tryz.prog 9 #[.agg #[.int .i64 x.tk, .int .i64 x.pt, .int .i64 x.kd, .int .i64 x.pr, .int .i64 x.ea, .int .i64 x.eb, .slice da x.d.length dc], .agg #[.int .i64 y.tk, .int .i64 y.pt, .int .i64 y.kd, .int .i64 y.pr, .int .i64 y.ea, .int .i64 y.eb, .slice ea y.d.length ec]] w _
  go_enter Tryz.func9, Tryz.ntmps9
  go_upto_region 1 with fail
  rw [← e2]
  clear e2
  go_wp2
  go_ret
  exact ⟨rfl, HH.out⟩

set_option maxHeartbeats 4000000 in
theorem sme_7 {F G : Nat → Prop} {x y : Ev} {da ea : Option Addr} {dc ec : Nat} (w : World) (hx : Ir w F x da dc) (hy : Ir w G y ea ec) (h0 : (x.tk != y.tk) = false) (h1 : (x.pt != y.pt) = false) (h2 : (x.kd != y.kd) = false) (h3 : (x.pr != y.pr) = false) (h4 : (x.ea != y.ea) = false) (h5 : (x.eb != y.eb) = false) (hl : x.d.length = y.d.length) :
    Calls Tryz.prog 9 #[.agg (x.val da dc), .agg (y.val ea ec)] w fun r w' => r = .returned (.bool (decide (x.d = y.d))) ∧ Kept No w w' := by
  obtain ⟨w2, e2, K1, ix, iy, BA, BR⟩ := one_boxes w hx hy
  have x0 : w2.cell? ⟨w.heap.size, 0, none⟩ = some (.int .i64 x.tk) := (cell_blk BA 0).trans rfl
  have y0 : w2.cell? ⟨w.heap.size + 1, 0, none⟩ = some (.int .i64 y.tk) := (cell_blk BR 0).trans rfl
  have x1 : w2.cell? ⟨w.heap.size, 1, none⟩ = some (.int .i64 x.pt) := (cell_blk BA 1).trans rfl
  have y1 : w2.cell? ⟨w.heap.size + 1, 1, none⟩ = some (.int .i64 y.pt) := (cell_blk BR 1).trans rfl
  have x2 : w2.cell? ⟨w.heap.size, 2, none⟩ = some (.int .i64 x.kd) := (cell_blk BA 2).trans rfl
  have y2 : w2.cell? ⟨w.heap.size + 1, 2, none⟩ = some (.int .i64 y.kd) := (cell_blk BR 2).trans rfl
  have x3 : w2.cell? ⟨w.heap.size, 3, none⟩ = some (.int .i64 x.pr) := (cell_blk BA 3).trans rfl
  have y3 : w2.cell? ⟨w.heap.size + 1, 3, none⟩ = some (.int .i64 y.pr) := (cell_blk BR 3).trans rfl
  have x4 : w2.cell? ⟨w.heap.size, 4, none⟩ = some (.int .i64 x.ea) := (cell_blk BA 4).trans rfl
  have y4 : w2.cell? ⟨w.heap.size + 1, 4, none⟩ = some (.int .i64 y.ea) := (cell_blk BR 4).trans rfl
  have x5 : w2.cell? ⟨w.heap.size, 5, none⟩ = some (.int .i64 x.eb) := (cell_blk BA 5).trans rfl
  have y5 : w2.cell? ⟨w.heap.size + 1, 5, none⟩ = some (.int .i64 y.eb) := (cell_blk BR 5).trans rfl
  have x6 : w2.cell? ⟨w.heap.size, 6, none⟩ = some (.slice da x.d.length dc) := (cell_blk BA 6).trans rfl
  have y6 : w2.cell? ⟨w.heap.size + 1, 6, none⟩ = some (.slice ea y.d.length ec) := (cell_blk BR 6).trans rfl
  have q1 := ix.zs.cap
  have q2 := ix.zs.max
  have q3 := iy.zs.cap
  have q4 := iy.zs.max
  have HZ := hid (And.intro ix.zs iy.zs)
  have HH := hid K1
  have h6 : ((x.d.length : Int) != (y.d.length : Int)) = false := by simp [hl]
  have HL := hid hl
  clear hl
  have X6' : Hid (∀ W, Kept No w2 W → W.cell? ⟨w.heap.size, 0 + 6, none⟩ = some (.slice da x.d.length dc)) := fun W z => z.cell x6 (fun e => e)
  have Y6' : Hid (∀ W, Kept No w2 W → W.cell? ⟨w.heap.size + 1, 0 + 6, none⟩ = some (.slice ea y.d.length ec)) := fun W z => z.cell y6 (fun e => e)
  clear K1 BA BR hx hy ix iy
  show Calls Tryz.prog 9 #[.agg #[.int .i64 x.tk, .int .i64 x.pt, .int .i64 x.kd, .int .i64 x.pr, .int .i64 x.ea, .int .i64 x.eb, .slice da x.d.length dc], .agg #[.int .i64 y.tk, .int .i64 y.pt, .int .i64 y.kd, .int .i64 y.pr, .int .i64 y.ea, .int .i64 y.eb, .slice ea y.d.length ec]] w _
  go_enter Tryz.func9, Tryz.ntmps9
  go_upto_region 1 with fail
  rw [← e2]
  clear e2
  go_upto_region 3 with fail
  clear x0 x1 x2 x3 x4 x5 x6 y0 y1 y2 y3 y4 y5 y6 h0 h1 h2 h3 h4 h5 h6
  go_wp2
  go_loopw [5] (fun u5 wr => ∃ (k : Nat), k ≤ x.d.length ∧ u5 = .int .i64 (k : Int) ∧ (∀ i, i < k → x.d.getD i 0 = y.d.getD i 0) ∧ Kept No w2 wr) (fun u5 _ => x.d.length - (intOf u5).toNat)
  case atStart => exact ⟨0, by omega, rfl, fun i hi => by omega, Kept.refl _ _⟩
  case round =>
    obtain ⟨k, hk, rfl, hs, kr⟩ := hrel
    have x6 : wr.cell? ⟨w.heap.size, 6, none⟩ = some (.slice da x.d.length dc) := X6'.out wr kr
    by_cases hlt : k < x.d.length
    · have hltz : (k : Int) < (x.d.length : Int) := by omega
      obtain ⟨b1, o1, e1, _, c1⟩ := HZ.out.1.at' k hlt
      obtain ⟨b2, o2, e3, _, c2⟩ := HZ.out.2.at' k (by have := HL.out; omega)
      subst e1 e3
      obtain ⟨z1, hz1⟩ : ∃ z, z = x.d.getD k 0 := ⟨_, rfl⟩
      obtain ⟨z2, hz2⟩ : ∃ z, z = y.d.getD k 0 := ⟨_, rfl⟩
      rw [← hz1] at c1
      rw [← hz2] at c2
      have X6 : Hid (∀ W, Kept No w2 W → W.cell? ⟨w.heap.size, 0 + 6, none⟩ = some (.slice (some ⟨b1, o1, none⟩) x.d.length dc)) := X6'
      have Y6 : Hid (∀ W, Kept No w2 W → W.cell? ⟨w.heap.size + 1, 0 + 6, none⟩ = some (.slice (some ⟨b2, o2, none⟩) y.d.length ec)) := Y6'
      have U1 : Hid (∀ W, Kept No w2 W → W.cell? ⟨b1, o1 + k, none⟩ = some (.int .i64 z1)) := fun W q => q.cell c1 (fun e => e)
      have U2 : Hid (∀ W, Kept No w2 W → W.cell? ⟨b2, o2 + k, none⟩ = some (.int .i64 z2)) := fun W q => q.cell c2 (fun e => e)
      have KR := hid kr
      clear kr c1 c2 X6' Y6'
      go_upto_region 6 with fail
      clear x6
      refine wp_region_held_drew (S := fun W => Kept No w2 W) (by kernel_rfl) (KR.out.drew) (fun hS => ?_)
      by_cases hz : z1 = z2
      · have hzz : (z1 != z2) = false := by simp [hz]
        refine d_take 0 62 rfl rfl (by kernel_rfl) (by kernel_rfl) (by kernel_rfl) (fun _ _ _ h => h) rfl (fun w' hw' => er_fD _ rfl w.heap.size 0 rfl) hS ?_
        simp only [Act.put, List.setIfInBounds_toArray, List.set_cons_zero, List.set_cons_succ]
        refine d_take 1 63 rfl rfl (by kernel_rfl) (by kernel_rfl) (by kernel_rfl) (fun _ _ _ h => h) rfl (fun w' hw' => er_ldL _ rfl w.heap.size (0 + 6) (.slice (some ⟨b1, o1, none⟩) x.d.length dc) rfl (X6.out w' hw')) hS ?_
        simp only [Act.put, List.setIfInBounds_toArray, List.set_cons_zero, List.set_cons_succ]
        refine d_take 2 64 rfl rfl (by kernel_rfl) (by kernel_rfl) (by kernel_rfl) (fun _ _ _ h => h) rfl (fun w' hw' => er_mv _ rfl (.int .i64 (k : Int)) rfl) hS ?_
        simp only [Act.put, List.setIfInBounds_toArray, List.set_cons_zero, List.set_cons_succ]
        refine d_take 3 65 rfl rfl (by kernel_rfl) (by kernel_rfl) (by kernel_rfl) (fun _ _ _ h => h) rfl (fun w' hw' => er_ixW _ _ rfl b1 o1 k x.d.length dc rfl rfl hlt) hS ?_
        simp only [Act.put, List.setIfInBounds_toArray, List.set_cons_zero, List.set_cons_succ]
        refine d_take 4 66 rfl rfl (by kernel_rfl) (by kernel_rfl) (by kernel_rfl) (fun _ _ _ h => h) rfl (fun w' hw' => er_ldw _ rfl b1 (o1 + k) (.int .i64 z1) rfl (U1.out w' hw')) hS ?_
        simp only [Act.put, List.setIfInBounds_toArray, List.set_cons_zero, List.set_cons_succ]
        refine d_take 5 67 rfl rfl (by kernel_rfl) (by kernel_rfl) (by kernel_rfl) (fun _ _ _ h => h) rfl (fun w' hw' => er_fD _ rfl (w.heap.size + 1) 0 rfl) hS ?_
        simp only [Act.put, List.setIfInBounds_toArray, List.set_cons_zero, List.set_cons_succ]
        refine d_take 6 68 rfl rfl (by kernel_rfl) (by kernel_rfl) (by kernel_rfl) (fun _ _ _ h => h) rfl (fun w' hw' => er_ldL _ rfl (w.heap.size + 1) (0 + 6) (.slice (some ⟨b2, o2, none⟩) y.d.length ec) rfl (Y6.out w' hw')) hS ?_
        simp only [Act.put, List.setIfInBounds_toArray, List.set_cons_zero, List.set_cons_succ]
        refine d_take 7 69 rfl rfl (by kernel_rfl) (by kernel_rfl) (by kernel_rfl) (fun _ _ _ h => h) rfl (fun w' hw' => er_mv _ rfl (.int .i64 (k : Int)) rfl) hS ?_
        simp only [Act.put, List.setIfInBounds_toArray, List.set_cons_zero, List.set_cons_succ]
        refine d_take 8 70 rfl rfl (by kernel_rfl) (by kernel_rfl) (by kernel_rfl) (fun _ _ _ h => h) rfl (fun w' hw' => er_ixW _ _ rfl b2 o2 k y.d.length ec rfl rfl (by have := HL.out; omega)) hS ?_
        simp only [Act.put, List.setIfInBounds_toArray, List.set_cons_zero, List.set_cons_succ]
        refine d_take 9 71 rfl rfl (by kernel_rfl) (by kernel_rfl) (by kernel_rfl) (fun _ _ _ h => h) rfl (fun w' hw' => er_ldw _ rfl b2 (o2 + k) (.int .i64 z2) rfl (U2.out w' hw')) hS ?_
        simp only [Act.put, List.setIfInBounds_toArray, List.set_cons_zero, List.set_cons_succ]
        refine d_take 10 72 rfl rfl (by kernel_rfl) (by kernel_rfl) (by kernel_rfl) (fun _ _ _ h => h) rfl (fun w' hw' => er_neW2 _ _ rfl z1 z2 false rfl rfl hzz) hS ?_
        simp only [Act.put, List.setIfInBounds_toArray, List.set_cons_zero, List.set_cons_succ]
        refine wpAnyH_done (by kernel_rfl) ?_ _
        have KD := hid hS
        clear hS
        go_wp2
        refine ⟨⟨k + 1, by omega, by go_num, fun i hi => ?_, KD.out⟩, ?_⟩
        · by_cases e : i = k
          · subst e; rw [← hz1, ← hz2]; exact hz
          · exact hs i (by omega)
        · simp [intOf]; omega
      · have hzz : (z1 != z2) = true := by simp [hz]
        refine d_take 0 62 rfl rfl (by kernel_rfl) (by kernel_rfl) (by kernel_rfl) (fun _ _ _ h => h) rfl (fun w' hw' => er_fD _ rfl w.heap.size 0 rfl) hS ?_
        simp only [Act.put, List.setIfInBounds_toArray, List.set_cons_zero, List.set_cons_succ]
        refine d_take 1 63 rfl rfl (by kernel_rfl) (by kernel_rfl) (by kernel_rfl) (fun _ _ _ h => h) rfl (fun w' hw' => er_ldL _ rfl w.heap.size (0 + 6) (.slice (some ⟨b1, o1, none⟩) x.d.length dc) rfl (X6.out w' hw')) hS ?_
        simp only [Act.put, List.setIfInBounds_toArray, List.set_cons_zero, List.set_cons_succ]
        refine d_take 2 64 rfl rfl (by kernel_rfl) (by kernel_rfl) (by kernel_rfl) (fun _ _ _ h => h) rfl (fun w' hw' => er_mv _ rfl (.int .i64 (k : Int)) rfl) hS ?_
        simp only [Act.put, List.setIfInBounds_toArray, List.set_cons_zero, List.set_cons_succ]
        refine d_take 3 65 rfl rfl (by kernel_rfl) (by kernel_rfl) (by kernel_rfl) (fun _ _ _ h => h) rfl (fun w' hw' => er_ixW _ _ rfl b1 o1 k x.d.length dc rfl rfl hlt) hS ?_
        simp only [Act.put, List.setIfInBounds_toArray, List.set_cons_zero, List.set_cons_succ]
        refine d_take 4 66 rfl rfl (by kernel_rfl) (by kernel_rfl) (by kernel_rfl) (fun _ _ _ h => h) rfl (fun w' hw' => er_ldw _ rfl b1 (o1 + k) (.int .i64 z1) rfl (U1.out w' hw')) hS ?_
        simp only [Act.put, List.setIfInBounds_toArray, List.set_cons_zero, List.set_cons_succ]
        refine d_take 5 67 rfl rfl (by kernel_rfl) (by kernel_rfl) (by kernel_rfl) (fun _ _ _ h => h) rfl (fun w' hw' => er_fD _ rfl (w.heap.size + 1) 0 rfl) hS ?_
        simp only [Act.put, List.setIfInBounds_toArray, List.set_cons_zero, List.set_cons_succ]
        refine d_take 6 68 rfl rfl (by kernel_rfl) (by kernel_rfl) (by kernel_rfl) (fun _ _ _ h => h) rfl (fun w' hw' => er_ldL _ rfl (w.heap.size + 1) (0 + 6) (.slice (some ⟨b2, o2, none⟩) y.d.length ec) rfl (Y6.out w' hw')) hS ?_
        simp only [Act.put, List.setIfInBounds_toArray, List.set_cons_zero, List.set_cons_succ]
        refine d_take 7 69 rfl rfl (by kernel_rfl) (by kernel_rfl) (by kernel_rfl) (fun _ _ _ h => h) rfl (fun w' hw' => er_mv _ rfl (.int .i64 (k : Int)) rfl) hS ?_
        simp only [Act.put, List.setIfInBounds_toArray, List.set_cons_zero, List.set_cons_succ]
        refine d_take 8 70 rfl rfl (by kernel_rfl) (by kernel_rfl) (by kernel_rfl) (fun _ _ _ h => h) rfl (fun w' hw' => er_ixW _ _ rfl b2 o2 k y.d.length ec rfl rfl (by have := HL.out; omega)) hS ?_
        simp only [Act.put, List.setIfInBounds_toArray, List.set_cons_zero, List.set_cons_succ]
        refine d_take 9 71 rfl rfl (by kernel_rfl) (by kernel_rfl) (by kernel_rfl) (fun _ _ _ h => h) rfl (fun w' hw' => er_ldw _ rfl b2 (o2 + k) (.int .i64 z2) rfl (U2.out w' hw')) hS ?_
        simp only [Act.put, List.setIfInBounds_toArray, List.set_cons_zero, List.set_cons_succ]
        refine d_take 10 72 rfl rfl (by kernel_rfl) (by kernel_rfl) (by kernel_rfl) (fun _ _ _ h => h) rfl (fun w' hw' => er_neW2 _ _ rfl z1 z2 true rfl rfl hzz) hS ?_
        simp only [Act.put, List.setIfInBounds_toArray, List.set_cons_zero, List.set_cons_succ]
        refine wpAnyH_done (by kernel_rfl) ?_ _
        have KD := hid hS
        clear hS
        go_wp2
        go_ret
        refine ⟨?_, HH.out.trans KD.out (fun _ e => e.elim)⟩
        have hne : ¬ x.d = y.d := fun e => hz (by rw [hz1, hz2, e])
        simp [hne]
    · have hltz : ¬ (k : Int) < (x.d.length : Int) := by omega
      have KR := hid kr
      clear kr
      go_wp2
      go_ret
      refine ⟨?_, HH.out.trans KR.out (fun _ e => e.elim)⟩
      have he : x.d = y.d := getD_eq HL.out (fun i hi => hs i (by omega))
      simp [he]

theorem sameE_any {F G : Nat → Prop} {x y : Ev} {da ea : Option Addr} {dc ec : Nat} (w : World) (hx : Ir w F x da dc) (hy : Ir w G y ea ec) :
    Calls Tryz.prog 9 #[.agg (x.val da dc), .agg (y.val ea ec)] w fun r w' => r = .returned (.bool (decide (x = y))) ∧ Kept No w w' := by
  by_cases h0 : x.tk = y.tk
  rotate_left
  · have hne : ¬ x = y := fun e => h0 (by rw [e])
    rw [decide_eq_false hne]
    exact sme_0 w hx hy (by simp [h0])
  by_cases h1 : x.pt = y.pt
  rotate_left
  · have hne : ¬ x = y := fun e => h1 (by rw [e])
    rw [decide_eq_false hne]
    exact sme_1 w hx hy (by simp [h0]) (by simp [h1])
  by_cases h2 : x.kd = y.kd
  rotate_left
  · have hne : ¬ x = y := fun e => h2 (by rw [e])
    rw [decide_eq_false hne]
    exact sme_2 w hx hy (by simp [h0]) (by simp [h1]) (by simp [h2])
  by_cases h3 : x.pr = y.pr
  rotate_left
  · have hne : ¬ x = y := fun e => h3 (by rw [e])
    rw [decide_eq_false hne]
    exact sme_3 w hx hy (by simp [h0]) (by simp [h1]) (by simp [h2]) (by simp [h3])
  by_cases h4 : x.ea = y.ea
  rotate_left
  · have hne : ¬ x = y := fun e => h4 (by rw [e])
    rw [decide_eq_false hne]
    exact sme_4 w hx hy (by simp [h0]) (by simp [h1]) (by simp [h2]) (by simp [h3]) (by simp [h4])
  by_cases h5 : x.eb = y.eb
  rotate_left
  · have hne : ¬ x = y := fun e => h5 (by rw [e])
    rw [decide_eq_false hne]
    exact sme_5 w hx hy (by simp [h0]) (by simp [h1]) (by simp [h2]) (by simp [h3]) (by simp [h4]) (by simp [h5])
  by_cases hl : x.d.length = y.d.length
  rotate_left
  · have hne : ¬ x = y := fun e => hl (by rw [e])
    rw [decide_eq_false hne]
    exact sme_6 w hx hy (by simp [h0]) (by simp [h1]) (by simp [h2]) (by simp [h3]) (by simp [h4]) (by simp [h5]) (by simp; omega)
  have he : (x = y) ↔ x.d = y.d := ⟨fun e => by rw [e], fun e => by cases x; cases y; simp at h0 h1 h2 h3 h4 h5 e; simp [h0, h1, h2, h3, h4, h5, e]⟩
  rw [show decide (x = y) = decide (x.d = y.d) from decide_eq_decide.2 he]
  exact sme_7 w hx hy (by simp [h0]) (by simp [h1]) (by simp [h2]) (by simp [h3]) (by simp [h4]) (by simp [h5]) hl
end Go.Proofs.YtjhhldgbllbbhaaGreatDoor
