/-
  The closures that read an element without lists; getServer.
-/
import Derived.Test.YtolmhoenjcinjaaGreatIGot
namespace Go.Proofs.YtolmhoenjcinjaaGreat
open Go.RowKit
set_option linter.unusedVariables false
set_option maxRecDepth 100000

/-- a server's four numbers -/
structure Srv where
  pe : Int
  bu : Int
  off : Int
  pr : Int
def okSrv (x : Srv) : Prop := I6 x.pe ∧ I6 x.bu ∧ I6 x.off ∧ I6 x.pr
def decSrv : Dec Srv := dBind decI (fun pe => dBind decI (fun bu => dBind decI (fun off => dBind decI (fun pr => dPure ⟨pe, bu, off, pr⟩))))

theorem setK2 (w : World) (b : Nat) (v0 v1 : Value) : Kept (fun k => k = b) w ((w.setCell ⟨b, 0, none⟩ v0).setCell ⟨b, 1, none⟩ v1) := (((Kept.refl (fun k => k = b) w).setCell (p := ⟨b, 0, none⟩) (.inl rfl) _).setCell (p := ⟨b, 1, none⟩) (.inl rfl) _)
theorem set2 {w : World} {b : Nat} {t : TypeId} {u0 u1 v0 v1 : Value} (h : Bk w b [u0, u1] t) : ((w.setCell ⟨b, 0, none⟩ v0).setCell ⟨b, 1, none⟩ v1).heap[b]? = some (.cells #[v0, v1] t (0, 0)) :=
  ((h.set 0 v0).set 1 v1)
theorem setK4 (w : World) (b : Nat) (v0 v1 v2 v3 : Value) : Kept (fun k => k = b) w ((((w.setCell ⟨b, 0, none⟩ v0).setCell ⟨b, 1, none⟩ v1).setCell ⟨b, 2, none⟩ v2).setCell ⟨b, 3, none⟩ v3) := (((((Kept.refl (fun k => k = b) w).setCell (p := ⟨b, 0, none⟩) (.inl rfl) _).setCell (p := ⟨b, 1, none⟩) (.inl rfl) _).setCell (p := ⟨b, 2, none⟩) (.inl rfl) _).setCell (p := ⟨b, 3, none⟩) (.inl rfl) _)
theorem set4 {w : World} {b : Nat} {t : TypeId} {u0 u1 u2 u3 v0 v1 v2 v3 : Value} (h : Bk w b [u0, u1, u2, u3] t) : ((((w.setCell ⟨b, 0, none⟩ v0).setCell ⟨b, 1, none⟩ v1).setCell ⟨b, 2, none⟩ v2).setCell ⟨b, 3, none⟩ v3).heap[b]? = some (.cells #[v0, v1, v2, v3] t (0, 0)) :=
  ((((h.set 0 v0).set 1 v1).set 2 v2).set 3 v3)
theorem setK6 (w : World) (b : Nat) (v0 v1 v2 v3 v4 v5 : Value) : Kept (fun k => k = b) w ((((((w.setCell ⟨b, 0, none⟩ v0).setCell ⟨b, 1, none⟩ v1).setCell ⟨b, 2, none⟩ v2).setCell ⟨b, 3, none⟩ v3).setCell ⟨b, 4, none⟩ v4).setCell ⟨b, 5, none⟩ v5) := (((((((Kept.refl (fun k => k = b) w).setCell (p := ⟨b, 0, none⟩) (.inl rfl) _).setCell (p := ⟨b, 1, none⟩) (.inl rfl) _).setCell (p := ⟨b, 2, none⟩) (.inl rfl) _).setCell (p := ⟨b, 3, none⟩) (.inl rfl) _).setCell (p := ⟨b, 4, none⟩) (.inl rfl) _).setCell (p := ⟨b, 5, none⟩) (.inl rfl) _)
theorem set6 {w : World} {b : Nat} {t : TypeId} {u0 u1 u2 u3 u4 u5 v0 v1 v2 v3 v4 v5 : Value} (h : Bk w b [u0, u1, u2, u3, u4, u5] t) : ((((((w.setCell ⟨b, 0, none⟩ v0).setCell ⟨b, 1, none⟩ v1).setCell ⟨b, 2, none⟩ v2).setCell ⟨b, 3, none⟩ v3).setCell ⟨b, 4, none⟩ v4).setCell ⟨b, 5, none⟩ v5).heap[b]? = some (.cells #[v0, v1, v2, v3, v4, v5] t (0, 0)) :=
  ((((((h.set 0 v0).set 1 v1).set 2 v2).set 3 v3).set 4 v4).set 5 v5)
theorem setK5 (w : World) (b : Nat) (v0 v1 v2 v3 v4 : Value) : Kept (fun k => k = b) w (((((w.setCell ⟨b, 0, none⟩ v0).setCell ⟨b, 1, none⟩ v1).setCell ⟨b, 2, none⟩ v2).setCell ⟨b, 3, none⟩ v3).setCell ⟨b, 4, none⟩ v4) := ((((((Kept.refl (fun k => k = b) w).setCell (p := ⟨b, 0, none⟩) (.inl rfl) _).setCell (p := ⟨b, 1, none⟩) (.inl rfl) _).setCell (p := ⟨b, 2, none⟩) (.inl rfl) _).setCell (p := ⟨b, 3, none⟩) (.inl rfl) _).setCell (p := ⟨b, 4, none⟩) (.inl rfl) _)
theorem set5 {w : World} {b : Nat} {t : TypeId} {u0 u1 u2 u3 u4 v0 v1 v2 v3 v4 : Value} (h : Bk w b [u0, u1, u2, u3, u4] t) : (((((w.setCell ⟨b, 0, none⟩ v0).setCell ⟨b, 1, none⟩ v1).setCell ⟨b, 2, none⟩ v2).setCell ⟨b, 3, none⟩ v3).setCell ⟨b, 4, none⟩ v4).heap[b]? = some (.cells #[v0, v1, v2, v3, v4] t (0, 0)) :=
  (((((h.set 0 v0).set 1 v1).set 2 v2).set 3 v3).set 4 v4)

set_option maxHeartbeats 4000000 in
theorem askSm (F : Nat → Prop) (p : Nat) (xs : List Nat) (e : Int) (w : World) (h : Rd w F p xs e) :
    Calls Tryz.prog 156 #[.pointer (some ⟨p, 0, none⟩)] w fun ex w' => ∃ (x : Sm) (s' : St), ex = .returned (.agg #[.int .i64 x.st, .int .i64 x.mx]) ∧ okSm x ∧ Got decSm (xs, e) x s' ∧ RdDid F p s'.1 s'.2 w w' := by
  have F0 : Hid (Fil w F p [.int .i64 0, .int .i64 0] [.int .i64 0, .int .i64 0] 126 (xs, e) ((w.alloc (.cells #[.int .i64 0, .int .i64 0] 126)).alloc (.cells #[.int .i64 0, .int .i64 0] 126))) := Fil.new (s := (xs, e)) h [.int .i64 0, .int .i64 0] 126
  clear h
  go_enter Tryz.func156, Tryz.ntmps156
  go_upto_region 2 with fail
  generalize (w.alloc (.cells #[.int .i64 0, .int .i64 0] 126)).alloc (.cells #[.int .i64 0, .int .i64 0] 126) = w0 at *
  have cp := getNumber_any F p xs e w0 F0.out.rd
  go_upto_region 3 with (go_at_call 107; refine cp.mono ?_; rintro ex v0 ⟨x0, s1, rfl, hx0, hg0, hd0⟩; have G0 : Hid (Fil w F p [.int .i64 0, .int .i64 0] [.int .i64 0, .int .i64 0] 126 s1 v0) := F0.out.did hd0; have q0 := G0.out.b3.cell (j := 0) rfl; have z0 := G0.out.b3.fz 0; clear hd0)
  have F1 : Hid (Fil w F p [.int .i64 0, .int .i64 0] [.int .i64 x0, .int .i64 0] 126 s1 (v0.setCell ⟨w.heap.size + 1, 0, none⟩ (.int .i64 x0))) := G0.out.set 0 _
  generalize v0.setCell ⟨w.heap.size + 1, 0, none⟩ (.int .i64 x0) = w1 at *
  clear cp q0 z0 G0
  have cp := getNumber_any F p s1.1 s1.2 w1 F1.out.rd
  go_upto_region 4 with (go_at_call 107; refine cp.mono ?_; rintro ex v1 ⟨x1, s2, rfl, hx1, hg1, hd1⟩; have G1 : Hid (Fil w F p [.int .i64 0, .int .i64 0] [.int .i64 x0, .int .i64 0] 126 s2 v1) := F1.out.did hd1; have q1 := G1.out.b3.cell (j := 1) rfl; have z1 := G1.out.b3.fz 1; clear hd1)
  have F2 : Hid (Fil w F p [.int .i64 0, .int .i64 0] [.int .i64 x0, .int .i64 x1] 126 s2 (v1.setCell ⟨w.heap.size + 1, 1, none⟩ (.int .i64 x1))) := G1.out.set 1 _
  generalize v1.setCell ⟨w.heap.size + 1, 1, none⟩ (.int .i64 x1) = w2 at *
  clear cp q1 z1 G1
  have q0 := F2.out.b3.cell (j := 0) rfl
  have y0 := F2.out.b2.cell (j := 0) rfl
  have f0 := F2.out.b2.fz 0
  have q1 := F2.out.b3.cell (j := 1) rfl
  have y1 := F2.out.b2.cell (j := 1) rfl
  have f1 := F2.out.b2.fz 1
  have HEND : Hid (Fil w F p [.int .i64 0, .int .i64 0] [.int .i64 x0, .int .i64 x1] 126 s2 w2) := F2.out
  go_wp2
  refine bodyPost_ret (results_cell_row rfl _ _ w.heap.size 126 #[.int .i64 x0, .int .i64 x1] (0, 0) _ rfl (set2 HEND.out.b2) Tryz.underlying126 rfl (by kernel_rfl)) rfl ?_
  refine ⟨⟨x0, x1⟩, s2, rfl, ⟨hx0, hx1⟩, (hg0.bind (hg1.bind (Got.pure _ _))), HEND.out.rd.kept (setK2 _ _ _ _) (fun b hb e => by have := HEND.out.fl b hb; omega), HEND.out.kp.trans (setK2 _ _ _ _) (fun k e => .inr (by omega))⟩

set_option maxHeartbeats 4000000 in
theorem askBf (F : Nat → Prop) (p : Nat) (xs : List Nat) (e : Int) (w : World) (h : Rd w F p xs e) :
    Calls Tryz.prog 159 #[.pointer (some ⟨p, 0, none⟩)] w fun ex w' => ∃ (x : Bf) (s' : St), ex = .returned (.agg #[.int .i64 x.sz, .int .i64 x.dp]) ∧ okBf x ∧ Got decBf (xs, e) x s' ∧ RdDid F p s'.1 s'.2 w w' := by
  have F0 : Hid (Fil w F p [.int .i64 0, .int .i64 0] [.int .i64 0, .int .i64 0] 128 (xs, e) ((w.alloc (.cells #[.int .i64 0, .int .i64 0] 128)).alloc (.cells #[.int .i64 0, .int .i64 0] 128))) := Fil.new (s := (xs, e)) h [.int .i64 0, .int .i64 0] 128
  clear h
  go_enter Tryz.func159, Tryz.ntmps159
  go_upto_region 2 with fail
  generalize (w.alloc (.cells #[.int .i64 0, .int .i64 0] 128)).alloc (.cells #[.int .i64 0, .int .i64 0] 128) = w0 at *
  have cp := getNumber_any F p xs e w0 F0.out.rd
  go_upto_region 3 with (go_at_call 107; refine cp.mono ?_; rintro ex v0 ⟨x0, s1, rfl, hx0, hg0, hd0⟩; have G0 : Hid (Fil w F p [.int .i64 0, .int .i64 0] [.int .i64 0, .int .i64 0] 128 s1 v0) := F0.out.did hd0; have q0 := G0.out.b3.cell (j := 0) rfl; have z0 := G0.out.b3.fz 0; clear hd0)
  have F1 : Hid (Fil w F p [.int .i64 0, .int .i64 0] [.int .i64 x0, .int .i64 0] 128 s1 (v0.setCell ⟨w.heap.size + 1, 0, none⟩ (.int .i64 x0))) := G0.out.set 0 _
  generalize v0.setCell ⟨w.heap.size + 1, 0, none⟩ (.int .i64 x0) = w1 at *
  clear cp q0 z0 G0
  have cp := getNumber_any F p s1.1 s1.2 w1 F1.out.rd
  go_upto_region 4 with (go_at_call 107; refine cp.mono ?_; rintro ex v1 ⟨x1, s2, rfl, hx1, hg1, hd1⟩; have G1 : Hid (Fil w F p [.int .i64 0, .int .i64 0] [.int .i64 x0, .int .i64 0] 128 s2 v1) := F1.out.did hd1; have q1 := G1.out.b3.cell (j := 1) rfl; have z1 := G1.out.b3.fz 1; clear hd1)
  have F2 : Hid (Fil w F p [.int .i64 0, .int .i64 0] [.int .i64 x0, .int .i64 x1] 128 s2 (v1.setCell ⟨w.heap.size + 1, 1, none⟩ (.int .i64 x1))) := G1.out.set 1 _
  generalize v1.setCell ⟨w.heap.size + 1, 1, none⟩ (.int .i64 x1) = w2 at *
  clear cp q1 z1 G1
  have q0 := F2.out.b3.cell (j := 0) rfl
  have y0 := F2.out.b2.cell (j := 0) rfl
  have f0 := F2.out.b2.fz 0
  have q1 := F2.out.b3.cell (j := 1) rfl
  have y1 := F2.out.b2.cell (j := 1) rfl
  have f1 := F2.out.b2.fz 1
  have HEND : Hid (Fil w F p [.int .i64 0, .int .i64 0] [.int .i64 x0, .int .i64 x1] 128 s2 w2) := F2.out
  go_wp2
  refine bodyPost_ret (results_cell_row rfl _ _ w.heap.size 128 #[.int .i64 x0, .int .i64 x1] (0, 0) _ rfl (set2 HEND.out.b2) Tryz.underlying128 rfl (by kernel_rfl)) rfl ?_
  refine ⟨⟨x0, x1⟩, s2, rfl, ⟨hx0, hx1⟩, (hg0.bind (hg1.bind (Got.pure _ _))), HEND.out.rd.kept (setK2 _ _ _ _) (fun b hb e => by have := HEND.out.fl b hb; omega), HEND.out.kp.trans (setK2 _ _ _ _) (fun k e => .inr (by omega))⟩

set_option maxHeartbeats 4000000 in
theorem askSrv (F : Nat → Prop) (p : Nat) (xs : List Nat) (e : Int) (w : World) (h : Rd w F p xs e) :
    Calls Tryz.prog 106 #[.pointer (some ⟨p, 0, none⟩)] w fun ex w' => ∃ (x : Srv) (s' : St), ex = .returned (.agg #[.int .i64 x.pe, .int .i64 x.bu, .int .i64 x.off, .int .i64 x.pr]) ∧ okSrv x ∧ Got decSrv (xs, e) x s' ∧ RdDid F p s'.1 s'.2 w w' := by
  have F0 : Hid (Fil w F p [.int .i64 0, .int .i64 0, .int .i64 0, .int .i64 0] [.int .i64 0, .int .i64 0, .int .i64 0, .int .i64 0] 57 (xs, e) ((w.alloc (.cells #[.int .i64 0, .int .i64 0, .int .i64 0, .int .i64 0] 57)).alloc (.cells #[.int .i64 0, .int .i64 0, .int .i64 0, .int .i64 0] 57))) := Fil.new (s := (xs, e)) h [.int .i64 0, .int .i64 0, .int .i64 0, .int .i64 0] 57
  clear h
  go_enter Tryz.func106, Tryz.ntmps106
  go_upto_region 2 with fail
  generalize (w.alloc (.cells #[.int .i64 0, .int .i64 0, .int .i64 0, .int .i64 0] 57)).alloc (.cells #[.int .i64 0, .int .i64 0, .int .i64 0, .int .i64 0] 57) = w0 at *
  have cp := getNumber_any F p xs e w0 F0.out.rd
  go_upto_region 3 with (go_at_call 107; refine cp.mono ?_; rintro ex v0 ⟨x0, s1, rfl, hx0, hg0, hd0⟩; have G0 : Hid (Fil w F p [.int .i64 0, .int .i64 0, .int .i64 0, .int .i64 0] [.int .i64 0, .int .i64 0, .int .i64 0, .int .i64 0] 57 s1 v0) := F0.out.did hd0; have q0 := G0.out.b3.cell (j := 0) rfl; have z0 := G0.out.b3.fz 0; clear hd0)
  have F1 : Hid (Fil w F p [.int .i64 0, .int .i64 0, .int .i64 0, .int .i64 0] [.int .i64 x0, .int .i64 0, .int .i64 0, .int .i64 0] 57 s1 (v0.setCell ⟨w.heap.size + 1, 0, none⟩ (.int .i64 x0))) := G0.out.set 0 _
  generalize v0.setCell ⟨w.heap.size + 1, 0, none⟩ (.int .i64 x0) = w1 at *
  clear cp q0 z0 G0
  have cp := getNumber_any F p s1.1 s1.2 w1 F1.out.rd
  go_upto_region 4 with (go_at_call 107; refine cp.mono ?_; rintro ex v1 ⟨x1, s2, rfl, hx1, hg1, hd1⟩; have G1 : Hid (Fil w F p [.int .i64 0, .int .i64 0, .int .i64 0, .int .i64 0] [.int .i64 x0, .int .i64 0, .int .i64 0, .int .i64 0] 57 s2 v1) := F1.out.did hd1; have q1 := G1.out.b3.cell (j := 1) rfl; have z1 := G1.out.b3.fz 1; clear hd1)
  have F2 : Hid (Fil w F p [.int .i64 0, .int .i64 0, .int .i64 0, .int .i64 0] [.int .i64 x0, .int .i64 x1, .int .i64 0, .int .i64 0] 57 s2 (v1.setCell ⟨w.heap.size + 1, 1, none⟩ (.int .i64 x1))) := G1.out.set 1 _
  generalize v1.setCell ⟨w.heap.size + 1, 1, none⟩ (.int .i64 x1) = w2 at *
  clear cp q1 z1 G1
  have cp := getNumber_any F p s2.1 s2.2 w2 F2.out.rd
  go_upto_region 5 with (go_at_call 107; refine cp.mono ?_; rintro ex v2 ⟨x2, s3, rfl, hx2, hg2, hd2⟩; have G2 : Hid (Fil w F p [.int .i64 0, .int .i64 0, .int .i64 0, .int .i64 0] [.int .i64 x0, .int .i64 x1, .int .i64 0, .int .i64 0] 57 s3 v2) := F2.out.did hd2; have q2 := G2.out.b3.cell (j := 2) rfl; have z2 := G2.out.b3.fz 2; clear hd2)
  have F3 : Hid (Fil w F p [.int .i64 0, .int .i64 0, .int .i64 0, .int .i64 0] [.int .i64 x0, .int .i64 x1, .int .i64 x2, .int .i64 0] 57 s3 (v2.setCell ⟨w.heap.size + 1, 2, none⟩ (.int .i64 x2))) := G2.out.set 2 _
  generalize v2.setCell ⟨w.heap.size + 1, 2, none⟩ (.int .i64 x2) = w3 at *
  clear cp q2 z2 G2
  have cp := getNumber_any F p s3.1 s3.2 w3 F3.out.rd
  go_upto_region 6 with (go_at_call 107; refine cp.mono ?_; rintro ex v3 ⟨x3, s4, rfl, hx3, hg3, hd3⟩; have G3 : Hid (Fil w F p [.int .i64 0, .int .i64 0, .int .i64 0, .int .i64 0] [.int .i64 x0, .int .i64 x1, .int .i64 x2, .int .i64 0] 57 s4 v3) := F3.out.did hd3; have q3 := G3.out.b3.cell (j := 3) rfl; have z3 := G3.out.b3.fz 3; clear hd3)
  have F4 : Hid (Fil w F p [.int .i64 0, .int .i64 0, .int .i64 0, .int .i64 0] [.int .i64 x0, .int .i64 x1, .int .i64 x2, .int .i64 x3] 57 s4 (v3.setCell ⟨w.heap.size + 1, 3, none⟩ (.int .i64 x3))) := G3.out.set 3 _
  generalize v3.setCell ⟨w.heap.size + 1, 3, none⟩ (.int .i64 x3) = w4 at *
  clear cp q3 z3 G3
  have q0 := F4.out.b3.cell (j := 0) rfl
  have y0 := F4.out.b2.cell (j := 0) rfl
  have f0 := F4.out.b2.fz 0
  have q1 := F4.out.b3.cell (j := 1) rfl
  have y1 := F4.out.b2.cell (j := 1) rfl
  have f1 := F4.out.b2.fz 1
  have q2 := F4.out.b3.cell (j := 2) rfl
  have y2 := F4.out.b2.cell (j := 2) rfl
  have f2 := F4.out.b2.fz 2
  have q3 := F4.out.b3.cell (j := 3) rfl
  have y3 := F4.out.b2.cell (j := 3) rfl
  have f3 := F4.out.b2.fz 3
  have HEND : Hid (Fil w F p [.int .i64 0, .int .i64 0, .int .i64 0, .int .i64 0] [.int .i64 x0, .int .i64 x1, .int .i64 x2, .int .i64 x3] 57 s4 w4) := F4.out
  go_wp2
  refine bodyPost_ret (results_cell_row rfl _ _ w.heap.size 57 #[.int .i64 x0, .int .i64 x1, .int .i64 x2, .int .i64 x3] (0, 0) _ rfl (set4 HEND.out.b2) Tryz.underlying57 rfl (by kernel_rfl)) rfl ?_
  refine ⟨⟨x0, x1, x2, x3⟩, s4, rfl, ⟨hx0, hx1, hx2, hx3⟩, (hg0.bind (hg1.bind (hg2.bind (hg3.bind (Got.pure _ _))))), HEND.out.rd.kept (setK4 _ _ _ _ _ _) (fun b hb e => by have := HEND.out.fl b hb; omega), HEND.out.kp.trans (setK4 _ _ _ _ _ _) (fun k e => .inr (by omega))⟩

set_option maxHeartbeats 4000000 in
theorem askPrc (F : Nat → Prop) (p : Nat) (xs : List Nat) (e : Int) (w : World) (h : Rd w F p xs e) :
    Calls Tryz.prog 154 #[.pointer (some ⟨p, 0, none⟩)] w fun ex w' => ∃ (x : Prc) (s' : St), ex = .returned (.agg #[.int .i64 x.en, .int .i64 x.pr, .int .i64 x.pe, .int .i64 x.li, .int .i64 x.ca, .bool x.auto]) ∧ okPrc x ∧ Got decPrc (xs, e) x s' ∧ RdDid F p s'.1 s'.2 w w' := by
  have F0 : Hid (Fil w F p [.int .i64 0, .int .i64 0, .int .i64 0, .int .i64 0, .int .i64 0, .bool false] [.int .i64 0, .int .i64 0, .int .i64 0, .int .i64 0, .int .i64 0, .bool false] 124 (xs, e) ((w.alloc (.cells #[.int .i64 0, .int .i64 0, .int .i64 0, .int .i64 0, .int .i64 0, .bool false] 124)).alloc (.cells #[.int .i64 0, .int .i64 0, .int .i64 0, .int .i64 0, .int .i64 0, .bool false] 124))) := Fil.new (s := (xs, e)) h [.int .i64 0, .int .i64 0, .int .i64 0, .int .i64 0, .int .i64 0, .bool false] 124
  clear h
  go_enter Tryz.func154, Tryz.ntmps154
  go_upto_region 2 with fail
  generalize (w.alloc (.cells #[.int .i64 0, .int .i64 0, .int .i64 0, .int .i64 0, .int .i64 0, .bool false] 124)).alloc (.cells #[.int .i64 0, .int .i64 0, .int .i64 0, .int .i64 0, .int .i64 0, .bool false] 124) = w0 at *
  have cp := getNumber_any F p xs e w0 F0.out.rd
  go_upto_region 3 with (go_at_call 107; refine cp.mono ?_; rintro ex v0 ⟨x0, s1, rfl, hx0, hg0, hd0⟩; have G0 : Hid (Fil w F p [.int .i64 0, .int .i64 0, .int .i64 0, .int .i64 0, .int .i64 0, .bool false] [.int .i64 0, .int .i64 0, .int .i64 0, .int .i64 0, .int .i64 0, .bool false] 124 s1 v0) := F0.out.did hd0; have q0 := G0.out.b3.cell (j := 0) rfl; have z0 := G0.out.b3.fz 0; clear hd0)
  have F1 : Hid (Fil w F p [.int .i64 0, .int .i64 0, .int .i64 0, .int .i64 0, .int .i64 0, .bool false] [.int .i64 x0, .int .i64 0, .int .i64 0, .int .i64 0, .int .i64 0, .bool false] 124 s1 (v0.setCell ⟨w.heap.size + 1, 0, none⟩ (.int .i64 x0))) := G0.out.set 0 _
  generalize v0.setCell ⟨w.heap.size + 1, 0, none⟩ (.int .i64 x0) = w1 at *
  clear cp q0 z0 G0
  have cp := getNumber_any F p s1.1 s1.2 w1 F1.out.rd
  go_upto_region 4 with (go_at_call 107; refine cp.mono ?_; rintro ex v1 ⟨x1, s2, rfl, hx1, hg1, hd1⟩; have G1 : Hid (Fil w F p [.int .i64 0, .int .i64 0, .int .i64 0, .int .i64 0, .int .i64 0, .bool false] [.int .i64 x0, .int .i64 0, .int .i64 0, .int .i64 0, .int .i64 0, .bool false] 124 s2 v1) := F1.out.did hd1; have q1 := G1.out.b3.cell (j := 1) rfl; have z1 := G1.out.b3.fz 1; clear hd1)
  have F2 : Hid (Fil w F p [.int .i64 0, .int .i64 0, .int .i64 0, .int .i64 0, .int .i64 0, .bool false] [.int .i64 x0, .int .i64 x1, .int .i64 0, .int .i64 0, .int .i64 0, .bool false] 124 s2 (v1.setCell ⟨w.heap.size + 1, 1, none⟩ (.int .i64 x1))) := G1.out.set 1 _
  generalize v1.setCell ⟨w.heap.size + 1, 1, none⟩ (.int .i64 x1) = w2 at *
  clear cp q1 z1 G1
  have cp := getNumber_any F p s2.1 s2.2 w2 F2.out.rd
  go_upto_region 5 with (go_at_call 107; refine cp.mono ?_; rintro ex v2 ⟨x2, s3, rfl, hx2, hg2, hd2⟩; have G2 : Hid (Fil w F p [.int .i64 0, .int .i64 0, .int .i64 0, .int .i64 0, .int .i64 0, .bool false] [.int .i64 x0, .int .i64 x1, .int .i64 0, .int .i64 0, .int .i64 0, .bool false] 124 s3 v2) := F2.out.did hd2; have q2 := G2.out.b3.cell (j := 2) rfl; have z2 := G2.out.b3.fz 2; clear hd2)
  have F3 : Hid (Fil w F p [.int .i64 0, .int .i64 0, .int .i64 0, .int .i64 0, .int .i64 0, .bool false] [.int .i64 x0, .int .i64 x1, .int .i64 x2, .int .i64 0, .int .i64 0, .bool false] 124 s3 (v2.setCell ⟨w.heap.size + 1, 2, none⟩ (.int .i64 x2))) := G2.out.set 2 _
  generalize v2.setCell ⟨w.heap.size + 1, 2, none⟩ (.int .i64 x2) = w3 at *
  clear cp q2 z2 G2
  have cp := getNumber_any F p s3.1 s3.2 w3 F3.out.rd
  go_upto_region 6 with (go_at_call 107; refine cp.mono ?_; rintro ex v3 ⟨x3, s4, rfl, hx3, hg3, hd3⟩; have G3 : Hid (Fil w F p [.int .i64 0, .int .i64 0, .int .i64 0, .int .i64 0, .int .i64 0, .bool false] [.int .i64 x0, .int .i64 x1, .int .i64 x2, .int .i64 0, .int .i64 0, .bool false] 124 s4 v3) := F3.out.did hd3; have q3 := G3.out.b3.cell (j := 3) rfl; have z3 := G3.out.b3.fz 3; clear hd3)
  have F4 : Hid (Fil w F p [.int .i64 0, .int .i64 0, .int .i64 0, .int .i64 0, .int .i64 0, .bool false] [.int .i64 x0, .int .i64 x1, .int .i64 x2, .int .i64 x3, .int .i64 0, .bool false] 124 s4 (v3.setCell ⟨w.heap.size + 1, 3, none⟩ (.int .i64 x3))) := G3.out.set 3 _
  generalize v3.setCell ⟨w.heap.size + 1, 3, none⟩ (.int .i64 x3) = w4 at *
  clear cp q3 z3 G3
  have cp := getNumber_any F p s4.1 s4.2 w4 F4.out.rd
  go_upto_region 7 with (go_at_call 107; refine cp.mono ?_; rintro ex v4 ⟨x4, s5, rfl, hx4, hg4, hd4⟩; have G4 : Hid (Fil w F p [.int .i64 0, .int .i64 0, .int .i64 0, .int .i64 0, .int .i64 0, .bool false] [.int .i64 x0, .int .i64 x1, .int .i64 x2, .int .i64 x3, .int .i64 0, .bool false] 124 s5 v4) := F4.out.did hd4; have q4 := G4.out.b3.cell (j := 4) rfl; have z4 := G4.out.b3.fz 4; clear hd4)
  have F5 : Hid (Fil w F p [.int .i64 0, .int .i64 0, .int .i64 0, .int .i64 0, .int .i64 0, .bool false] [.int .i64 x0, .int .i64 x1, .int .i64 x2, .int .i64 x3, .int .i64 x4, .bool false] 124 s5 (v4.setCell ⟨w.heap.size + 1, 4, none⟩ (.int .i64 x4))) := G4.out.set 4 _
  generalize v4.setCell ⟨w.heap.size + 1, 4, none⟩ (.int .i64 x4) = w5 at *
  clear cp q4 z4 G4
  have cp := askB F p s5.1 s5.2 w5 F5.out.rd
  go_upto_region 8 with (go_at_call 114; refine cp.mono ?_; rintro ex v5 ⟨x5, s6, rfl, hx5, hg5, hd5⟩; have G5 : Hid (Fil w F p [.int .i64 0, .int .i64 0, .int .i64 0, .int .i64 0, .int .i64 0, .bool false] [.int .i64 x0, .int .i64 x1, .int .i64 x2, .int .i64 x3, .int .i64 x4, .bool false] 124 s6 v5) := F5.out.did hd5; have q5 := G5.out.b3.cell (j := 5) rfl; have z5 := G5.out.b3.fz 5; clear hd5)
  have F6 : Hid (Fil w F p [.int .i64 0, .int .i64 0, .int .i64 0, .int .i64 0, .int .i64 0, .bool false] [.int .i64 x0, .int .i64 x1, .int .i64 x2, .int .i64 x3, .int .i64 x4, .bool x5] 124 s6 (v5.setCell ⟨w.heap.size + 1, 5, none⟩ (.bool x5))) := G5.out.set 5 _
  generalize v5.setCell ⟨w.heap.size + 1, 5, none⟩ (.bool x5) = w6 at *
  clear cp q5 z5 G5
  have q0 := F6.out.b3.cell (j := 0) rfl
  have y0 := F6.out.b2.cell (j := 0) rfl
  have f0 := F6.out.b2.fz 0
  have q1 := F6.out.b3.cell (j := 1) rfl
  have y1 := F6.out.b2.cell (j := 1) rfl
  have f1 := F6.out.b2.fz 1
  have q2 := F6.out.b3.cell (j := 2) rfl
  have y2 := F6.out.b2.cell (j := 2) rfl
  have f2 := F6.out.b2.fz 2
  have q3 := F6.out.b3.cell (j := 3) rfl
  have y3 := F6.out.b2.cell (j := 3) rfl
  have f3 := F6.out.b2.fz 3
  have q4 := F6.out.b3.cell (j := 4) rfl
  have y4 := F6.out.b2.cell (j := 4) rfl
  have f4 := F6.out.b2.fz 4
  have q5 := F6.out.b3.cell (j := 5) rfl
  have y5 := F6.out.b2.cell (j := 5) rfl
  have f5 := F6.out.b2.fz 5
  have HEND : Hid (Fil w F p [.int .i64 0, .int .i64 0, .int .i64 0, .int .i64 0, .int .i64 0, .bool false] [.int .i64 x0, .int .i64 x1, .int .i64 x2, .int .i64 x3, .int .i64 x4, .bool x5] 124 s6 w6) := F6.out
  go_wp2
  refine bodyPost_ret (results_cell_row rfl _ _ w.heap.size 124 #[.int .i64 x0, .int .i64 x1, .int .i64 x2, .int .i64 x3, .int .i64 x4, .bool x5] (0, 0) _ rfl (set6 HEND.out.b2) Tryz.underlying124 rfl (by kernel_rfl)) rfl ?_
  refine ⟨⟨x0, x1, x2, x3, x4, x5⟩, s6, rfl, ⟨hx0, hx1, hx2, hx3, hx4, hx5⟩, (hg0.bind (hg1.bind (hg2.bind (hg3.bind (hg4.bind (hg5.bind (Got.pure _ _))))))), HEND.out.rd.kept (setK6 _ _ _ _ _ _ _ _) (fun b hb e => by have := HEND.out.fl b hb; omega), HEND.out.kp.trans (setK6 _ _ _ _ _ _ _ _) (fun k e => .inr (by omega))⟩

set_option maxHeartbeats 4000000 in
theorem askPo (F : Nat → Prop) (p : Nat) (xs : List Nat) (e : Int) (w : World) (h : Rd w F p xs e) :
    Calls Tryz.prog 117 #[.pointer (some ⟨p, 0, none⟩)] w fun ex w' => ∃ (x : Po) (s' : St), ex = .returned (.agg #[.int .i64 x.pt, .int .i64 x.kd, .bool x.out, .int .i64 x.sz, .int .i64 x.dp, .int .i64 x.rf]) ∧ okPo x ∧ Got decPo (xs, e) x s' ∧ RdDid F p s'.1 s'.2 w w' := by
  have F0 : Hid (Fil w F p [.int .i64 0, .int .i64 0, .bool false, .int .i64 0, .int .i64 0, .int .i64 0] [.int .i64 0, .int .i64 0, .bool false, .int .i64 0, .int .i64 0, .int .i64 0] 70 (xs, e) ((w.alloc (.cells #[.int .i64 0, .int .i64 0, .bool false, .int .i64 0, .int .i64 0, .int .i64 0] 70)).alloc (.cells #[.int .i64 0, .int .i64 0, .bool false, .int .i64 0, .int .i64 0, .int .i64 0] 70))) := Fil.new (s := (xs, e)) h [.int .i64 0, .int .i64 0, .bool false, .int .i64 0, .int .i64 0, .int .i64 0] 70
  clear h
  go_enter Tryz.func117, Tryz.ntmps117
  go_upto_region 2 with fail
  generalize (w.alloc (.cells #[.int .i64 0, .int .i64 0, .bool false, .int .i64 0, .int .i64 0, .int .i64 0] 70)).alloc (.cells #[.int .i64 0, .int .i64 0, .bool false, .int .i64 0, .int .i64 0, .int .i64 0] 70) = w0 at *
  have cp := getNumber_any F p xs e w0 F0.out.rd
  go_upto_region 3 with (go_at_call 107; refine cp.mono ?_; rintro ex v0 ⟨x0, s1, rfl, hx0, hg0, hd0⟩; have G0 : Hid (Fil w F p [.int .i64 0, .int .i64 0, .bool false, .int .i64 0, .int .i64 0, .int .i64 0] [.int .i64 0, .int .i64 0, .bool false, .int .i64 0, .int .i64 0, .int .i64 0] 70 s1 v0) := F0.out.did hd0; have q0 := G0.out.b3.cell (j := 0) rfl; have z0 := G0.out.b3.fz 0; clear hd0)
  have F1 : Hid (Fil w F p [.int .i64 0, .int .i64 0, .bool false, .int .i64 0, .int .i64 0, .int .i64 0] [.int .i64 x0, .int .i64 0, .bool false, .int .i64 0, .int .i64 0, .int .i64 0] 70 s1 (v0.setCell ⟨w.heap.size + 1, 0, none⟩ (.int .i64 x0))) := G0.out.set 0 _
  generalize v0.setCell ⟨w.heap.size + 1, 0, none⟩ (.int .i64 x0) = w1 at *
  clear cp q0 z0 G0
  have cp := getNumber_any F p s1.1 s1.2 w1 F1.out.rd
  go_upto_region 4 with (go_at_call 107; refine cp.mono ?_; rintro ex v1 ⟨x1, s2, rfl, hx1, hg1, hd1⟩; have G1 : Hid (Fil w F p [.int .i64 0, .int .i64 0, .bool false, .int .i64 0, .int .i64 0, .int .i64 0] [.int .i64 x0, .int .i64 0, .bool false, .int .i64 0, .int .i64 0, .int .i64 0] 70 s2 v1) := F1.out.did hd1; have q1 := G1.out.b3.cell (j := 1) rfl; have z1 := G1.out.b3.fz 1; clear hd1)
  have F2 : Hid (Fil w F p [.int .i64 0, .int .i64 0, .bool false, .int .i64 0, .int .i64 0, .int .i64 0] [.int .i64 x0, .int .i64 x1, .bool false, .int .i64 0, .int .i64 0, .int .i64 0] 70 s2 (v1.setCell ⟨w.heap.size + 1, 1, none⟩ (.int .i64 x1))) := G1.out.set 1 _
  generalize v1.setCell ⟨w.heap.size + 1, 1, none⟩ (.int .i64 x1) = w2 at *
  clear cp q1 z1 G1
  have cp := askB F p s2.1 s2.2 w2 F2.out.rd
  go_upto_region 5 with (go_at_call 114; refine cp.mono ?_; rintro ex v2 ⟨x2, s3, rfl, hx2, hg2, hd2⟩; have G2 : Hid (Fil w F p [.int .i64 0, .int .i64 0, .bool false, .int .i64 0, .int .i64 0, .int .i64 0] [.int .i64 x0, .int .i64 x1, .bool false, .int .i64 0, .int .i64 0, .int .i64 0] 70 s3 v2) := F2.out.did hd2; have q2 := G2.out.b3.cell (j := 2) rfl; have z2 := G2.out.b3.fz 2; clear hd2)
  have F3 : Hid (Fil w F p [.int .i64 0, .int .i64 0, .bool false, .int .i64 0, .int .i64 0, .int .i64 0] [.int .i64 x0, .int .i64 x1, .bool x2, .int .i64 0, .int .i64 0, .int .i64 0] 70 s3 (v2.setCell ⟨w.heap.size + 1, 2, none⟩ (.bool x2))) := G2.out.set 2 _
  generalize v2.setCell ⟨w.heap.size + 1, 2, none⟩ (.bool x2) = w3 at *
  clear cp q2 z2 G2
  have cp := getNumber_any F p s3.1 s3.2 w3 F3.out.rd
  go_upto_region 6 with (go_at_call 107; refine cp.mono ?_; rintro ex v3 ⟨x3, s4, rfl, hx3, hg3, hd3⟩; have G3 : Hid (Fil w F p [.int .i64 0, .int .i64 0, .bool false, .int .i64 0, .int .i64 0, .int .i64 0] [.int .i64 x0, .int .i64 x1, .bool x2, .int .i64 0, .int .i64 0, .int .i64 0] 70 s4 v3) := F3.out.did hd3; have q3 := G3.out.b3.cell (j := 3) rfl; have z3 := G3.out.b3.fz 3; clear hd3)
  have F4 : Hid (Fil w F p [.int .i64 0, .int .i64 0, .bool false, .int .i64 0, .int .i64 0, .int .i64 0] [.int .i64 x0, .int .i64 x1, .bool x2, .int .i64 x3, .int .i64 0, .int .i64 0] 70 s4 (v3.setCell ⟨w.heap.size + 1, 3, none⟩ (.int .i64 x3))) := G3.out.set 3 _
  generalize v3.setCell ⟨w.heap.size + 1, 3, none⟩ (.int .i64 x3) = w4 at *
  clear cp q3 z3 G3
  have cp := getNumber_any F p s4.1 s4.2 w4 F4.out.rd
  go_upto_region 7 with (go_at_call 107; refine cp.mono ?_; rintro ex v4 ⟨x4, s5, rfl, hx4, hg4, hd4⟩; have G4 : Hid (Fil w F p [.int .i64 0, .int .i64 0, .bool false, .int .i64 0, .int .i64 0, .int .i64 0] [.int .i64 x0, .int .i64 x1, .bool x2, .int .i64 x3, .int .i64 0, .int .i64 0] 70 s5 v4) := F4.out.did hd4; have q4 := G4.out.b3.cell (j := 4) rfl; have z4 := G4.out.b3.fz 4; clear hd4)
  have F5 : Hid (Fil w F p [.int .i64 0, .int .i64 0, .bool false, .int .i64 0, .int .i64 0, .int .i64 0] [.int .i64 x0, .int .i64 x1, .bool x2, .int .i64 x3, .int .i64 x4, .int .i64 0] 70 s5 (v4.setCell ⟨w.heap.size + 1, 4, none⟩ (.int .i64 x4))) := G4.out.set 4 _
  generalize v4.setCell ⟨w.heap.size + 1, 4, none⟩ (.int .i64 x4) = w5 at *
  clear cp q4 z4 G4
  have cp := getNumber_any F p s5.1 s5.2 w5 F5.out.rd
  go_upto_region 8 with (go_at_call 107; refine cp.mono ?_; rintro ex v5 ⟨x5, s6, rfl, hx5, hg5, hd5⟩; have G5 : Hid (Fil w F p [.int .i64 0, .int .i64 0, .bool false, .int .i64 0, .int .i64 0, .int .i64 0] [.int .i64 x0, .int .i64 x1, .bool x2, .int .i64 x3, .int .i64 x4, .int .i64 0] 70 s6 v5) := F5.out.did hd5; have q5 := G5.out.b3.cell (j := 5) rfl; have z5 := G5.out.b3.fz 5; clear hd5)
  have F6 : Hid (Fil w F p [.int .i64 0, .int .i64 0, .bool false, .int .i64 0, .int .i64 0, .int .i64 0] [.int .i64 x0, .int .i64 x1, .bool x2, .int .i64 x3, .int .i64 x4, .int .i64 x5] 70 s6 (v5.setCell ⟨w.heap.size + 1, 5, none⟩ (.int .i64 x5))) := G5.out.set 5 _
  generalize v5.setCell ⟨w.heap.size + 1, 5, none⟩ (.int .i64 x5) = w6 at *
  clear cp q5 z5 G5
  have q0 := F6.out.b3.cell (j := 0) rfl
  have y0 := F6.out.b2.cell (j := 0) rfl
  have f0 := F6.out.b2.fz 0
  have q1 := F6.out.b3.cell (j := 1) rfl
  have y1 := F6.out.b2.cell (j := 1) rfl
  have f1 := F6.out.b2.fz 1
  have q2 := F6.out.b3.cell (j := 2) rfl
  have y2 := F6.out.b2.cell (j := 2) rfl
  have f2 := F6.out.b2.fz 2
  have q3 := F6.out.b3.cell (j := 3) rfl
  have y3 := F6.out.b2.cell (j := 3) rfl
  have f3 := F6.out.b2.fz 3
  have q4 := F6.out.b3.cell (j := 4) rfl
  have y4 := F6.out.b2.cell (j := 4) rfl
  have f4 := F6.out.b2.fz 4
  have q5 := F6.out.b3.cell (j := 5) rfl
  have y5 := F6.out.b2.cell (j := 5) rfl
  have f5 := F6.out.b2.fz 5
  have HEND : Hid (Fil w F p [.int .i64 0, .int .i64 0, .bool false, .int .i64 0, .int .i64 0, .int .i64 0] [.int .i64 x0, .int .i64 x1, .bool x2, .int .i64 x3, .int .i64 x4, .int .i64 x5] 70 s6 w6) := F6.out
  go_wp2
  refine bodyPost_ret (results_cell_row rfl _ _ w.heap.size 70 #[.int .i64 x0, .int .i64 x1, .bool x2, .int .i64 x3, .int .i64 x4, .int .i64 x5] (0, 0) _ rfl (set6 HEND.out.b2) Tryz.underlying70 rfl (by kernel_rfl)) rfl ?_
  refine ⟨⟨x0, x1, x2, x3, x4, x5⟩, s6, rfl, ⟨hx0, hx1, hx2, hx3, hx4, hx5⟩, (hg0.bind (hg1.bind (hg2.bind (hg3.bind (hg4.bind (hg5.bind (Got.pure _ _))))))), HEND.out.rd.kept (setK6 _ _ _ _ _ _ _ _) (fun b hb e => by have := HEND.out.fl b hb; omega), HEND.out.kp.trans (setK6 _ _ _ _ _ _ _ _) (fun k e => .inr (by omega))⟩

end Go.Proofs.YtolmhoenjcinjaaGreat
