/-
  The law IsaBytes.
-/
import Derived.Test.YtkmhpbjegkhabaaEqs
import Derived.Deep.RegionWith
import Derived.Deep.DeepCutAuto
namespace Go.Proofs.Ytkmhpbjegkhabaa
open Go.RowKit
set_option linter.unusedVariables false

/-- the world behind the two boxes -/
abbrev boxed (w : World) (o a b c n o' a' b' c' p q r s : Int) : World :=
  (w.alloc (.cells #[.int .u8 o, .int .u8 a, .int .u8 b, .int .u8 c, .int .i32 n] 23)).alloc (.cells #[.int .u8 o', .int .u8 a', .int .u8 b', .int .u8 c', .int .u8 p, .int .u8 q, .int .u8 r, .int .u8 s] 24)

theorem boxed_cells {w w' : World} {o a b c n o' a' b' c' p q r s : Int} (h : Below (w.heap.size + 2) (boxed w o a b c n o' a' b' c' p q r s) w') :
    (w'.cell? ⟨w.heap.size, 0, none⟩ = some (.int .u8 o) ∧ w'.cell? ⟨w.heap.size, 1, none⟩ = some (.int .u8 a) ∧ w'.cell? ⟨w.heap.size, 2, none⟩ = some (.int .u8 b) ∧ w'.cell? ⟨w.heap.size, 3, none⟩ = some (.int .u8 c) ∧ w'.cell? ⟨w.heap.size, 4, none⟩ = some (.int .i32 n)) ∧
    (w'.cell? ⟨w.heap.size + 1, 0, none⟩ = some (.int .u8 o') ∧ w'.cell? ⟨w.heap.size + 1, 1, none⟩ = some (.int .u8 a') ∧ w'.cell? ⟨w.heap.size + 1, 2, none⟩ = some (.int .u8 b') ∧ w'.cell? ⟨w.heap.size + 1, 3, none⟩ = some (.int .u8 c') ∧
     w'.cell? ⟨w.heap.size + 1, 4, none⟩ = some (.int .u8 p) ∧ w'.cell? ⟨w.heap.size + 1, 5, none⟩ = some (.int .u8 q) ∧ w'.cell? ⟨w.heap.size + 1, 6, none⟩ = some (.int .u8 r) ∧ w'.cell? ⟨w.heap.size + 1, 7, none⟩ = some (.int .u8 s)) := by
  have h1 := heap_alloc2_old w (.cells #[.int .u8 o, .int .u8 a, .int .u8 b, .int .u8 c, .int .i32 n] 23) (.cells #[.int .u8 o', .int .u8 a', .int .u8 b', .int .u8 c', .int .u8 p, .int .u8 q, .int .u8 r, .int .u8 s] 24)
  have h2 := heap_alloc2_new w (.cells #[.int .u8 o, .int .u8 a, .int .u8 b, .int .u8 c, .int .i32 n] 23) (.cells #[.int .u8 o', .int .u8 a', .int .u8 b', .int .u8 c', .int .u8 p, .int .u8 q, .int .u8 r, .int .u8 s] 24)
  have g1 := (h.block w.heap.size (by omega)).trans h1
  have g2 := (h.block (w.heap.size + 1) (by omega)).trans h2
  refine ⟨⟨?_, ?_, ?_, ?_, ?_⟩, ?_, ?_, ?_, ?_, ?_, ?_, ?_, ?_⟩ <;> simp [World.cell?, g1, g2]

set_option maxHeartbeats 4000000 in
set_option maxRecDepth 100000 in
theorem isaBytes_walk (o a b c n o' a' b' c' p q r s : Int) (hn : -2147483648 ≤ n ∧ n ≤ 2147483647) (hp : 0 ≤ p ∧ p < 256) (hq : 0 ≤ q ∧ q < 256) (hr : 0 ≤ r ∧ r < 256) (hs : 0 ≤ s ∧ s < 256) (w : World) :
    Calls Try.prog 3 #[insV o a b c n, bytV o' a' b' c' p q r s] w fun ex w' => ex = .returned (.bool true) ∧ Below w.heap.size w w' := by
  obtain ⟨V, hV⟩ : ∃ V, V = encV o a b c n := ⟨_, rfl⟩
  obtain ⟨X, hX⟩ : ∃ X, X = insV o' a' b' c' (decN p q r s) := ⟨_, rfl⟩
  have qv : ∀ w0, (binOp .eql 24 V V).run Try.prog w0 = .ok (.bool true) w0 := fun w0 => by rw [hV]; unfold encV; rw [run_eq8]; simp
  have qx : ∀ w0, (binOp .eql 23 X X).run Try.prog w0 = .ok (.bool true) w0 := fun w0 => by rw [hX, run_eqIns]; simp
  have gv : ∀ w0 x y, (eqGuard .eql 24 x y V V).run Try.prog w0 = .ok () w0 := fun w0 x y => by rw [hV]; exact run_eqGuard_agg _ _ _ _ _ _ _ Try.eqGuardType24
  have gx : ∀ w0 x y, (eqGuard .eql 23 x y X X).run Try.prog w0 = .ok () w0 := fun w0 x y => by rw [hX]; exact run_eqGuard_agg _ _ _ _ _ _ _ Try.eqGuardType23
  have hbw : Below w.heap.size w (boxed w o a b c n o' a' b' c' p q r s) := ((Below.refl _ w).alloc (Nat.le_refl _) _).alloc (by simp) _
  have bc := fun (w' : World) (h : Below (w.heap.size + 2) (boxed w o a b c n o' a' b' c' p q r s) w') => boxed_cells h
  have c4 := fun (w0 : World) (hb : Below (w.heap.size + 2) (boxed w o a b c n o' a' b' c' p q r s) w0) => via (encode_any o a b c n hn w0) hb (by simp)
  have c5 := fun (w0 : World) (hb : Below (w.heap.size + 2) (boxed w o a b c n o' a' b' c' p q r s) w0) => via (refEncode_any o a b c n hn w0) hb (by simp)
  have c6 := fun (w0 : World) (hb : Below (w.heap.size + 2) (boxed w o a b c n o' a' b' c' p q r s) w0) => via (decode_any o' a' b' c' p q r s hp hq hr hs w0) hb (by simp)
  have c7 := fun (w0 : World) (hb : Below (w.heap.size + 2) (boxed w o a b c n o' a' b' c' p q r s) w0) => via (refDecode_any o' a' b' c' p q r s hp hq hr hs w0) hb (by simp)
  rw [← hV] at c4 c5
  rw [← hX] at c6 c7
  clear hn hp hq hr hs hV hX
  unfold insV bytV at *
  unfold boxed at *
  go_enter Try.func3, Try.ntmps3
  go_upto_region 1 with fail
  obtain ⟨W, hW⟩ : ∃ W, W = (w.alloc (.cells #[.int .u8 o, .int .u8 a, .int .u8 b, .int .u8 c, .int .i32 n] 23)).alloc (.cells #[.int .u8 o', .int .u8 a', .int .u8 b', .int .u8 c', .int .u8 p, .int .u8 q, .int .u8 r, .int .u8 s] 24) := ⟨_, rfl⟩
  rw [← hW] at c4 c5 c6 c7 bc hbw ⊢
  obtain ⟨⟨x0, x1, x2, x3, x4⟩, y0, y1, y2, y3, y4, y5, y6, y7⟩ := bc W (Below.refl _ _)
  have HBW : Hid (Below w.heap.size w W) := hbw
  obtain ⟨BC⟩ : Nonempty (Hid (∀ w', Below (w.heap.size + 2) W w' → _)) := ⟨bc⟩
  clear hW hbw bc
  go_region_with (first
    | (go_at_call 4; refine (c4 _ (by go_grown)).mono ?_; rintro ex w4 ⟨rfl, b4⟩; obtain ⟨⟨r0, r1, r2, r3, r4⟩, t0, t1, t2, t3, t4, t5, t6, t7⟩ := BC.out w4 b4)
    | (go_at_call 5; refine (c5 _ (by go_grown)).mono ?_; rintro ex w5 ⟨rfl, b5⟩; obtain ⟨⟨r0, r1, r2, r3, r4⟩, t0, t1, t2, t3, t4, t5, t6, t7⟩ := BC.out w5 b5)
    | (go_at_call 6; refine (c6 _ (by go_grown)).mono ?_; rintro ex w6 ⟨rfl, b6⟩; obtain ⟨⟨r0, r1, r2, r3, r4⟩, t0, t1, t2, t3, t4, t5, t6, t7⟩ := BC.out w6 b6)
    | (go_at_call 7; refine (c7 _ (by go_grown)).mono ?_; rintro ex w7 ⟨rfl, b7⟩))
  all_goals
    go_wp2
    go_ret
    refine ⟨rfl, HBW.out.trans (Below.mono ?_ (show w.heap.size ≤ w.heap.size + 2 by omega))⟩
    go_grown

end Go.Proofs.Ytkmhpbjegkhabaa
