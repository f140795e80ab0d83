/-
  The law IsaBack.
-/
import Derived.Test.YtkmhpbjegkhabaaDoorKnown
import Derived.Deep.RegionWith
import Derived.Deep.DeepCutAuto
namespace Go.Proofs.YtkmhpbjegkhabaaDoor
open Go.RowKit
set_option linter.unusedVariables false

/-- the world behind the two boxes -/
abbrev boxed (w : World) (o a b c n o' a' b' c' p q r s : Int) : World :=
  (w.alloc (.cells #[.int .u8 o, .int .u8 a, .int .u8 b, .int .u8 c, .int .i32 n] 26)).alloc (.cells #[.int .u8 o', .int .u8 a', .int .u8 b', .int .u8 c', .int .u8 p, .int .u8 q, .int .u8 r, .int .u8 s] 27)

theorem boxed_cells {w w' : World} {o a b c n o' a' b' c' p q r s : Int} (h : Below (w.heap.size + 2) (boxed w o a b c n o' a' b' c' p q r s) w') :
    (w'.cell? ⟨w.heap.size, 0, none⟩ = some (.int .u8 o) ∧ w'.cell? ⟨w.heap.size, 1, none⟩ = some (.int .u8 a) ∧ w'.cell? ⟨w.heap.size, 2, none⟩ = some (.int .u8 b) ∧ w'.cell? ⟨w.heap.size, 3, none⟩ = some (.int .u8 c) ∧ w'.cell? ⟨w.heap.size, 4, none⟩ = some (.int .i32 n)) ∧
    (w'.cell? ⟨w.heap.size + 1, 0, none⟩ = some (.int .u8 o') ∧ w'.cell? ⟨w.heap.size + 1, 1, none⟩ = some (.int .u8 a') ∧ w'.cell? ⟨w.heap.size + 1, 2, none⟩ = some (.int .u8 b') ∧ w'.cell? ⟨w.heap.size + 1, 3, none⟩ = some (.int .u8 c') ∧
     w'.cell? ⟨w.heap.size + 1, 4, none⟩ = some (.int .u8 p) ∧ w'.cell? ⟨w.heap.size + 1, 5, none⟩ = some (.int .u8 q) ∧ w'.cell? ⟨w.heap.size + 1, 6, none⟩ = some (.int .u8 r) ∧ w'.cell? ⟨w.heap.size + 1, 7, none⟩ = some (.int .u8 s)) := by
  have h1 := heap_alloc2_old w (.cells #[.int .u8 o, .int .u8 a, .int .u8 b, .int .u8 c, .int .i32 n] 26) (.cells #[.int .u8 o', .int .u8 a', .int .u8 b', .int .u8 c', .int .u8 p, .int .u8 q, .int .u8 r, .int .u8 s] 27)
  have h2 := heap_alloc2_new w (.cells #[.int .u8 o, .int .u8 a, .int .u8 b, .int .u8 c, .int .i32 n] 26) (.cells #[.int .u8 o', .int .u8 a', .int .u8 b', .int .u8 c', .int .u8 p, .int .u8 q, .int .u8 r, .int .u8 s] 27)
  have g1 := (h.block w.heap.size (by omega)).trans h1
  have g2 := (h.block (w.heap.size + 1) (by omega)).trans h2
  refine ⟨⟨?_, ?_, ?_, ?_, ?_⟩, ?_, ?_, ?_, ?_, ?_, ?_, ?_, ?_⟩ <;> simp [World.cell?, g1, g2]

/-- there and back -/
theorem dec_enc (n : Int) (hn : -2147483648 ≤ n ∧ n ≤ 2147483647) : decN (n % 4294967296 / 16777216) (n % 4294967296 / 65536 % 256) (n % 4294967296 / 256 % 256) (n % 256) = n := by
  unfold decN wrap32
  omega
theorem enc_dec (o a b c p q r s : Int) (hp : 0 ≤ p ∧ p < 256) (hq : 0 ≤ q ∧ q < 256) (hr : 0 ≤ r ∧ r < 256) (hs : 0 ≤ s ∧ s < 256) : encV o a b c (decN p q r s) = bytV o a b c p q r s := by
  have e : decN p q r s % 4294967296 = ((p * 256 + q) * 256 + r) * 256 + s := by unfold decN wrap32; omega
  have e2 : decN p q r s % 256 = s := by
    have : decN p q r s % 256 = (decN p q r s % 4294967296) % 256 := by omega
    rw [this, e]; omega
  unfold encV
  rw [e, e2, show (((p * 256 + q) * 256 + r) * 256 + s) / 16777216 = p by omega, show (((p * 256 + q) * 256 + r) * 256 + s) / 65536 % 256 = q by omega, show (((p * 256 + q) * 256 + r) * 256 + s) / 256 % 256 = r by omega]
theorem dec_range (p q r s : Int) : -2147483648 ≤ decN p q r s ∧ decN p q r s ≤ 2147483647 := by unfold decN wrap32; omega

set_option maxHeartbeats 8000000 in
set_option maxRecDepth 100000 in
theorem isaBack_walk (o a b c n o' a' b' c' p q r s : Int) (hn : -2147483648 ≤ n ∧ n ≤ 2147483647) (hp : 0 ≤ p ∧ p < 256) (hq : 0 ≤ q ∧ q < 256) (hr : 0 ≤ r ∧ r < 256) (hs : 0 ≤ s ∧ s < 256) (w : World) (hO : Ops w) (hT : Pow w) :
    Calls Tryd.prog 4 #[insV o a b c n, bytV o' a' b' c' p q r s] w fun ex w' => ex = .returned (.bool true) ∧ Below w.heap.size w w' := by
  obtain ⟨V, hV⟩ : ∃ V, V = encV o a b c n := ⟨_, rfl⟩
  obtain ⟨X, hX⟩ : ∃ X, X = insV o' a' b' c' (decN p q r s) := ⟨_, rfl⟩
  have hbw : Below w.heap.size w (boxed w o a b c n o' a' b' c' p q r s) := ((Below.refl _ w).alloc (Nat.le_refl _) _).alloc (by simp) _
  have bc := fun (w' : World) (h : Below (w.heap.size + 2) (boxed w o a b c n o' a' b' c' p q r s) w') => boxed_cells h
  have c14 := fun (w0 : World) (hb : Below (w.heap.size + 2) (boxed w o a b c n o' a' b' c' p q r s) w0) => via (known_walk w0 (hO.below (hbw.trans (hb.mono (by omega))) hO.pos) (hT.below (hbw.trans (hb.mono (by omega))))) hb (by simp)
  have c16a := fun (w0 : World) (hb : Below (w.heap.size + 2) (boxed w o a b c n o' a' b' c' p q r s) w0) => via (encode_any o a b c n hn w0) hb (by simp)
  have c15a : ∀ (w0 : World) (hb : Below (w.heap.size + 2) (boxed w o a b c n o' a' b' c' p q r s) w0), Calls Tryd.prog 15 #[V] w0 fun ex w' => ex = .returned (insV o a b c n) ∧ Below (w.heap.size + 2) (boxed w o a b c n o' a' b' c' p q r s) w' := fun w0 hb => by
    have := via (decode_any o a b c (n % 4294967296 / 16777216) (n % 4294967296 / 65536 % 256) (n % 4294967296 / 256 % 256) (n % 256) (by omega) (by omega) (by omega) (by omega) w0) hb (by simp)
    rw [dec_enc n hn] at this
    rw [hV]; exact this
  have c15b := fun (w0 : World) (hb : Below (w.heap.size + 2) (boxed w o a b c n o' a' b' c' p q r s) w0) => via (decode_any o' a' b' c' p q r s hp hq hr hs w0) hb (by simp)
  have c16b : ∀ (w0 : World) (hb : Below (w.heap.size + 2) (boxed w o a b c n o' a' b' c' p q r s) w0), Calls Tryd.prog 16 #[X] w0 fun ex w' => ex = .returned (bytV o' a' b' c' p q r s) ∧ Below (w.heap.size + 2) (boxed w o a b c n o' a' b' c' p q r s) w' := fun w0 hb => by
    have := via (encode_any o' a' b' c' (decN p q r s) (dec_range p q r s) w0) hb (by simp)
    rw [enc_dec o' a' b' c' p q r s hp hq hr hs] at this
    rw [hX]; exact this
  rw [← hV] at c16a
  rw [← hX] at c15b
  have q1 := fun w0 => run_eqIns w0 o a b c n o a b c n
  have q2 := fun w0 => run_eq8 w0 o' a' b' c' p q r s o' a' b' c' p q r s
  simp only [beq_self_eq_true, Bool.and_true] at q1 q2
  clear hn hp hq hr hs hV hX hO hT
  unfold insV bytV at *
  unfold boxed at *
  go_enter Tryd.func4, Tryd.ntmps4
  go_upto_region 1 with fail
  obtain ⟨W, hW⟩ : ∃ W, W = (w.alloc (.cells #[.int .u8 o, .int .u8 a, .int .u8 b, .int .u8 c, .int .i32 n] 26)).alloc (.cells #[.int .u8 o', .int .u8 a', .int .u8 b', .int .u8 c', .int .u8 p, .int .u8 q, .int .u8 r, .int .u8 s] 27) := ⟨_, rfl⟩
  rw [← hW] at c14 c15a c15b c16a c16b bc hbw ⊢
  obtain ⟨⟨x0, x1, x2, x3, x4⟩, y0, y1, y2, y3, y4, y5, y6, y7⟩ := bc W (Below.refl _ _)
  have HBW : Hid (Below w.heap.size w W) := hbw
  obtain ⟨BC⟩ : Nonempty (Hid (∀ w', Below (w.heap.size + 2) W w' → _)) := ⟨bc⟩
  clear hW hbw bc
  go_region_with (first
    | (go_at_call 14; refine (c14 _ (by go_grown)).mono ?_; rintro ex w4 ⟨rfl, b4⟩; obtain ⟨⟨r0, r1, r2, r3, r4⟩, t0, t1, t2, t3, t4, t5, t6, t7⟩ := BC.out w4 b4)
    | (go_at_call_of 16 X; refine (c16b _ (by go_grown)).mono ?_; rintro ex w5 ⟨rfl, b5⟩; obtain ⟨⟨r0, r1, r2, r3, r4⟩, t0, t1, t2, t3, t4, t5, t6, t7⟩ := BC.out w5 b5)
    | (go_at_call 16; refine (c16a _ (by go_grown)).mono ?_; rintro ex w5 ⟨rfl, b5⟩; obtain ⟨⟨r0, r1, r2, r3, r4⟩, t0, t1, t2, t3, t4, t5, t6, t7⟩ := BC.out w5 b5)
    | (go_at_call_of 15 V; refine (c15a _ (by go_grown)).mono ?_; rintro ex w6 ⟨rfl, b6⟩; obtain ⟨⟨r0, r1, r2, r3, r4⟩, t0, t1, t2, t3, t4, t5, t6, t7⟩ := BC.out w6 b6)
    | (go_at_call 15; refine (c15b _ (by go_grown)).mono ?_; rintro ex w6 ⟨rfl, b6⟩; obtain ⟨⟨r0, r1, r2, r3, r4⟩, t0, t1, t2, t3, t4, t5, t6, t7⟩ := BC.out w6 b6))
  all_goals
    go_wp2
    go_ret
    refine ⟨rfl, HBW.out.trans (Below.mono ?_ (show w.heap.size ≤ w.heap.size + 2 by omega))⟩
    go_grown

end Go.Proofs.YtkmhpbjegkhabaaDoor
