/-
  The law IsaShows.
-/
import Derived.Test.YtkmhpbjegkhabaaDoorRefAny
import Derived.Deep.RegionHeld
namespace Go.Proofs.YtkmhpbjegkhabaaDoor
open Go.RowKit
set_option linter.unusedVariables false

set_option maxHeartbeats 8000000 in
set_option maxRecDepth 100000 in
theorem isaShows_walk (o a b c n : Int) (ho : 0 ≤ o ∧ o < 256) (ha : 0 ≤ a ∧ a < 256) (hb : 0 ≤ b ∧ b < 256) (hc : 0 ≤ c ∧ c < 256) (hn : -2147483648 ≤ n ∧ n ≤ 2147483647) (w : World) (hO : Ops w) (hT : Pow w) :
    Calls Tryd.prog 7 #[insV o a b c n] w fun ex w' => ex = .returned (.bool true) ∧ Below w.heap.size w w' := by
  have hbx : Below w.heap.size w (box w o a b c n) := (Below.refl _ w).alloc (Nat.le_refl _) _
  have up : ∀ w0, Below (w.heap.size + 1) (box w o a b c n) w0 → Below w.heap.size w w0 := fun w0 h => hbx.trans (h.mono (Nat.le_succ _))
  have hB : w.heap.size + 1 ≤ (box w o a b c n).heap.size := by simp
  have c21 := fun w0 (h : Below (w.heap.size + 1) (box w o a b c n) w0) => via (show_any o a b c n ho ha hb hc hn w0 (hO.below (up w0 h) hO.pos) (hT.below (up w0 h))) h hB
  have c22 := fun w0 (h : Below (w.heap.size + 1) (box w o a b c n) w0) => via (refShow_any o a b c n ho ha hb hc hn w0) h hB
  have c19 := fun w0 (h : Below (w.heap.size + 1) (box w o a b c n) w0) => via (jumps_any o a b c n ho ha hb hc hn w0 (hO.below (up w0 h) hO.pos)) h hB
  have c23 := fun w0 (h : Below (w.heap.size + 1) (box w o a b c n) w0) => via (refJumps_any o a b c n ho ha hb hc hn w0) h hB
  have c20 := fun w0 (h : Below (w.heap.size + 1) (box w o a b c n) w0) => via (legal_any o a b c n ho ha hb hc w0 (hO.below (up w0 h) hO.pos)) h hB
  have c24 := fun w0 (h : Below (w.heap.size + 1) (box w o a b c n) w0) => via (refLegal_any o a b c n ho ha hb hc w0) h hB
  have HCELL : Hid (∀ w0, Below (w.heap.size + 1) (box w o a b c n) w0 → w0.heap[w.heap.size]? = some (.cells #[.int .u8 o, .int .u8 a, .int .u8 b, .int .u8 c, .int .i32 n] 26)) := (fun w0 h => (h.block w.heap.size (by omega)).trans (heap_alloc_new w _))
  have HBX : Hid (Below w.heap.size w (box w o a b c n)) := hbx
  have b0 : Below (w.heap.size + 1) (box w o a b c n) (box w o a b c n) := Below.refl _ _
  obtain ⟨T, hT2⟩ : ∃ T, T = shw o a b c n := ⟨_, rfl⟩
  obtain ⟨LG, hLG⟩ : ∃ L, L = lg o a b c n := ⟨_, rfl⟩
  obtain ⟨JN, hJN⟩ : ∃ L, L = jmN o a b c n := ⟨_, rfl⟩
  obtain ⟨JB, hJB⟩ : ∃ L, L = jmB o a b c n := ⟨_, rfl⟩
  rw [← hT2, ← hLG] at c21 c22
  rw [← hJN, ← hJB] at c19 c23
  rw [← hLG] at c20 c24
  unfold insV at *
  clear hO hT ho ha hb hc hn hbx up hB hT2 hLG hJN hJB
  go_enter Tryd.func7, Tryd.ntmps7
  go_upto_region 5 with (first
    | (go_at_call 21; refine (c21 _ (by assumption)).mono ?_; rintro ex w1 ⟨rfl, b1⟩; obtain ⟨p0, p1, p2, p3, p4⟩ := cells5 (HCELL.out w1 b1))
    | (go_at_call 22; refine (c22 _ (by assumption)).mono ?_; rintro ex w2 ⟨rfl, b2⟩; obtain ⟨q0, q1, q2, q3, q4⟩ := cells5 (HCELL.out w2 b2))
    | (go_at_call 19; refine (c19 _ (by assumption)).mono ?_; rintro ex w3 ⟨rfl, b3⟩; obtain ⟨r0, r1, r2, r3, r4⟩ := cells5 (HCELL.out w3 b3))
    | (go_at_call 23; refine (c23 _ (by assumption)).mono ?_; rintro ex w4 ⟨rfl, b4⟩; obtain ⟨s0, s1, s2, s3, s4⟩ := cells5 (HCELL.out w4 b4)))
  clear c21 c22 c19 c23 b0 b1 b2 b3 p0 p1 p2 p3 p4 q0 q1 q2 q3 q4 r0 r1 r2 r3 r4
  go_region_held (fun w' => w'.cell? ⟨w.heap.size, 0, none⟩ = some (.int .u8 o) ∧ w'.cell? ⟨w.heap.size, 1, none⟩ = some (.int .u8 a) ∧ w'.cell? ⟨w.heap.size, 2, none⟩ = some (.int .u8 b) ∧ w'.cell? ⟨w.heap.size, 3, none⟩ = some (.int .u8 c) ∧ w'.cell? ⟨w.heap.size, 4, none⟩ = some (.int .i32 n)) (go_keep) (first
    | (go_at_call 20; refine (c20 _ (by go_grown)).mono ?_; rintro ex w5 ⟨rfl, b5⟩; obtain ⟨t0, t1, t2, t3, t4⟩ := cells5 (HCELL.out w5 b5))
    | (go_at_call 24; refine (c24 _ (by go_grown)).mono ?_; rintro ex w6 ⟨rfl, b6⟩; obtain ⟨u0, u1, u2, u3, u4⟩ := cells5 (HCELL.out w6 b6)))
  all_goals
    go_wp2
    go_ret
    refine ⟨rfl, HBX.out.trans (Below.mono ?_ (show w.heap.size ≤ w.heap.size + 1 by omega))⟩
    go_grown

end Go.Proofs.YtkmhpbjegkhabaaDoor
