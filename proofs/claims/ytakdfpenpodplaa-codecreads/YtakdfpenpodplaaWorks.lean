/-
  'works': a number and a flag there and back.
-/
import Derived.Test.YtakdfpenpodplaaSeal
import Derived.Deep.RegionWith
namespace Go.Proofs.Ytakdfpenpodplaa
open Go.RowKit
set_option linter.unusedVariables false

set_option maxHeartbeats 2000000 in
theorem works_any (w : World) : Calls Try.prog 10 #[] w fun ex w' => ex = .returned (.bool true) ∧ Below w.heap.size w w' := by
  have q1 : ∀ (w : World) (a : Addr), (binOp .eql 39 (.pointer (some a)) (.pointer none)).run Try.prog w = .ok (.bool false) w := fun w a => by first | rfl | simp
  have q2 : ∀ (w : World) (a : Addr), (binOp .eql 37 (.pointer (some a)) (.pointer none)).run Try.prog w = .ok (.bool false) w := fun w a => by first | rfl | simp
  have c23 := newWriter_any w
  have hws := ws_new w
  obtain ⟨p, hp⟩ : ∃ p, p = w.heap.size := ⟨_, rfl⟩
  rw [← hp] at hws c23
  obtain ⟨w1, hw1⟩ : ∃ w1, w1 = (w.alloc (.cells #[.slice none 0 0, .int .i64 0] 69)) := ⟨_, rfl⟩
  rw [← hw1] at hws c23
  have c49 : Calls Try.prog 49 #[.pointer (some ⟨p, 0, none⟩), .int .i64 258] w1 fun ex w' => ex = .returned (.tuple #[]) ∧ WS w p [1, 2] 0 w' := hws.did (fun F hw => u16_any F p [] 0 258 w1 hw (by simp) (by omega))
  clear hp hw1
  go_enter Try.func10, Try.ntmps10
  go_upto_region 5 with (first | (go_at_call 23; refine c23.mono ?_; rintro ex w1 ⟨rfl, rfl⟩) | (go_at_call 49; refine c49.mono ?_; rintro ex w2 ⟨rfl, hw2⟩))
  have c50 : Calls Try.prog 50 #[.pointer (some ⟨p, 0, none⟩), .bool true] w2 fun ex w' => ex = .returned (.tuple #[]) ∧ WS w p [1, 2, 1] 0 w' := hw2.did (fun F hw => bool_any F p [1, 2] 0 true w2 hw (by simp))
  go_upto_region 6 with (go_at_call 50; refine c50.mono ?_; rintro ex w3 ⟨rfl, hw3⟩)
  obtain ⟨F, hw, hF, hB⟩ := hw3
  have c34 := done_any F p [1, 2, 1] 0 w3 hw (by simp)
  rw [if_pos rfl] at c34
  clear c50 c49 c23
  go_upto_region 7 with (go_at_call 34; refine c34.mono ?_; rintro ex w4 ⟨a4, n4, k4, rfl, _, hk4, own4⟩)
  obtain ⟨g4, c4, hv4, hB4⟩ := Bs.of_owns own4 (by intro x hx; simp at hx; omega)
  obtain ⟨rfl, rfl, rfl⟩ : a4 = g4 ∧ n4 = 3 ∧ k4 = c4 := by injection hv4 with h1 h2 h3; exact ⟨h1, h2, h3⟩
  have c22 := newReader_any _ a4 3 k4 [1, 2, 1] w4 hB4 (by omega)
  have hB2 : Below w.heap.size w w4 := hB.trans (hk4.below hF hB.size)
  clear c34 hw hk4 hB hv4 own4 hw2 hws
  go_upto_region 8 with (go_at_call 22; refine c22.mono ?_; rintro ex w5 ⟨r, rfl, hr5, hb5⟩)
  have hB5 := hB4.below hb5
  have hlit := Bs.lit w5 [1, 2, 1] (by intro x hx; simp at hx; omega) (by simp)
  have c12 : Calls Try.prog 12 #[.slice a4 3 k4, .slice (some ⟨w5.heap.size, 0, none⟩) 3 3] (w5.alloc (.cells #[.int .u8 1, .int .u8 2, .int .u8 1] 5)) fun ex w' => ex = .returned (.bool true) ∧ ∃ k, w' = (w5.alloc (.cells #[.int .u8 1, .int .u8 2, .int .u8 1] 5)).drewN k := same_any _ _ a4 (some ⟨w5.heap.size, 0, none⟩) 3 3 k4 3 [1, 2, 1] [1, 2, 1] _ (hB5.below ((Below.refl _ _).alloc (Nat.le_refl _) _)) hlit
  clear c22 hB5 hlit hB4
  go_upto_region 10 with (go_at_call 12; refine c12.mono ?_; rintro ex w6 ⟨rfl, nd, rfl⟩)
  have hr6 := (hr5.kept ((Kept.refl No w5).alloc (.cells #[.int .u8 1, .int .u8 2, .int .u8 1] 5)) (fun _ _ h => h)).drewN nd
  have hb6 : Below w.heap.size w ((w5.alloc (.cells #[.int .u8 1, .int .u8 2, .int .u8 1] 5)).drewN nd) := below_drewN ((hB2.trans (hb5.mono hB2.size)).alloc (Nat.le_trans hB2.size hb5.size) _) nd
  have hF6 : ∀ k, (w4.heap.size ≤ k ∧ k < w5.heap.size) → w.heap.size ≤ k := fun k hk => Nat.le_trans hB2.size hk.1
  obtain ⟨W6, hW6⟩ : ∃ W6, W6 = (w5.alloc (.cells #[.int .u8 1, .int .u8 2, .int .u8 1] 5)).drewN nd := ⟨_, rfl⟩
  obtain ⟨Fr, hFr⟩ : ∃ Fr : Nat → Prop, Fr = (fun k => w4.heap.size ≤ k ∧ k < w5.heap.size) := ⟨_, rfl⟩
  rw [← hW6] at hr6 hb6 ⊢
  rw [← hFr] at hr6
  have hF7 : ∀ k, Fr k → w.heap.size ≤ k := fun k hk => hF6 k (by rw [hFr] at hk; exact hk)
  have c25 : Calls Try.prog 25 #[.pointer (some ⟨r, 0, none⟩)] W6 fun ex w' => ex = .returned (.int .i64 258) ∧ RdDid Fr r [1] 0 W6 w' := ru16_any Fr r [1, 2, 1] 0 W6 hr6
  clear c12 hr5 hb5 hW6 hFr hF6 hr6 hB2
  go_upto_region 11 with (go_at_call 25; refine c25.mono ?_; rintro ex w7 ⟨rfl, hd7⟩)
  have hb7 : Below w.heap.size w w7 := hb6.trans (hd7.below hF7 hb6.size)
  have c28 : Calls Try.prog 28 #[.pointer (some ⟨r, 0, none⟩)] w7 fun ex w' => ex = .returned (.bool true) ∧ RdDid Fr r [] 0 w7 w' := rbool_any Fr r [1] 0 w7 hd7.1
  clear c25 hd7 hb6
  go_upto_region 12 with (go_at_call 28; refine c28.mono ?_; rintro ex w8 ⟨rfl, hd8⟩)
  have hb8 : Below w.heap.size w w8 := hb7.trans (hd8.below hF7 hb7.size)
  have c38 : Calls Try.prog 38 #[.pointer (some ⟨r, 0, none⟩)] w8 fun ex w' => ex = .returned (.int .i64 0) ∧ w' = w8 := left_any Fr r [] 0 w8 hd8.1
  have c33 : Calls Try.prog 33 #[.pointer (some ⟨r, 0, none⟩)] w8 fun ex w' => ex = .returned (.int .i64 0) ∧ ∃ n, w' = w8.drewN n := rdone_any Fr r [] 0 w8 hd8.1
  clear c28 hd8 hb7
  go_wp2_with (first | (go_at_call 38; refine c38.mono ?_; rintro ex w9 ⟨rfl, hw⟩; obtain rfl := hw.symm) | (go_at_call 33; refine c33.mono ?_; rintro ex w9 ⟨rfl, n9, rfl⟩))
  go_ret
  exact ⟨rfl, below_drewN hb8 _⟩

end Go.Proofs.Ytakdfpenpodplaa
