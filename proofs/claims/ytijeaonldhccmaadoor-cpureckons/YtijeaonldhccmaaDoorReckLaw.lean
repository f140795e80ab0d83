/-
  'CpuReckons': the law's walk.
-/
import Derived.Test.YtijeaonldhccmaaDoorReckWalk
namespace Go.Proofs.YtijeaonldhccmaaDoor
open Go.RowKit
set_option linter.unusedVariables false

theorem bne_no {a b : Int} (h : a = b) : (a != b) = false := by rw [h]; simp
theorem beq_yes {a b : Int} (h : a = b) : (a == b) = true := by rw [h]; simp

set_option maxHeartbeats 4000000 in
set_option maxRecDepth 100000 in
theorem reck_core (b c d k P : Int) (W : World) (hk0 : 0 ≤ k) (hk1 : k ≤ 63)
    (K : ∀ (o x y : Int) (w : World), sok o = true → Below W.heap.size W w → Calls Tryd.prog 13 #[.int .u8 o, .int .i64 x, .int .i64 y] w fun ex w' => ex = .returned (.int .i64 (sv o x y)) ∧ Below W.heap.size W w')
    (cK : ∀ w, Below W.heap.size W w → Calls Tryd.prog 11 #[] w fun ex w' => ex = .returned (.bool true) ∧ Below W.heap.size W w')
    (cC : ∀ w, Calls Tryd.prog 15 #[.int .i64 d, .int .i64 64] w fun ex w' => (∃ q : Int, ex = .returned (.tuple #[.int .i64 q, .int .i64 k])) ∧ w' = w)
    (cP : ∀ w, Calls Tryd.prog 16 #[.int .i64 k] w fun ex w' => ex = .returned (.int .i64 P) ∧ w' = w)
    (f1 : (sv 8 (sv 7 b c) c != b) = false) (f2 : (sv 7 b c != sv 7 c b) = false) (f3 : (sv 9 (sv 7 b c) d != sv 7 (sv 9 b d) (sv 9 c d)) = false)
    (f4 : (sv 7 (sv 12 b c) (sv 13 b c) != sv 7 b c) = false) (f5 : (sv 14 b c != sv 8 (sv 13 b c) (sv 12 b c)) = false) (f6 : (sv 14 (sv 14 b c) c != b) = false)
    (f7 : (sv 15 b d != sv 9 b P) = false) (f8 : (sv 15 b d != sv 15 b k) = false) (f9 : (sv 17 b d != sv 17 b k) = false)
    (f10 : Hid (k < 63 → (sv 17 b k != sv 10 b P) = false)) (f11 : Hid (0 ≤ b → (sv 16 b d != sv 17 b d) = false)) (f12 : Hid (0 < k → 0 ≤ sv 16 b d))
    (f13 : Hid (b < c ∧ sv 19 b c = 1 ∧ sv 19 c b = 0 ∧ sv 21 b c = 0 ∨ b = c ∧ sv 19 b c = 0 ∧ sv 19 c b = 0 ∧ sv 21 b c = 1 ∨ c < b ∧ sv 19 b c = 0 ∧ sv 19 c b = 1 ∧ sv 21 b c = 0))
    (f14 : (sv 20 b c == sv 19 (sv 14 b (-9223372036854775808)) (sv 14 c (-9223372036854775808))) = true) :
    Calls Tryd.prog 6 #[.int .i64 b, .int .i64 c, .int .i64 d] W fun ex w' => ex = .returned (.bool true) ∧ Below W.heap.size W w' := by
  have B0 := Below.refl W.heap.size W
  go_enter Tryd.func6, Tryd.ntmps6
  go_upto_region 4 with (first
    | (go_at_call 13; refine (K _ _ _ _ (by decide) (by assumption)).mono ?_; rintro ex w1 ⟨rfl, hb1⟩)
    | (go_at_call 11; refine (cK _ (by assumption)).mono ?_; rintro ex w1 ⟨rfl, hb1⟩)
    | (go_at_call 15; refine (cC _).mono ?_; rintro ex w1 ⟨⟨qq, rfl⟩, hw⟩; obtain rfl := hw.symm)
    | (go_at_call 16; refine (cP _).mono ?_; rintro ex w1 ⟨rfl, hw⟩; obtain rfl := hw.symm))
  clear f1 f2 f3
  go_upto_region 8 with (first
    | (go_at_call 13; refine (K _ _ _ _ (by decide) (by assumption)).mono ?_; rintro ex w1 ⟨rfl, hb1⟩)
    | (go_at_call 11; refine (cK _ (by assumption)).mono ?_; rintro ex w1 ⟨rfl, hb1⟩)
    | (go_at_call 15; refine (cC _).mono ?_; rintro ex w1 ⟨⟨qq, rfl⟩, hw⟩; obtain rfl := hw.symm)
    | (go_at_call 16; refine (cP _).mono ?_; rintro ex w1 ⟨rfl, hw⟩; obtain rfl := hw.symm))
  clear f4 f5 f6
  go_upto_region 11 with (first
    | (go_at_call 13; refine (K _ _ _ _ (by decide) (by assumption)).mono ?_; rintro ex w1 ⟨rfl, hb1⟩)
    | (go_at_call 11; refine (cK _ (by assumption)).mono ?_; rintro ex w1 ⟨rfl, hb1⟩)
    | (go_at_call 15; refine (cC _).mono ?_; rintro ex w1 ⟨⟨qq, rfl⟩, hw⟩; obtain rfl := hw.symm)
    | (go_at_call 16; refine (cP _).mono ?_; rintro ex w1 ⟨rfl, hw⟩; obtain rfl := hw.symm))
  clear f7 f8 f9
  have leaf15 : True := trivial
  by_cases hk : k < 63
  · have g10 := f10.out hk
    go_upto_region 13 with (first
        | (go_at_call 13; refine (K _ _ _ _ (by decide) (by assumption)).mono ?_; rintro ex w1 ⟨rfl, hb1⟩)
        | (go_at_call 11; refine (cK _ (by assumption)).mono ?_; rintro ex w1 ⟨rfl, hb1⟩)
        | (go_at_call 15; refine (cC _).mono ?_; rintro ex w1 ⟨⟨qq, rfl⟩, hw⟩; obtain rfl := hw.symm)
        | (go_at_call 16; refine (cP _).mono ?_; rintro ex w1 ⟨rfl, hw⟩; obtain rfl := hw.symm))
    clear g10
    by_cases hb0 : 0 ≤ b
    · have g11 := f11.out hb0
      by_cases hk2 : 0 < k
      · have g12 := f12.out hk2
        go_upto_region 15 with (first
        | (go_at_call 13; refine (K _ _ _ _ (by decide) (by assumption)).mono ?_; rintro ex w1 ⟨rfl, hb1⟩)
        | (go_at_call 11; refine (cK _ (by assumption)).mono ?_; rintro ex w1 ⟨rfl, hb1⟩)
        | (go_at_call 15; refine (cC _).mono ?_; rintro ex w1 ⟨⟨qq, rfl⟩, hw⟩; obtain rfl := hw.symm)
        | (go_at_call 16; refine (cP _).mono ?_; rintro ex w1 ⟨rfl, hw⟩; obtain rfl := hw.symm))
        rcases f13.out with ⟨g0, g1, g2, g3⟩ | ⟨rfl, g1, g2, g3⟩ | ⟨g0, g1, g2, g3⟩
        · have g4 : (b == c) = false := by simp; omega
          go_wp2_with (first
        | (go_at_call 13; refine (K _ _ _ _ (by decide) (by assumption)).mono ?_; rintro ex w1 ⟨rfl, hb1⟩)
        | (go_at_call 11; refine (cK _ (by assumption)).mono ?_; rintro ex w1 ⟨rfl, hb1⟩)
        | (go_at_call 15; refine (cC _).mono ?_; rintro ex w1 ⟨⟨qq, rfl⟩, hw⟩; obtain rfl := hw.symm)
        | (go_at_call 16; refine (cP _).mono ?_; rintro ex w1 ⟨rfl, hw⟩; obtain rfl := hw.symm))
          go_ret
          exact ⟨rfl, by assumption⟩
        · go_wp2_with (first
        | (go_at_call 13; refine (K _ _ _ _ (by decide) (by assumption)).mono ?_; rintro ex w1 ⟨rfl, hb1⟩)
        | (go_at_call 11; refine (cK _ (by assumption)).mono ?_; rintro ex w1 ⟨rfl, hb1⟩)
        | (go_at_call 15; refine (cC _).mono ?_; rintro ex w1 ⟨⟨qq, rfl⟩, hw⟩; obtain rfl := hw.symm)
        | (go_at_call 16; refine (cP _).mono ?_; rintro ex w1 ⟨rfl, hw⟩; obtain rfl := hw.symm))
          go_ret
          exact ⟨rfl, by assumption⟩
        · have g4 : (b == c) = false := by simp; omega
          go_wp2_with (first
        | (go_at_call 13; refine (K _ _ _ _ (by decide) (by assumption)).mono ?_; rintro ex w1 ⟨rfl, hb1⟩)
        | (go_at_call 11; refine (cK _ (by assumption)).mono ?_; rintro ex w1 ⟨rfl, hb1⟩)
        | (go_at_call 15; refine (cC _).mono ?_; rintro ex w1 ⟨⟨qq, rfl⟩, hw⟩; obtain rfl := hw.symm)
        | (go_at_call 16; refine (cP _).mono ?_; rintro ex w1 ⟨rfl, hw⟩; obtain rfl := hw.symm))
          go_ret
          exact ⟨rfl, by assumption⟩
      · go_upto_region 15 with (first
        | (go_at_call 13; refine (K _ _ _ _ (by decide) (by assumption)).mono ?_; rintro ex w1 ⟨rfl, hb1⟩)
        | (go_at_call 11; refine (cK _ (by assumption)).mono ?_; rintro ex w1 ⟨rfl, hb1⟩)
        | (go_at_call 15; refine (cC _).mono ?_; rintro ex w1 ⟨⟨qq, rfl⟩, hw⟩; obtain rfl := hw.symm)
        | (go_at_call 16; refine (cP _).mono ?_; rintro ex w1 ⟨rfl, hw⟩; obtain rfl := hw.symm))
        rcases f13.out with ⟨g0, g1, g2, g3⟩ | ⟨rfl, g1, g2, g3⟩ | ⟨g0, g1, g2, g3⟩
        · have g4 : (b == c) = false := by simp; omega
          go_wp2_with (first
        | (go_at_call 13; refine (K _ _ _ _ (by decide) (by assumption)).mono ?_; rintro ex w1 ⟨rfl, hb1⟩)
        | (go_at_call 11; refine (cK _ (by assumption)).mono ?_; rintro ex w1 ⟨rfl, hb1⟩)
        | (go_at_call 15; refine (cC _).mono ?_; rintro ex w1 ⟨⟨qq, rfl⟩, hw⟩; obtain rfl := hw.symm)
        | (go_at_call 16; refine (cP _).mono ?_; rintro ex w1 ⟨rfl, hw⟩; obtain rfl := hw.symm))
          go_ret
          exact ⟨rfl, by assumption⟩
        · go_wp2_with (first
        | (go_at_call 13; refine (K _ _ _ _ (by decide) (by assumption)).mono ?_; rintro ex w1 ⟨rfl, hb1⟩)
        | (go_at_call 11; refine (cK _ (by assumption)).mono ?_; rintro ex w1 ⟨rfl, hb1⟩)
        | (go_at_call 15; refine (cC _).mono ?_; rintro ex w1 ⟨⟨qq, rfl⟩, hw⟩; obtain rfl := hw.symm)
        | (go_at_call 16; refine (cP _).mono ?_; rintro ex w1 ⟨rfl, hw⟩; obtain rfl := hw.symm))
          go_ret
          exact ⟨rfl, by assumption⟩
        · have g4 : (b == c) = false := by simp; omega
          go_wp2_with (first
        | (go_at_call 13; refine (K _ _ _ _ (by decide) (by assumption)).mono ?_; rintro ex w1 ⟨rfl, hb1⟩)
        | (go_at_call 11; refine (cK _ (by assumption)).mono ?_; rintro ex w1 ⟨rfl, hb1⟩)
        | (go_at_call 15; refine (cC _).mono ?_; rintro ex w1 ⟨⟨qq, rfl⟩, hw⟩; obtain rfl := hw.symm)
        | (go_at_call 16; refine (cP _).mono ?_; rintro ex w1 ⟨rfl, hw⟩; obtain rfl := hw.symm))
          go_ret
          exact ⟨rfl, by assumption⟩
    · by_cases hk2 : 0 < k
      · have g12 := f12.out hk2
        go_upto_region 15 with (first
        | (go_at_call 13; refine (K _ _ _ _ (by decide) (by assumption)).mono ?_; rintro ex w1 ⟨rfl, hb1⟩)
        | (go_at_call 11; refine (cK _ (by assumption)).mono ?_; rintro ex w1 ⟨rfl, hb1⟩)
        | (go_at_call 15; refine (cC _).mono ?_; rintro ex w1 ⟨⟨qq, rfl⟩, hw⟩; obtain rfl := hw.symm)
        | (go_at_call 16; refine (cP _).mono ?_; rintro ex w1 ⟨rfl, hw⟩; obtain rfl := hw.symm))
        rcases f13.out with ⟨g0, g1, g2, g3⟩ | ⟨rfl, g1, g2, g3⟩ | ⟨g0, g1, g2, g3⟩
        · have g4 : (b == c) = false := by simp; omega
          go_wp2_with (first
        | (go_at_call 13; refine (K _ _ _ _ (by decide) (by assumption)).mono ?_; rintro ex w1 ⟨rfl, hb1⟩)
        | (go_at_call 11; refine (cK _ (by assumption)).mono ?_; rintro ex w1 ⟨rfl, hb1⟩)
        | (go_at_call 15; refine (cC _).mono ?_; rintro ex w1 ⟨⟨qq, rfl⟩, hw⟩; obtain rfl := hw.symm)
        | (go_at_call 16; refine (cP _).mono ?_; rintro ex w1 ⟨rfl, hw⟩; obtain rfl := hw.symm))
          go_ret
          exact ⟨rfl, by assumption⟩
        · go_wp2_with (first
        | (go_at_call 13; refine (K _ _ _ _ (by decide) (by assumption)).mono ?_; rintro ex w1 ⟨rfl, hb1⟩)
        | (go_at_call 11; refine (cK _ (by assumption)).mono ?_; rintro ex w1 ⟨rfl, hb1⟩)
        | (go_at_call 15; refine (cC _).mono ?_; rintro ex w1 ⟨⟨qq, rfl⟩, hw⟩; obtain rfl := hw.symm)
        | (go_at_call 16; refine (cP _).mono ?_; rintro ex w1 ⟨rfl, hw⟩; obtain rfl := hw.symm))
          go_ret
          exact ⟨rfl, by assumption⟩
        · have g4 : (b == c) = false := by simp; omega
          go_wp2_with (first
        | (go_at_call 13; refine (K _ _ _ _ (by decide) (by assumption)).mono ?_; rintro ex w1 ⟨rfl, hb1⟩)
        | (go_at_call 11; refine (cK _ (by assumption)).mono ?_; rintro ex w1 ⟨rfl, hb1⟩)
        | (go_at_call 15; refine (cC _).mono ?_; rintro ex w1 ⟨⟨qq, rfl⟩, hw⟩; obtain rfl := hw.symm)
        | (go_at_call 16; refine (cP _).mono ?_; rintro ex w1 ⟨rfl, hw⟩; obtain rfl := hw.symm))
          go_ret
          exact ⟨rfl, by assumption⟩
      · go_upto_region 15 with (first
        | (go_at_call 13; refine (K _ _ _ _ (by decide) (by assumption)).mono ?_; rintro ex w1 ⟨rfl, hb1⟩)
        | (go_at_call 11; refine (cK _ (by assumption)).mono ?_; rintro ex w1 ⟨rfl, hb1⟩)
        | (go_at_call 15; refine (cC _).mono ?_; rintro ex w1 ⟨⟨qq, rfl⟩, hw⟩; obtain rfl := hw.symm)
        | (go_at_call 16; refine (cP _).mono ?_; rintro ex w1 ⟨rfl, hw⟩; obtain rfl := hw.symm))
        rcases f13.out with ⟨g0, g1, g2, g3⟩ | ⟨rfl, g1, g2, g3⟩ | ⟨g0, g1, g2, g3⟩
        · have g4 : (b == c) = false := by simp; omega
          go_wp2_with (first
        | (go_at_call 13; refine (K _ _ _ _ (by decide) (by assumption)).mono ?_; rintro ex w1 ⟨rfl, hb1⟩)
        | (go_at_call 11; refine (cK _ (by assumption)).mono ?_; rintro ex w1 ⟨rfl, hb1⟩)
        | (go_at_call 15; refine (cC _).mono ?_; rintro ex w1 ⟨⟨qq, rfl⟩, hw⟩; obtain rfl := hw.symm)
        | (go_at_call 16; refine (cP _).mono ?_; rintro ex w1 ⟨rfl, hw⟩; obtain rfl := hw.symm))
          go_ret
          exact ⟨rfl, by assumption⟩
        · go_wp2_with (first
        | (go_at_call 13; refine (K _ _ _ _ (by decide) (by assumption)).mono ?_; rintro ex w1 ⟨rfl, hb1⟩)
        | (go_at_call 11; refine (cK _ (by assumption)).mono ?_; rintro ex w1 ⟨rfl, hb1⟩)
        | (go_at_call 15; refine (cC _).mono ?_; rintro ex w1 ⟨⟨qq, rfl⟩, hw⟩; obtain rfl := hw.symm)
        | (go_at_call 16; refine (cP _).mono ?_; rintro ex w1 ⟨rfl, hw⟩; obtain rfl := hw.symm))
          go_ret
          exact ⟨rfl, by assumption⟩
        · have g4 : (b == c) = false := by simp; omega
          go_wp2_with (first
        | (go_at_call 13; refine (K _ _ _ _ (by decide) (by assumption)).mono ?_; rintro ex w1 ⟨rfl, hb1⟩)
        | (go_at_call 11; refine (cK _ (by assumption)).mono ?_; rintro ex w1 ⟨rfl, hb1⟩)
        | (go_at_call 15; refine (cC _).mono ?_; rintro ex w1 ⟨⟨qq, rfl⟩, hw⟩; obtain rfl := hw.symm)
        | (go_at_call 16; refine (cP _).mono ?_; rintro ex w1 ⟨rfl, hw⟩; obtain rfl := hw.symm))
          go_ret
          exact ⟨rfl, by assumption⟩
  · have hk2 : 0 < k := by omega
    have g12 := f12.out hk2
    go_upto_region 13 with (first
        | (go_at_call 13; refine (K _ _ _ _ (by decide) (by assumption)).mono ?_; rintro ex w1 ⟨rfl, hb1⟩)
        | (go_at_call 11; refine (cK _ (by assumption)).mono ?_; rintro ex w1 ⟨rfl, hb1⟩)
        | (go_at_call 15; refine (cC _).mono ?_; rintro ex w1 ⟨⟨qq, rfl⟩, hw⟩; obtain rfl := hw.symm)
        | (go_at_call 16; refine (cP _).mono ?_; rintro ex w1 ⟨rfl, hw⟩; obtain rfl := hw.symm))
    by_cases hb0 : 0 ≤ b
    · have g11 := f11.out hb0
      go_upto_region 15 with (first
        | (go_at_call 13; refine (K _ _ _ _ (by decide) (by assumption)).mono ?_; rintro ex w1 ⟨rfl, hb1⟩)
        | (go_at_call 11; refine (cK _ (by assumption)).mono ?_; rintro ex w1 ⟨rfl, hb1⟩)
        | (go_at_call 15; refine (cC _).mono ?_; rintro ex w1 ⟨⟨qq, rfl⟩, hw⟩; obtain rfl := hw.symm)
        | (go_at_call 16; refine (cP _).mono ?_; rintro ex w1 ⟨rfl, hw⟩; obtain rfl := hw.symm))
      rcases f13.out with ⟨g0, g1, g2, g3⟩ | ⟨rfl, g1, g2, g3⟩ | ⟨g0, g1, g2, g3⟩
      · have g4 : (b == c) = false := by simp; omega
        go_wp2_with (first
        | (go_at_call 13; refine (K _ _ _ _ (by decide) (by assumption)).mono ?_; rintro ex w1 ⟨rfl, hb1⟩)
        | (go_at_call 11; refine (cK _ (by assumption)).mono ?_; rintro ex w1 ⟨rfl, hb1⟩)
        | (go_at_call 15; refine (cC _).mono ?_; rintro ex w1 ⟨⟨qq, rfl⟩, hw⟩; obtain rfl := hw.symm)
        | (go_at_call 16; refine (cP _).mono ?_; rintro ex w1 ⟨rfl, hw⟩; obtain rfl := hw.symm))
        go_ret
        exact ⟨rfl, by assumption⟩
      · go_wp2_with (first
        | (go_at_call 13; refine (K _ _ _ _ (by decide) (by assumption)).mono ?_; rintro ex w1 ⟨rfl, hb1⟩)
        | (go_at_call 11; refine (cK _ (by assumption)).mono ?_; rintro ex w1 ⟨rfl, hb1⟩)
        | (go_at_call 15; refine (cC _).mono ?_; rintro ex w1 ⟨⟨qq, rfl⟩, hw⟩; obtain rfl := hw.symm)
        | (go_at_call 16; refine (cP _).mono ?_; rintro ex w1 ⟨rfl, hw⟩; obtain rfl := hw.symm))
        go_ret
        exact ⟨rfl, by assumption⟩
      · have g4 : (b == c) = false := by simp; omega
        go_wp2_with (first
        | (go_at_call 13; refine (K _ _ _ _ (by decide) (by assumption)).mono ?_; rintro ex w1 ⟨rfl, hb1⟩)
        | (go_at_call 11; refine (cK _ (by assumption)).mono ?_; rintro ex w1 ⟨rfl, hb1⟩)
        | (go_at_call 15; refine (cC _).mono ?_; rintro ex w1 ⟨⟨qq, rfl⟩, hw⟩; obtain rfl := hw.symm)
        | (go_at_call 16; refine (cP _).mono ?_; rintro ex w1 ⟨rfl, hw⟩; obtain rfl := hw.symm))
        go_ret
        exact ⟨rfl, by assumption⟩
    · go_upto_region 15 with (first
        | (go_at_call 13; refine (K _ _ _ _ (by decide) (by assumption)).mono ?_; rintro ex w1 ⟨rfl, hb1⟩)
        | (go_at_call 11; refine (cK _ (by assumption)).mono ?_; rintro ex w1 ⟨rfl, hb1⟩)
        | (go_at_call 15; refine (cC _).mono ?_; rintro ex w1 ⟨⟨qq, rfl⟩, hw⟩; obtain rfl := hw.symm)
        | (go_at_call 16; refine (cP _).mono ?_; rintro ex w1 ⟨rfl, hw⟩; obtain rfl := hw.symm))
      rcases f13.out with ⟨g0, g1, g2, g3⟩ | ⟨rfl, g1, g2, g3⟩ | ⟨g0, g1, g2, g3⟩
      · have g4 : (b == c) = false := by simp; omega
        go_wp2_with (first
        | (go_at_call 13; refine (K _ _ _ _ (by decide) (by assumption)).mono ?_; rintro ex w1 ⟨rfl, hb1⟩)
        | (go_at_call 11; refine (cK _ (by assumption)).mono ?_; rintro ex w1 ⟨rfl, hb1⟩)
        | (go_at_call 15; refine (cC _).mono ?_; rintro ex w1 ⟨⟨qq, rfl⟩, hw⟩; obtain rfl := hw.symm)
        | (go_at_call 16; refine (cP _).mono ?_; rintro ex w1 ⟨rfl, hw⟩; obtain rfl := hw.symm))
        go_ret
        exact ⟨rfl, by assumption⟩
      · go_wp2_with (first
        | (go_at_call 13; refine (K _ _ _ _ (by decide) (by assumption)).mono ?_; rintro ex w1 ⟨rfl, hb1⟩)
        | (go_at_call 11; refine (cK _ (by assumption)).mono ?_; rintro ex w1 ⟨rfl, hb1⟩)
        | (go_at_call 15; refine (cC _).mono ?_; rintro ex w1 ⟨⟨qq, rfl⟩, hw⟩; obtain rfl := hw.symm)
        | (go_at_call 16; refine (cP _).mono ?_; rintro ex w1 ⟨rfl, hw⟩; obtain rfl := hw.symm))
        go_ret
        exact ⟨rfl, by assumption⟩
      · have g4 : (b == c) = false := by simp; omega
        go_wp2_with (first
        | (go_at_call 13; refine (K _ _ _ _ (by decide) (by assumption)).mono ?_; rintro ex w1 ⟨rfl, hb1⟩)
        | (go_at_call 11; refine (cK _ (by assumption)).mono ?_; rintro ex w1 ⟨rfl, hb1⟩)
        | (go_at_call 15; refine (cC _).mono ?_; rintro ex w1 ⟨⟨qq, rfl⟩, hw⟩; obtain rfl := hw.symm)
        | (go_at_call 16; refine (cP _).mono ?_; rintro ex w1 ⟨rfl, hw⟩; obtain rfl := hw.symm))
        go_ret
        exact ⟨rfl, by assumption⟩

theorem reck_walk (b c d : Int) (hb : I6 b) (hc : I6 c) (hd : I6 d) (W : World) (hO : Ops W) :
    Calls Tryd.prog 6 #[.int .i64 b, .int .i64 c, .int .i64 d] W fun ex w' => ex = .returned (.bool true) ∧ Below W.heap.size W w' := by
  obtain ⟨k, hk⟩ : ∃ k : Nat, d % 64 = k := ⟨(d % 64).toNat, by omega⟩
  have hk64 : k < 64 := by omega
  have hkt : (d % 64).toNat = k := by omega
  refine reck_core b c d k (pw k) W (by omega) (by omega) (fun o x y w ho hb => sure_sv W w hO o x y ho hb) (fun w hb => (known_yes w (hO.below hb hO.pos)).mono (by rintro ex w' ⟨rfl, b2⟩; exact ⟨rfl, hb.trans (b2.mono hb.size)⟩)) (fun w => by have := cut_any d hd w; rw [hk] at this; exact this) (fun w => power_any k hk64 w)
    (bne_no ?_) (bne_no ?_) (bne_no ?_) (bne_no ?_) (bne_no ?_) (bne_no ?_) (bne_no ?_) (bne_no ?_) (bne_no ?_) ?_ ?_ ?_ ?_ (beq_yes ?_)
  · rw [sv8, sv7]; exact sum_back c hb
  · rw [sv7, sv7, Int.add_comm]
  · rw [sv9, sv7, sv7, sv9, sv9]; exact mul_over b c d
  · rw [sv7, sv12, sv13, sv7]; exact and_or_sum b c
  · rw [sv14, sv8, sv13, sv12]; exact xor_or_and b c
  · rw [sv14, sv14]; exact xor_back hb c
  · rw [sv15, sv9, shl_pw, hkt]
  · rw [sv15, sv15, ← hk, shl_mod]
  · rw [sv17, sv17, ← hk, sar_mod]
  · intro h
    refine bne_no ?_
    have hp : pw k ≠ 0 := by rw [pw_small (by omega)]; have := pow_pos' k; omega
    rw [sv17, sv10, if_neg hp, ← hk, sar_mod, sar_qt hb (by omega), hkt]
  · intro h
    refine bne_no ?_
    rw [sv16, sv17]; exact shr_sar hb h
  · intro h
    show 0 ≤ _
    rw [sv16]; exact shr_pos (by omega)
  · show _ ∨ _
    rw [sv19, sv19, sv21]
    rcases Int.lt_trichotomy b c with h | h | h
    · refine .inl ⟨h, ?_, ?_, ?_⟩
      · rw [decide_eq_true h]; rfl
      · rw [decide_eq_false (by omega)]; rfl
      · rw [show (b == c) = false by simp; omega]; rfl
    · refine .inr (.inl ⟨h, ?_, ?_, ?_⟩)
      · rw [decide_eq_false (by omega)]; rfl
      · rw [decide_eq_false (by omega)]; rfl
      · rw [show (b == c) = true by simp; omega]; rfl
    · refine .inr (.inr ⟨h, ?_, ?_, ?_⟩)
      · rw [decide_eq_false (by omega)]; rfl
      · rw [decide_eq_true h]; rfl
      · rw [show (b == c) = false by simp; omega]; rfl
  · rw [sv20, sv19, sv14, sv14]; exact sltu_slt hb hc

end Go.Proofs.YtijeaonldhccmaaDoor
