/-
  'sure', 'known'.
-/
import Derived.Test.YtijeaonldhccmaaDoorDoes
import Derived.Deep.RegionWith
namespace Go.Proofs.YtijeaonldhccmaaDoor
open Go.RowKit
set_option linter.unusedVariables false

theorem stepE_one {o : Nat} (R : Nat → Int) (ms : List Int) (fx : Int) (hl : lg o 3 1 2 0 = true) : stepE [⟨o, 3, 1, 2, 0⟩] ms fx R 0 = doE 1 ⟨o, 3, 1, 2, 0⟩ ms fx R 0 := by
  unfold stepE
  rw [if_pos (by simp)]
  unfold opE
  rw [show (Ins.lg (List.getD [⟨o, 3, 1, 2, 0⟩] (0 : Int).toNat ins0)) = lg o 3 1 2 0 from rfl, hl, if_pos rfl]
  rfl
def spc (o : Nat) : Bool := [1, 5, 6, 10, 11, 22, 23, 24, 25, 26, 27].contains o
theorem doE_word {o : Nat} (h : spc o = false) (n a b c : Nat) (N : Int) (ms : List Int) (fx : Int) (R : Nat → Int) (pc : Int) :
    doE n ⟨o, a, b, c, N⟩ ms fx R pc = ⟨upd R a (wd o (R a) (R b) (R c) N), pc + 1, false, 0, 0, 0, 0⟩ := by
  have h' : o ≠ 1 ∧ o ≠ 5 ∧ o ≠ 6 ∧ o ≠ 10 ∧ o ≠ 11 ∧ o ≠ 22 ∧ o ≠ 23 ∧ o ≠ 24 ∧ o ≠ 25 ∧ o ≠ 26 ∧ o ≠ 27 := by simpa [spc] using h
  obtain ⟨h1, h5, h6, h10, h11, h22, h23, h24, h25, h26, h27⟩ := h'
  unfold doE
  dsimp only
  rw [if_neg h1, if_neg h5, if_neg h6, if_neg h10, if_neg h11, if_neg h22, if_neg h23, if_neg h24, if_neg h25, if_neg h26, if_neg h27]
theorem wdE7 (a b c n : Int) : wd 7 a b c n = wrap64 (b + c) := by unfold wd; rw [if_neg (show ¬ (7 : Nat) = 2 by decide), if_neg (show ¬ (7 : Nat) = 3 by decide), if_neg (show ¬ (7 : Nat) = 4 by decide), if_pos (show (7 : Nat) = 7 from rfl)]
theorem wdE8 (a b c n : Int) : wd 8 a b c n = wrap64 (b - c) := by unfold wd; rw [if_neg (show ¬ (8 : Nat) = 2 by decide), if_neg (show ¬ (8 : Nat) = 3 by decide), if_neg (show ¬ (8 : Nat) = 4 by decide), if_neg (show ¬ (8 : Nat) = 7 by decide), if_pos (show (8 : Nat) = 8 from rfl)]
theorem wdE9 (a b c n : Int) : wd 9 a b c n = wrap64 (b * c) := by unfold wd; rw [if_neg (show ¬ (9 : Nat) = 2 by decide), if_neg (show ¬ (9 : Nat) = 3 by decide), if_neg (show ¬ (9 : Nat) = 4 by decide), if_neg (show ¬ (9 : Nat) = 7 by decide), if_neg (show ¬ (9 : Nat) = 8 by decide), if_pos (show (9 : Nat) = 9 from rfl)]
theorem wdE12 (a b c n : Int) : wd 12 a b c n = bits .and .i64 b c := by unfold wd; rw [if_neg (show ¬ (12 : Nat) = 2 by decide), if_neg (show ¬ (12 : Nat) = 3 by decide), if_neg (show ¬ (12 : Nat) = 4 by decide), if_neg (show ¬ (12 : Nat) = 7 by decide), if_neg (show ¬ (12 : Nat) = 8 by decide), if_neg (show ¬ (12 : Nat) = 9 by decide), if_pos (show (12 : Nat) = 12 from rfl)]
theorem wdE13 (a b c n : Int) : wd 13 a b c n = bits .or .i64 b c := by unfold wd; rw [if_neg (show ¬ (13 : Nat) = 2 by decide), if_neg (show ¬ (13 : Nat) = 3 by decide), if_neg (show ¬ (13 : Nat) = 4 by decide), if_neg (show ¬ (13 : Nat) = 7 by decide), if_neg (show ¬ (13 : Nat) = 8 by decide), if_neg (show ¬ (13 : Nat) = 9 by decide), if_neg (show ¬ (13 : Nat) = 12 by decide), if_pos (show (13 : Nat) = 13 from rfl)]
theorem wdE14 (a b c n : Int) : wd 14 a b c n = bits .xor .i64 b c := by unfold wd; rw [if_neg (show ¬ (14 : Nat) = 2 by decide), if_neg (show ¬ (14 : Nat) = 3 by decide), if_neg (show ¬ (14 : Nat) = 4 by decide), if_neg (show ¬ (14 : Nat) = 7 by decide), if_neg (show ¬ (14 : Nat) = 8 by decide), if_neg (show ¬ (14 : Nat) = 9 by decide), if_neg (show ¬ (14 : Nat) = 12 by decide), if_neg (show ¬ (14 : Nat) = 13 by decide), if_pos (show (14 : Nat) = 14 from rfl)]
theorem wdE15 (a b c n : Int) : wd 15 a b c n = shl b c := by unfold wd; rw [if_neg (show ¬ (15 : Nat) = 2 by decide), if_neg (show ¬ (15 : Nat) = 3 by decide), if_neg (show ¬ (15 : Nat) = 4 by decide), if_neg (show ¬ (15 : Nat) = 7 by decide), if_neg (show ¬ (15 : Nat) = 8 by decide), if_neg (show ¬ (15 : Nat) = 9 by decide), if_neg (show ¬ (15 : Nat) = 12 by decide), if_neg (show ¬ (15 : Nat) = 13 by decide), if_neg (show ¬ (15 : Nat) = 14 by decide), if_pos (show (15 : Nat) = 15 from rfl)]
theorem wdE16 (a b c n : Int) : wd 16 a b c n = shr b c := by unfold wd; rw [if_neg (show ¬ (16 : Nat) = 2 by decide), if_neg (show ¬ (16 : Nat) = 3 by decide), if_neg (show ¬ (16 : Nat) = 4 by decide), if_neg (show ¬ (16 : Nat) = 7 by decide), if_neg (show ¬ (16 : Nat) = 8 by decide), if_neg (show ¬ (16 : Nat) = 9 by decide), if_neg (show ¬ (16 : Nat) = 12 by decide), if_neg (show ¬ (16 : Nat) = 13 by decide), if_neg (show ¬ (16 : Nat) = 14 by decide), if_neg (show ¬ (16 : Nat) = 15 by decide), if_pos (show (16 : Nat) = 16 from rfl)]
theorem wdE17 (a b c n : Int) : wd 17 a b c n = sar b c := by unfold wd; rw [if_neg (show ¬ (17 : Nat) = 2 by decide), if_neg (show ¬ (17 : Nat) = 3 by decide), if_neg (show ¬ (17 : Nat) = 4 by decide), if_neg (show ¬ (17 : Nat) = 7 by decide), if_neg (show ¬ (17 : Nat) = 8 by decide), if_neg (show ¬ (17 : Nat) = 9 by decide), if_neg (show ¬ (17 : Nat) = 12 by decide), if_neg (show ¬ (17 : Nat) = 13 by decide), if_neg (show ¬ (17 : Nat) = 14 by decide), if_neg (show ¬ (17 : Nat) = 15 by decide), if_neg (show ¬ (17 : Nat) = 16 by decide), if_pos (show (17 : Nat) = 17 from rfl)]
theorem wdE19 (a b c n : Int) : wd 19 a b c n = fl (decide (b < c)) := by unfold wd; rw [if_neg (show ¬ (19 : Nat) = 2 by decide), if_neg (show ¬ (19 : Nat) = 3 by decide), if_neg (show ¬ (19 : Nat) = 4 by decide), if_neg (show ¬ (19 : Nat) = 7 by decide), if_neg (show ¬ (19 : Nat) = 8 by decide), if_neg (show ¬ (19 : Nat) = 9 by decide), if_neg (show ¬ (19 : Nat) = 12 by decide), if_neg (show ¬ (19 : Nat) = 13 by decide), if_neg (show ¬ (19 : Nat) = 14 by decide), if_neg (show ¬ (19 : Nat) = 15 by decide), if_neg (show ¬ (19 : Nat) = 16 by decide), if_neg (show ¬ (19 : Nat) = 17 by decide), if_neg (show ¬ (19 : Nat) = 18 by decide), if_pos (show (19 : Nat) = 19 from rfl)]
theorem wdE20 (a b c n : Int) : wd 20 a b c n = fl (decide (un b < un c)) := by unfold wd; rw [if_neg (show ¬ (20 : Nat) = 2 by decide), if_neg (show ¬ (20 : Nat) = 3 by decide), if_neg (show ¬ (20 : Nat) = 4 by decide), if_neg (show ¬ (20 : Nat) = 7 by decide), if_neg (show ¬ (20 : Nat) = 8 by decide), if_neg (show ¬ (20 : Nat) = 9 by decide), if_neg (show ¬ (20 : Nat) = 12 by decide), if_neg (show ¬ (20 : Nat) = 13 by decide), if_neg (show ¬ (20 : Nat) = 14 by decide), if_neg (show ¬ (20 : Nat) = 15 by decide), if_neg (show ¬ (20 : Nat) = 16 by decide), if_neg (show ¬ (20 : Nat) = 17 by decide), if_neg (show ¬ (20 : Nat) = 18 by decide), if_neg (show ¬ (20 : Nat) = 19 by decide), if_pos (show (20 : Nat) = 20 from rfl)]
theorem wdE21 (a b c n : Int) : wd 21 a b c n = fl (b == c) := by unfold wd; rw [if_neg (show ¬ (21 : Nat) = 2 by decide), if_neg (show ¬ (21 : Nat) = 3 by decide), if_neg (show ¬ (21 : Nat) = 4 by decide), if_neg (show ¬ (21 : Nat) = 7 by decide), if_neg (show ¬ (21 : Nat) = 8 by decide), if_neg (show ¬ (21 : Nat) = 9 by decide), if_neg (show ¬ (21 : Nat) = 12 by decide), if_neg (show ¬ (21 : Nat) = 13 by decide), if_neg (show ¬ (21 : Nat) = 14 by decide), if_neg (show ¬ (21 : Nat) = 15 by decide), if_neg (show ¬ (21 : Nat) = 16 by decide), if_neg (show ¬ (21 : Nat) = 17 by decide), if_neg (show ¬ (21 : Nat) = 18 by decide), if_neg (show ¬ (21 : Nat) = 19 by decide), if_neg (show ¬ (21 : Nat) = 20 by decide)]
theorem r2_1 (b c : Int) : r2 b c 1 = b := rfl
theorem r2_2 (b c : Int) : r2 b c 2 = c := rfl
theorem one_pc : (0 : Int) + 1 = 1 := rfl
theorem sure_of (o : Nat) (b c V : Int) (t : Bool) (w : World)
    (cd : Calls Tryd.prog 10 #[.int .u8 o, .int .i64 b, .int .i64 c] w fun ex w' => ex = .returned (.tuple #[.int .i64 V, .bool t]) ∧ Below w.heap.size w w') :
    Calls Tryd.prog 13 #[.int .u8 o, .int .i64 b, .int .i64 c] w fun ex w' => ex = .returned (.int .i64 V) ∧ Below w.heap.size w w' := by
  go_enter Tryd.func13, Tryd.ntmps13
  go_wp2_with (go_at_call 10; refine cd.mono ?_; rintro ex w1 ⟨rfl, b1⟩)
  go_ret
  exact ⟨rfl, b1⟩
theorem d7 (b c : Int) (w : World) (hO : Ops w) : Calls Tryd.prog 10 #[.int .u8 7, .int .i64 b, .int .i64 c] w fun ex w' => ex = .returned (.tuple #[.int .i64 (wrap64 (b + c)), .bool true]) ∧ Below w.heap.size w w' :=
  does_ok 7 b c _ w (by decide) hO (by rw [stepE_one _ _ _ (by decide), doE_word (by decide), wdE7, r2_1, r2_2, one_pc])
theorem s7 (b c : Int) (w : World) (hO : Ops w) : Calls Tryd.prog 13 #[.int .u8 7, .int .i64 b, .int .i64 c] w fun ex w' => ex = .returned (.int .i64 (wrap64 (b + c))) ∧ Below w.heap.size w w' := sure_of 7 b c _ true w (d7 b c w hO)
theorem d8 (b c : Int) (w : World) (hO : Ops w) : Calls Tryd.prog 10 #[.int .u8 8, .int .i64 b, .int .i64 c] w fun ex w' => ex = .returned (.tuple #[.int .i64 (wrap64 (b - c)), .bool true]) ∧ Below w.heap.size w w' :=
  does_ok 8 b c _ w (by decide) hO (by rw [stepE_one _ _ _ (by decide), doE_word (by decide), wdE8, r2_1, r2_2, one_pc])
theorem s8 (b c : Int) (w : World) (hO : Ops w) : Calls Tryd.prog 13 #[.int .u8 8, .int .i64 b, .int .i64 c] w fun ex w' => ex = .returned (.int .i64 (wrap64 (b - c))) ∧ Below w.heap.size w w' := sure_of 8 b c _ true w (d8 b c w hO)
theorem d9 (b c : Int) (w : World) (hO : Ops w) : Calls Tryd.prog 10 #[.int .u8 9, .int .i64 b, .int .i64 c] w fun ex w' => ex = .returned (.tuple #[.int .i64 (wrap64 (b * c)), .bool true]) ∧ Below w.heap.size w w' :=
  does_ok 9 b c _ w (by decide) hO (by rw [stepE_one _ _ _ (by decide), doE_word (by decide), wdE9, r2_1, r2_2, one_pc])
theorem s9 (b c : Int) (w : World) (hO : Ops w) : Calls Tryd.prog 13 #[.int .u8 9, .int .i64 b, .int .i64 c] w fun ex w' => ex = .returned (.int .i64 (wrap64 (b * c))) ∧ Below w.heap.size w w' := sure_of 9 b c _ true w (d9 b c w hO)
theorem d12 (b c : Int) (w : World) (hO : Ops w) : Calls Tryd.prog 10 #[.int .u8 12, .int .i64 b, .int .i64 c] w fun ex w' => ex = .returned (.tuple #[.int .i64 (bits .and .i64 b c), .bool true]) ∧ Below w.heap.size w w' :=
  does_ok 12 b c _ w (by decide) hO (by rw [stepE_one _ _ _ (by decide), doE_word (by decide), wdE12, r2_1, r2_2, one_pc])
theorem s12 (b c : Int) (w : World) (hO : Ops w) : Calls Tryd.prog 13 #[.int .u8 12, .int .i64 b, .int .i64 c] w fun ex w' => ex = .returned (.int .i64 (bits .and .i64 b c)) ∧ Below w.heap.size w w' := sure_of 12 b c _ true w (d12 b c w hO)
theorem d13 (b c : Int) (w : World) (hO : Ops w) : Calls Tryd.prog 10 #[.int .u8 13, .int .i64 b, .int .i64 c] w fun ex w' => ex = .returned (.tuple #[.int .i64 (bits .or .i64 b c), .bool true]) ∧ Below w.heap.size w w' :=
  does_ok 13 b c _ w (by decide) hO (by rw [stepE_one _ _ _ (by decide), doE_word (by decide), wdE13, r2_1, r2_2, one_pc])
theorem s13 (b c : Int) (w : World) (hO : Ops w) : Calls Tryd.prog 13 #[.int .u8 13, .int .i64 b, .int .i64 c] w fun ex w' => ex = .returned (.int .i64 (bits .or .i64 b c)) ∧ Below w.heap.size w w' := sure_of 13 b c _ true w (d13 b c w hO)
theorem d14 (b c : Int) (w : World) (hO : Ops w) : Calls Tryd.prog 10 #[.int .u8 14, .int .i64 b, .int .i64 c] w fun ex w' => ex = .returned (.tuple #[.int .i64 (bits .xor .i64 b c), .bool true]) ∧ Below w.heap.size w w' :=
  does_ok 14 b c _ w (by decide) hO (by rw [stepE_one _ _ _ (by decide), doE_word (by decide), wdE14, r2_1, r2_2, one_pc])
theorem s14 (b c : Int) (w : World) (hO : Ops w) : Calls Tryd.prog 13 #[.int .u8 14, .int .i64 b, .int .i64 c] w fun ex w' => ex = .returned (.int .i64 (bits .xor .i64 b c)) ∧ Below w.heap.size w w' := sure_of 14 b c _ true w (d14 b c w hO)
theorem d15 (b c : Int) (w : World) (hO : Ops w) : Calls Tryd.prog 10 #[.int .u8 15, .int .i64 b, .int .i64 c] w fun ex w' => ex = .returned (.tuple #[.int .i64 (shl b c), .bool true]) ∧ Below w.heap.size w w' :=
  does_ok 15 b c _ w (by decide) hO (by rw [stepE_one _ _ _ (by decide), doE_word (by decide), wdE15, r2_1, r2_2, one_pc])
theorem s15 (b c : Int) (w : World) (hO : Ops w) : Calls Tryd.prog 13 #[.int .u8 15, .int .i64 b, .int .i64 c] w fun ex w' => ex = .returned (.int .i64 (shl b c)) ∧ Below w.heap.size w w' := sure_of 15 b c _ true w (d15 b c w hO)
theorem d16 (b c : Int) (w : World) (hO : Ops w) : Calls Tryd.prog 10 #[.int .u8 16, .int .i64 b, .int .i64 c] w fun ex w' => ex = .returned (.tuple #[.int .i64 (shr b c), .bool true]) ∧ Below w.heap.size w w' :=
  does_ok 16 b c _ w (by decide) hO (by rw [stepE_one _ _ _ (by decide), doE_word (by decide), wdE16, r2_1, r2_2, one_pc])
theorem s16 (b c : Int) (w : World) (hO : Ops w) : Calls Tryd.prog 13 #[.int .u8 16, .int .i64 b, .int .i64 c] w fun ex w' => ex = .returned (.int .i64 (shr b c)) ∧ Below w.heap.size w w' := sure_of 16 b c _ true w (d16 b c w hO)
theorem d17 (b c : Int) (w : World) (hO : Ops w) : Calls Tryd.prog 10 #[.int .u8 17, .int .i64 b, .int .i64 c] w fun ex w' => ex = .returned (.tuple #[.int .i64 (sar b c), .bool true]) ∧ Below w.heap.size w w' :=
  does_ok 17 b c _ w (by decide) hO (by rw [stepE_one _ _ _ (by decide), doE_word (by decide), wdE17, r2_1, r2_2, one_pc])
theorem s17 (b c : Int) (w : World) (hO : Ops w) : Calls Tryd.prog 13 #[.int .u8 17, .int .i64 b, .int .i64 c] w fun ex w' => ex = .returned (.int .i64 (sar b c)) ∧ Below w.heap.size w w' := sure_of 17 b c _ true w (d17 b c w hO)
theorem d19 (b c : Int) (w : World) (hO : Ops w) : Calls Tryd.prog 10 #[.int .u8 19, .int .i64 b, .int .i64 c] w fun ex w' => ex = .returned (.tuple #[.int .i64 (fl (decide (b < c))), .bool true]) ∧ Below w.heap.size w w' :=
  does_ok 19 b c _ w (by decide) hO (by rw [stepE_one _ _ _ (by decide), doE_word (by decide), wdE19, r2_1, r2_2, one_pc])
theorem s19 (b c : Int) (w : World) (hO : Ops w) : Calls Tryd.prog 13 #[.int .u8 19, .int .i64 b, .int .i64 c] w fun ex w' => ex = .returned (.int .i64 (fl (decide (b < c)))) ∧ Below w.heap.size w w' := sure_of 19 b c _ true w (d19 b c w hO)
theorem d20 (b c : Int) (w : World) (hO : Ops w) : Calls Tryd.prog 10 #[.int .u8 20, .int .i64 b, .int .i64 c] w fun ex w' => ex = .returned (.tuple #[.int .i64 (fl (decide (un b < un c))), .bool true]) ∧ Below w.heap.size w w' :=
  does_ok 20 b c _ w (by decide) hO (by rw [stepE_one _ _ _ (by decide), doE_word (by decide), wdE20, r2_1, r2_2, one_pc])
theorem s20 (b c : Int) (w : World) (hO : Ops w) : Calls Tryd.prog 13 #[.int .u8 20, .int .i64 b, .int .i64 c] w fun ex w' => ex = .returned (.int .i64 (fl (decide (un b < un c)))) ∧ Below w.heap.size w w' := sure_of 20 b c _ true w (d20 b c w hO)
theorem d21 (b c : Int) (w : World) (hO : Ops w) : Calls Tryd.prog 10 #[.int .u8 21, .int .i64 b, .int .i64 c] w fun ex w' => ex = .returned (.tuple #[.int .i64 (fl (b == c)), .bool true]) ∧ Below w.heap.size w w' :=
  does_ok 21 b c _ w (by decide) hO (by rw [stepE_one _ _ _ (by decide), doE_word (by decide), wdE21, r2_1, r2_2, one_pc])
theorem s21 (b c : Int) (w : World) (hO : Ops w) : Calls Tryd.prog 13 #[.int .u8 21, .int .i64 b, .int .i64 c] w fun ex w' => ex = .returned (.int .i64 (fl (b == c))) ∧ Below w.heap.size w w' := sure_of 21 b c _ true w (d21 b c w hO)
theorem d10 (b c : Int) (h0 : c ≠ 0) (w : World) (hO : Ops w) : Calls Tryd.prog 10 #[.int .u8 10, .int .i64 b, .int .i64 c] w fun ex w' => ex = .returned (.tuple #[.int .i64 (qt b c), .bool true]) ∧ Below w.heap.size w w' :=
  does_ok 10 b c _ w (by decide) hO (by rw [stepE_one _ _ _ (by decide), doE10, r2_1, r2_2, one_pc, if_neg (by simpa using h0)])
theorem d10n (b : Int) (w : World) (hO : Ops w) : Calls Tryd.prog 10 #[.int .u8 10, .int .i64 b, .int .i64 0] w fun ex w' => ex = .returned (.tuple #[.int .i64 0, .bool false]) ∧ Below w.heap.size w w' :=
  does_no 10 b 0 w (by decide) hO (by rw [stepE_one _ _ _ (by decide), doE10, r2_1, r2_2, one_pc, if_pos (show ((0 : Int) == 0) = true from rfl)])
theorem s10 (b c : Int) (h0 : c ≠ 0) (w : World) (hO : Ops w) : Calls Tryd.prog 13 #[.int .u8 10, .int .i64 b, .int .i64 c] w fun ex w' => ex = .returned (.int .i64 (qt b c)) ∧ Below w.heap.size w w' := sure_of 10 b c _ true w (d10 b c h0 w hO)
theorem d11 (b c : Int) (h0 : c ≠ 0) (w : World) (hO : Ops w) : Calls Tryd.prog 10 #[.int .u8 11, .int .i64 b, .int .i64 c] w fun ex w' => ex = .returned (.tuple #[.int .i64 (wrap64 (rm b c)), .bool true]) ∧ Below w.heap.size w w' :=
  does_ok 11 b c _ w (by decide) hO (by rw [stepE_one _ _ _ (by decide), doE11, r2_1, r2_2, one_pc, if_neg (by simpa using h0)])
theorem d11n (b : Int) (w : World) (hO : Ops w) : Calls Tryd.prog 10 #[.int .u8 11, .int .i64 b, .int .i64 0] w fun ex w' => ex = .returned (.tuple #[.int .i64 0, .bool false]) ∧ Below w.heap.size w w' :=
  does_no 11 b 0 w (by decide) hO (by rw [stepE_one _ _ _ (by decide), doE11, r2_1, r2_2, one_pc, if_pos (show ((0 : Int) == 0) = true from rfl)])
theorem s11 (b c : Int) (h0 : c ≠ 0) (w : World) (hO : Ops w) : Calls Tryd.prog 13 #[.int .u8 11, .int .i64 b, .int .i64 c] w fun ex w' => ex = .returned (.int .i64 (wrap64 (rm b c))) ∧ Below w.heap.size w w' := sure_of 11 b c _ true w (d11 b c h0 w hO)
theorem known_yes (w : World) (hO : Ops w) : Calls Tryd.prog 11 #[] w fun ex w' => ex = .returned (.bool true) ∧ Below w.heap.size w w' := by
  have c1 := s7 7 5 w hO
  rw [show wrap64 (7 + 5) = 12 from w6_id (by unfold I6; omega)] at c1
  have c2 := fun w0 (b : Below w.heap.size w w0) => s8 7 5 w0 (hO.below b hO.pos)
  rw [show wrap64 (7 - 5) = 2 from w6_id (by unfold I6; omega)] at c2
  have c3 := fun w0 (b : Below w.heap.size w w0) => s9 7 5 w0 (hO.below b hO.pos)
  rw [show wrap64 (7 * 5) = 35 from w6_id (by unfold I6; omega)] at c3
  clear hO
  go_enter Tryd.func11, Tryd.ntmps11
  go_wp2_with (first
    | (go_at_call_of 13 (Value.int IntKind.u8 7); refine c1.mono ?_; rintro ex w1 ⟨rfl, b1⟩)
    | (go_at_call_of 13 (Value.int IntKind.u8 8); refine (c2 _ b1).mono ?_; rintro ex w2 ⟨rfl, b2⟩; have b2 := b1.trans (b2.mono b1.size))
    | (go_at_call_of 13 (Value.int IntKind.u8 9); refine (c3 _ b2).mono ?_; rintro ex w3 ⟨rfl, b3⟩; have b3 := b2.trans (b3.mono b2.size)))
  go_ret
  exact ⟨rfl, b3⟩

end Go.Proofs.YtijeaonldhccmaaDoor
