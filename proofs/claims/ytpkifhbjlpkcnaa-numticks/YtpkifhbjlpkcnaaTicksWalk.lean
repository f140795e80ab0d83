/-
  The walk of NumTicks.
-/
import Derived.Test.YtpkifhbjlpkcnaaTicksYes
import Derived.Test.YtpkifhbjlpkcnaaTicksNo
import Derived.Deep.DeepCutAuto
namespace Go.Proofs.Ytpkifhbjlpkcnaa
open Go.RowKit Plain
set_option linter.unusedVariables false

set_option maxRecDepth 100000 in
theorem numTicks_bad (o p f m b : Int) (w : World) (ho : I64 o) (hp : I64 p) (hf : I64 f) (hb : I64 b) (h : o < 0 ∨ p < 1) :
    Calls Try.prog 5 #[.int .i64 o, .int .i64 p, .int .i64 f, .int .i64 m, .int .i64 b] w fun e w' => e = .returned (.bool true) ∧ w' = w := by
  have n1 : nextV o p f = 0 := if_pos h
  have n2 : nextB o p f = false := if_pos h
  have n3 : countV o p f b = 0 := if_pos h
  have n4 : countB o p = false := if_pos h
  have l1 : laterF 1 1 = 2 := laterF_yes (by omega) (by omega) (by omega)
  by_cases h1 : p < 1
  all_goals
    have h2 : 1 ≤ p → o < 0 := by omega
    clear h
    go_enter Try.func5, Try.ntmps5
    go_wp2_with (first | (go_at_call 12; refine (next_any _ _ _ _ ?_ ?_ ?_).mono ?_; all_goals first | assumption | rintro e w' ⟨rfl, rfl⟩) | (go_at_call 13; refine (count_any _ _ _ _ _ ?_ ?_).mono ?_; all_goals first | assumption | rintro e w' ⟨rfl, rfl⟩) | (go_at_call 10; refine (later_any _ _ _).mono ?_; rintro e w' ⟨rfl, rfl⟩))
    all_goals (go_ret; exact ⟨congrArg (fun x => Ending.returned (Value.bool x)) (by first | rfl | (simp; omega)), rfl⟩)

theorem numTicks_walk (o p f m b : Int) (w : World) (ho : I64 o) (hp : I64 p) (hf : I64 f) (hm : I64 m) (hb : I64 b) :
    Calls Try.prog 5 #[.int .i64 o, .int .i64 p, .int .i64 f, .int .i64 m, .int .i64 b] w fun e w' => e = .returned (.bool true) ∧ w' = w := by
  by_cases h : o < 0 ∨ p < 1
  · exact numTicks_bad o p f m b w ho hp hf hb h
  · by_cases hk : nextB o p f = true
    · exact numTicks_yes o p f m b w ho hp hf hm hb (by omega) (by omega) hk
    · exact numTicks_no o p f m b w ho hp hf hm hb (by omega) (by omega) (by simpa using hk)

end Go.Proofs.Ytpkifhbjlpkcnaa
