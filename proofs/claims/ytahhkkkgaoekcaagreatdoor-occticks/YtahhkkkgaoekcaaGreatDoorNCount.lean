/-
  num.Count.
-/
import Derived.Test.YtahhkkkgaoekcaaGreatDoorNNext
namespace Go.Proofs.YtahhkkkgaoekcaaGreatDoor
open Go.RowKit Plain
set_option linter.unusedVariables false
set_option maxRecDepth 100000

theorem below_any (o p b : Int) (w : World) (ho : 0 ≤ o) (hp : 1 ≤ p) (hb : I64 b) :
    Calls Tryz.prog 39 #[.int .i64 o, .int .i64 p, .int .i64 b] w fun e w' => e = .returned (.int .i64 (cbF o p b)) ∧ w' = w := by
  unfold I64 at hb
  obtain ⟨hb1, hb2⟩ := hb
  by_cases h1 : b ≤ o
  · rw [show cbF o p b = 0 from if_pos h1]
    go_enter Tryz.func39, Tryz.ntmps39
    go_wp2
    go_ret
    exact ⟨rfl, rfl⟩
  rw [show cbF o p b = (b - 1 - o) / p + 1 from if_neg h1]
  obtain ⟨d1, d2⟩ := div_le (b - 1 - o) p hp (by omega)
  go_enter Tryz.func39, Tryz.ntmps39
  go_wp2
  go_ret
  exact ⟨rfl, rfl⟩

theorem count_any (o p f b : Int) (w : World) (hf : I64 f) (hb : I64 b) :
    Calls Tryz.prog 22 #[.int .i64 o, .int .i64 p, .int .i64 f, .int .i64 b] w fun e w' => e = .returned (.tuple #[.int .i64 (countV o p f b), .bool (countB o p)]) ∧ w' = w := by
  by_cases h1 : o < 0 ∨ p < 1
  · have hc : countB o p = false := if_pos h1
    rw [show countV o p f b = 0 from if_pos h1, hc]
    clear hf hb
    go_enter Tryz.func22, Tryz.ntmps22
    go_wp2_with (go_at_call 38; refine (comes_any _ _ _).mono ?_; rintro e w' ⟨rfl, rfl⟩)
    go_ret2
    exact ⟨rfl, rfl⟩
  have hc : countB o p = true := if_neg h1
  have ho : 0 ≤ o := by omega
  have hp : 1 ≤ p := by omega
  clear h1
  by_cases h2 : b ≤ f
  · rw [count_zero o p f b h2, hc]
    clear hf hb
    go_enter Tryz.func22, Tryz.ntmps22
    go_wp2_with (go_at_call 38; refine (comes_any _ _ _).mono ?_; rintro e w' ⟨rfl, rfl⟩)
    go_ret2
    exact ⟨rfl, rfl⟩
  rw [count_of o p f b ho hp (by omega), hc]
  have m1 := cb_mono o p f b hp (by omega)
  have m2 := cb_nonneg o p f hp
  have m3 := cb_le o p b hp ho hb.2
  go_enter Tryz.func22, Tryz.ntmps22
  go_wp2_with (first | (go_at_call 38; refine (comes_any _ _ _).mono ?_; rintro e w' ⟨rfl, rfl⟩) | (go_at_call 39; refine (below_any _ _ _ _ ?_ ?_ ?_).mono ?_; all_goals first | assumption | rintro e w' ⟨rfl, rfl⟩))
  go_ret2
  exact ⟨rfl, rfl⟩

end Go.Proofs.YtahhkkkgaoekcaaGreatDoor
