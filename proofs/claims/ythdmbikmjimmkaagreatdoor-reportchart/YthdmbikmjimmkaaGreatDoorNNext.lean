/-
  num.NextAt.
-/
import Derived.Test.YthdmbikmjimmkaaGreatDoorProg
import Derived.Test.YthdmbikmjimmkaaGreatDoorGE
import Derived.WalkKit
import Derived.WalkSpells
import Derived.WalkLawsBesides
import Derived.WalkMore
namespace Go.Proofs.YthdmbikmjimmkaaGreatDoor
open Go.RowKit Plain
set_option linter.unusedVariables false
set_option maxRecDepth 100000

theorem comes_any (o p : Int) (w : World) :
    Calls Tryz.prog 102 #[.int .i64 o, .int .i64 p] w fun e w' => e = .returned (.bool (countB o p)) ∧ w' = w := by
  by_cases h1 : o < 0
  · rw [show countB o p = false from if_pos (by omega)]
    go_enter Tryz.func102, Tryz.ntmps102
    go_wp2
    go_ret
    exact ⟨rfl, rfl⟩
  by_cases h2 : p < 1
  · rw [show countB o p = false from if_pos (by omega)]
    have h3 : decide (1 ≤ p) = false := by simp; omega
    go_enter Tryz.func102, Tryz.ntmps102
    go_wp2
    go_ret
    exact ⟨rfl, rfl⟩
  rw [show countB o p = true from if_neg (by omega)]
  have h3 : decide (1 ≤ p) = true := by simp; omega
  go_enter Tryz.func102, Tryz.ntmps102
  go_wp2
  go_ret
  exact ⟨rfl, rfl⟩

theorem next_any (o p f : Int) (w : World) (ho2 : I64 o) (hp2 : I64 p) (hf : I64 f) :
    Calls Tryz.prog 88 #[.int .i64 o, .int .i64 p, .int .i64 f] w fun e w' => e = .returned (.tuple #[.int .i64 (nextV o p f), .bool (nextB o p f)]) ∧ w' = w := by
  unfold I64 at hf ho2 hp2
  obtain ⟨hf1, hf2⟩ := hf
  obtain ⟨_, ho2⟩ := ho2
  obtain ⟨_, hp2⟩ := hp2
  by_cases h1 : o < 0 ∨ p < 1
  · have hc : countB o p = false := if_pos h1
    rw [show nextV o p f = 0 from if_pos h1, show nextB o p f = false from if_pos h1]
    go_enter Tryz.func88, Tryz.ntmps88
    go_wp2_with (go_at_call 102; refine (comes_any _ _ _).mono ?_; rintro e w' ⟨rfl, rfl⟩)
    go_ret2
    exact ⟨rfl, rfl⟩
  have hc : countB o p = true := if_neg h1
  unfold nextV nextB
  rw [if_neg h1, if_neg h1]
  have ho : 0 ≤ o := by omega
  have hp : 1 ≤ p := by omega
  clear h1
  by_cases h2 : f ≤ o
  · rw [if_pos h2, if_pos h2]
    go_enter Tryz.func88, Tryz.ntmps88
    go_wp2_with (go_at_call 102; refine (comes_any _ _ _).mono ?_; rintro e w' ⟨rfl, rfl⟩)
    go_ret2
    exact ⟨rfl, rfl⟩
  rw [if_neg h2, if_neg h2]
  have r1 := Int.emod_nonneg (f - o) (b := p) (by omega)
  have r2 := Int.emod_lt_of_pos (f - o) (b := p) (by omega)
  have h2' : o < f := by omega
  clear h2
  by_cases h3 : (f - o) % p = 0
  · rw [if_pos h3, if_pos h3]
    go_enter Tryz.func88, Tryz.ntmps88
    go_wp2_with (go_at_call 102; refine (comes_any _ _ _).mono ?_; rintro e w' ⟨rfl, rfl⟩)
    go_ret2
    exact ⟨rfl, rfl⟩
  rw [if_neg h3, if_neg h3]
  by_cases h4 : 9223372036854775807 - f < p - (f - o) % p
  · rw [if_pos h4, if_pos h4]
    go_enter Tryz.func88, Tryz.ntmps88
    go_wp2_with (go_at_call 102; refine (comes_any _ _ _).mono ?_; rintro e w' ⟨rfl, rfl⟩)
    go_ret2
    exact ⟨rfl, rfl⟩
  rw [if_neg h4, if_neg h4]
  go_enter Tryz.func88, Tryz.ntmps88
  go_wp2_with (go_at_call 102; refine (comes_any _ _ _).mono ?_; rintro e w' ⟨rfl, rfl⟩)
  go_ret2
  exact ⟨rfl, rfl⟩

end Go.Proofs.YthdmbikmjimmkaaGreatDoor
