/-
  HealthKeeps: its ways together.
-/
import Derived.Test.YtledndpcceejpaaHK0F
import Derived.Test.YtledndpcceejpaaHK0T
import Derived.Test.YtledndpcceejpaaHK1F
import Derived.Test.YtledndpcceejpaaHK1T
import Derived.Test.YtledndpcceejpaaHK2F
import Derived.Test.YtledndpcceejpaaHK2T
import Derived.Test.YtledndpcceejpaaHK3
import Derived.Test.YtledndpcceejpaaHK4F
import Derived.Test.YtledndpcceejpaaHK4T
import Derived.Test.YtledndpcceejpaaHK5F
import Derived.Test.YtledndpcceejpaaHK5T
import Derived.Test.YtledndpcceejpaaHKZ
namespace Go.Proofs.Ytledndpcceejpaa
open Go.RowKit
set_option linter.unusedVariables false

theorem keeps_law (n h : Int) (t : Nat → Int) (k p : Int) (busy : Bool) (w : World) : Calls Try.prog 3 #[.agg (csA n h t k p busy)] w fun e w' => e = .returned (.bool true) ∧ Kept No w w' := by
  by_cases hz : (1 ≤ k ∧ k ≤ 7) ∧ (1 ≤ p ∧ p ≤ (nOf n : Int)) ∧ ¬ (1 ≤ h ∧ h ≤ (nOf n : Int) ∧ p = h)
  · obtain ⟨hk, hp, hs⟩ := hz
    cases hH : (decide (1 ≤ h) && decide (h ≤ (nOf n : Int)))
    · rcases jd_cases (nOf n) h t k p busy hk hp hs with e | e | e | e | e | e
      · exact keeps_0f n h t k p busy w hk hp hs e.1 hH
      · exact keeps_1f n h t k p busy w hk hp hs e.1 hH
      · exact keeps_2f n h t k p busy w hk hp hs e.1 hH
      · exact keeps_3 n h t k p busy w hk hp hs e.1
      · exact keeps_4f n h t k p busy w hk hp hs e.1 hH
      · exact keeps_5f n h t k p busy w hk hp hs e.1 hH
    · rcases jd_cases (nOf n) h t k p busy hk hp hs with e | e | e | e | e | e
      · exact keeps_0t n h t k p busy w hk hp hs e.1 hH
      · exact keeps_1t n h t k p busy w hk hp hs e.1 hH
      · exact keeps_2t n h t k p busy w hk hp hs e.1 hH
      · exact keeps_3 n h t k p busy w hk hp hs e.1
      · exact keeps_4t n h t k p busy w hk hp hs e.1 hH
      · exact keeps_5t n h t k p busy w hk hp hs e.1 hH
  · exact keeps_z n h t k p busy w hz
theorem keeps_any (n h : Int) (t : Nat → Int) (k p : Int) (busy : Bool) (w : World) : Calls Try.prog 3 #[.agg (csA n h t k p busy)] w fun e w' => e = .returned (.bool true) ∧ Below w.heap.size w w' :=
  (keeps_law n h t k p busy w).mono fun e w' h => ⟨h.1, h.2.below0⟩
end Go.Proofs.Ytledndpcceejpaa
