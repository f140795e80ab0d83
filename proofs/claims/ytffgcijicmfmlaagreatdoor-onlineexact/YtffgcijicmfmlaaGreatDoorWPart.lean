/-
  'partOf'.
-/
import Derived.Test.YtffgcijicmfmlaaGreatDoorLev
import Derived.Test.YtffgcijicmfmlaaGreatDoorChecked
import Derived.Deep.DeepCutAuto
import Derived.WalkSmall
namespace Go.Proofs.YtffgcijicmfmlaaGreatDoor
open Go.RowKit
set_option linter.unusedVariables false

theorem partOf_any (t a : Nat) (ha : a < 7) (ht : t < 9223372036854775808) (w : World) :
    Calls Tryz.prog 127 #[.int .i64 t, .int .i64 a] w fun ex w' => ex = .returned (.int .i64 (pt t a)) ∧ w' = w := by
  have h7 : a = 0 ∨ a = 1 ∨ a = 2 ∨ a = 3 ∨ a = 4 ∨ a = 5 ∨ a = 6 := by omega
  obtain ⟨r, hr⟩ : ∃ r, r = pt t a := ⟨_, rfl⟩
  rw [← hr]
  have HR : Hid (r = pt t a) := hr
  clear hr
  rcases h7 with rfl | rfl | rfl | rfl | rfl | rfl | rfl
  all_goals
    go_enter Tryz.func127, Tryz.ntmps127
    go_wp2
    go_ret
    refine ⟨?_, rfl⟩
    rw [HR.out]
    unfold pt
    exact congrArg (fun z => Ending.returned (Value.int .i64 z)) (by simp)

end Go.Proofs.YtffgcijicmfmlaaGreatDoor
