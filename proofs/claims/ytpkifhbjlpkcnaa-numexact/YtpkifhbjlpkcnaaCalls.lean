/-
  Contracts of package num's calls that only reckon: each by a total function on numbers, without a premise.
-/
import Derived.Test.YtpkifhbjlpkcnaaProg
import Derived.Test.YtpkifhbjlpkcnaaPlain
import Derived.WalkKit
import Derived.WalkSpells
import Derived.WalkLawsBesides
namespace Go.Proofs.Ytpkifhbjlpkcnaa
open Go.RowKit Plain
set_option linter.unusedVariables false

set_option maxHeartbeats 400000 in
theorem later_any (t n : Int) (w : World) :
    Calls Try.prog 10 #[.int .i64 t, .int .i64 n] w fun e w' => e = .returned (.int .i64 (laterF t n)) ∧ w' = w := by
  by_cases h1 : t < 0
  · rw [show laterF t n = -1 from if_pos (by omega)]
    go_enter Try.func10, Try.ntmps10
    go_wp2
    go_ret
    exact ⟨rfl, rfl⟩
  by_cases h2 : 1099511627776 ≤ t
  · rw [show laterF t n = -1 from if_pos (by omega)]
    go_enter Try.func10, Try.ntmps10
    go_wp2
    go_ret
    exact ⟨rfl, rfl⟩
  by_cases h3 : n < 0
  · rw [show laterF t n = -1 from if_pos (by omega)]
    go_enter Try.func10, Try.ntmps10
    go_wp2
    go_ret
    exact ⟨rfl, rfl⟩
  by_cases h4 : 1099511627776 - t ≤ n
  · rw [show laterF t n = -1 from if_pos (by omega)]
    go_enter Try.func10, Try.ntmps10
    go_wp2
    go_ret
    exact ⟨rfl, rfl⟩
  rw [show laterF t n = t + n from if_neg (by omega)]
  go_enter Try.func10, Try.ntmps10
  go_wp2
  go_ret
  exact ⟨rfl, rfl⟩

set_option maxHeartbeats 400000 in
theorem add_any (a b : Int) (w : World) :
    Calls Try.prog 11 #[.int .i64 a, .int .i64 b] w fun e w' => e = .returned (.tuple #[.int .i64 (addV a b), .bool (addB a b)]) ∧ w' = w := by
  by_cases h : bits .and .i64 (bits .xor .i64 a (wrap64 (a + b))) (bits .xor .i64 b (wrap64 (a + b))) < 0
  · rw [show addV a b = 0 from if_pos h, show addB a b = false from if_pos h]
    go_enter Try.func11, Try.ntmps11
    go_wp2
    go_ret2
    exact ⟨rfl, rfl⟩
  · rw [show addV a b = wrap64 (a + b) from if_neg h, show addB a b = true from if_neg h]
    go_enter Try.func11, Try.ntmps11
    go_wp2
    go_ret2
    exact ⟨rfl, rfl⟩

set_option maxHeartbeats 400000 in
theorem sub_any (a b : Int) (w : World) :
    Calls Try.prog 14 #[.int .i64 a, .int .i64 b] w fun e w' => e = .returned (.tuple #[.int .i64 (subV a b), .bool (subB a b)]) ∧ w' = w := by
  by_cases h : bits .and .i64 (bits .xor .i64 a b) (bits .xor .i64 a (wrap64 (a - b))) < 0
  · rw [show subV a b = 0 from if_pos h, show subB a b = false from if_pos h]
    go_enter Try.func14, Try.ntmps14
    go_wp2
    go_ret2
    exact ⟨rfl, rfl⟩
  · rw [show subV a b = wrap64 (a - b) from if_neg h, show subB a b = true from if_neg h]
    go_enter Try.func14, Try.ntmps14
    go_wp2
    go_ret2
    exact ⟨rfl, rfl⟩

end Go.Proofs.Ytpkifhbjlpkcnaa
