/-
  'within', 'Writable', 'piece', and the document's two.
-/
import Derived.Test.YtijeaonldhccmaaDoorProg
import Derived.Test.YtijeaonldhccmaaDoorHeap
import Derived.OwnWalk
namespace Go.Proofs.YtijeaonldhccmaaDoor
open Go.RowKit
set_option linter.unusedVariables false

theorem Tryd.info2 : (Tryd.prog.info? 2).map (fun i => (i.zero, i.size, i.bytes)) = some (some (.int .i64 0), 1, 8) := by kernel_rfl

/-- the range of n words from A on lies within N words -/
def wi (N A n : Int) : Bool := decide (0 ≤ n ∧ n ≤ N ∧ 0 ≤ A ∧ A ≤ N - n)
/-- and A is not below fixed -/
def wb (N fx A n : Int) : Bool := wi N A n && decide (fx ≤ A)
theorem wi_iff {N A n : Int} : wi N A n = true ↔ (0 ≤ n ∧ n ≤ N ∧ 0 ≤ A ∧ A ≤ N - n) := by simp [wi]
theorem wi_not {N A n : Int} (h : ¬ (0 ≤ n ∧ n ≤ N ∧ 0 ≤ A ∧ A ≤ N - n)) : wi N A n = false := by simp only [wi, decide_eq_false_iff_not]; exact h

theorem within_any (N A n : Int) (w : World) (hN : N ≤ 9223372036854775807) :
    Calls Tryd.prog 70 #[.int .i64 N, .int .i64 A, .int .i64 n] w fun ex w' => ex = .returned (.bool (wi N A n)) ∧ w' = w := by
  by_cases h1 : 0 ≤ n
  · by_cases h2 : n ≤ N
    · by_cases h3 : 0 ≤ A
      · have hw : wrap64 (N - n) = N - n := by unfold wrap64; omega
        by_cases h4 : A ≤ N - n
        · rw [wi_iff.2 ⟨h1, h2, h3, h4⟩]
          go_enter Tryd.func70, Tryd.ntmps70
          go_wp2
          go_ret
          exact ⟨rfl, rfl⟩
        · rw [wi_not (by omega)]
          go_enter Tryd.func70, Tryd.ntmps70
          go_wp2
          go_ret
          exact ⟨rfl, rfl⟩
      · rw [wi_not (by omega)]
        go_enter Tryd.func70, Tryd.ntmps70
        go_wp2
        go_ret
        exact ⟨rfl, rfl⟩
    · rw [wi_not (by omega)]
      go_enter Tryd.func70, Tryd.ntmps70
      go_wp2
      go_ret
      exact ⟨rfl, rfl⟩
  · rw [wi_not (by omega)]
    go_enter Tryd.func70, Tryd.ntmps70
    go_wp2
    go_ret
    exact ⟨rfl, rfl⟩

theorem writable_any (N fx A n : Int) (w : World) (hN : N ≤ 9223372036854775807) :
    Calls Tryd.prog 72 #[.int .i64 N, .int .i64 fx, .int .i64 A, .int .i64 n] w fun ex w' => ex = .returned (.bool (wb N fx A n)) ∧ w' = w := by
  have c := within_any N A n w hN
  unfold wb
  cases hk : wi N A n with
  | false =>
    rw [hk] at c
    clear hk
    rw [Bool.false_and]
    go_enter Tryd.func72, Tryd.ntmps72
    go_wp2_with (go_at_call 70; refine c.mono ?_; rintro ex w1 ⟨rfl, rfl⟩)
    go_ret
    exact ⟨rfl, rfl⟩
  | true =>
    rw [hk] at c
    clear hk
    rw [Bool.true_and]
    go_enter Tryd.func72, Tryd.ntmps72
    go_wp2_with (go_at_call 70; refine c.mono ?_; rintro ex w1 ⟨rfl, rfl⟩)
    go_ret
    exact ⟨rfl, rfl⟩

theorem piece_any (a : Option Addr) (N c d n : Nat) (w : World) (h1 : d + n ≤ N) (h2 : N ≤ c) (h3 : c ≤ 9223372036854775807) :
    Calls Tryd.prog 71 #[.slice a N c, .int .i64 d, .int .i64 n] w fun ex w' => ∃ a', ex = .returned (.slice a' n n) ∧ (0 < n → a' = a.map (·.add d)) ∧ (a' = none → a = none) ∧ w' = w := by
  have hw : wrap64 ((d : Int) + n) = d + n := by unfold wrap64; omega
  by_cases hn : n = 0
  · subst hn
    go_enter Tryd.func71, Tryd.ntmps71
    go_wp2
    go_ret
    exact ⟨a, rfl, fun h => by omega, fun h => h, rfl⟩
  · go_enter Tryd.func71, Tryd.ntmps71
    go_wp2
    go_ret
    refine ⟨a.map (·.add d), ?_, fun _ => rfl, ?_, rfl⟩
    · have e : d + n - d = n := by omega
      simp [e]
    · intro h
      cases a with
      | none => rfl
      | some x => cases h

end Go.Proofs.YtijeaonldhccmaaDoor
