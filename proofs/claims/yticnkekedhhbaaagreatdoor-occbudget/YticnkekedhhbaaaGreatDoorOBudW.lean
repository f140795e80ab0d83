/-
  The walk of OccBudget.
-/
import Derived.Test.YticnkekedhhbaaaGreatDoorOBudP
namespace Go.Proofs.YticnkekedhhbaaaGreatDoor
open Go.RowKit Go.Shelf Plain
set_option linter.unusedVariables false
set_option maxRecDepth 100000

set_option maxHeartbeats 2000000 in
theorem budget_none {F : Nat → Prop} {a : Option Addr} {c : Nat} {xs : List Srv} (p k : Int) (w : World) (hg : Gl w) (h : Sv w F a xs.length c xs) {q : Int × Int} (htm : timF xs xs.length = some q) :
    Calls Tryz.prog 5 #[.slice a xs.length c, .int .i64 p, .int .i64 k] w fun e w' => e = .returned (.bool true) ∧ Below w.heap.size w w' := by
  have hc := hyper_any F a xs.length c xs w hg h
  have HWK : Hid (∀ W, Kept No w W → Calls Tryz.prog 9 #[] W fun e w' => e = .returned (.bool true) ∧ Kept No W w') := fun W hk => works_any W (hg.kept hk)
  have hp := tim_ne htm
  rw [(tim_no htm).1, (tim_no htm).2] at hc
  generalize q.1 = pe at *
  clear htm h hg
  go_enter Tryz.func5, Tryz.ntmps5
  go_wp2_with (first
    | (go_at_call 10; refine hc.mono ?_; rintro e w1 ⟨rfl, hk1⟩; have HK1 : Hid (Kept No w w1) := hk1; have hwk := HWK.out w1 hk1; clear hk1 hc)
    | (go_at_call 9; refine hwk.mono ?_; rintro e w2 ⟨rfl, hk2⟩; have HK2 : Hid (Kept No w w2) := HK1.out.trans hk2 (fun _ h => h.elim); clear hk2 hwk))
  go_ret
  exact ⟨rfl, HK2.out.below0⟩

/-- out of the range that the law speaks of -/
theorem out_cases {p k : Int} {n : Nat} (h : ¬ (1 ≤ p ∧ p ≤ n ∧ 0 ≤ k ∧ k < 1099511627776)) : p < 1 ∨ (¬ p < 1 ∧ p > n) ∨ (¬ p < 1 ∧ ¬ p > n ∧ k < 0) ∨ (¬ p < 1 ∧ ¬ p > n ∧ ¬ k < 0 ∧ k ≥ 1099511627776) := by omega
set_option maxHeartbeats 2000000 in
theorem budget_out {F : Nat → Prop} {a : Option Addr} {c : Nat} {xs : List Srv} (p k : Int) (w : World) (hg : Gl w) (h : Sv w F a xs.length c xs) (htm : timF xs xs.length = none) (ho : ¬ (1 ≤ p ∧ p ≤ xs.length ∧ 0 ≤ k ∧ k < 1099511627776)) :
    Calls Tryz.prog 5 #[.slice a xs.length c, .int .i64 p, .int .i64 k] w fun e w' => e = .returned (.bool true) ∧ Below w.heap.size w w' := by
  have hc := hyper_any F a xs.length c xs w hg h
  have HWK : Hid (∀ W, Kept No w W → Calls Tryz.prog 9 #[] W fun e w' => e = .returned (.bool true) ∧ Kept No W w') := fun W hk => works_any W (hg.kept hk)
  rw [(tim_yes htm).1, (tim_yes htm).2] at hc
  have hn := (vd_of htm).num
  generalize hyp xs = H at *
  clear htm h hg
  have ho := out_cases ho
  rcases ho with ho | ⟨h1, ho⟩ | ⟨h1, h2, ho⟩ | ⟨h1, h2, h3, ho⟩
  all_goals
    go_enter Tryz.func5, Tryz.ntmps5
    go_wp2_with (first
      | (go_at_call 10; refine hc.mono ?_; rintro e w1 ⟨rfl, hk1⟩; have HK1 : Hid (Kept No w w1) := hk1; have hwk := HWK.out w1 hk1; clear hk1 hc)
      | (go_at_call 9; refine hwk.mono ?_; rintro e w2 ⟨rfl, hk2⟩; have HK2 : Hid (Kept No w w2) := HK1.out.trans hk2 (fun _ h => h.elim); clear hk2 hwk))
    go_ret
    exact ⟨rfl, HK2.out.below0⟩
end Go.Proofs.YticnkekedhhbaaaGreatDoor
