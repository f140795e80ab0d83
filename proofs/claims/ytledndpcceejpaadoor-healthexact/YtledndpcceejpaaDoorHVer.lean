/-
  health: the calls that answer verdicts.
-/
import Derived.Test.YtledndpcceejpaaDoorHSmall
import Derived.Laws.Rows
import Derived.Deep.MidRow
namespace Go.Proofs.YtledndpcceejpaaDoor
open Go.RowKit
set_option linter.unusedVariables false
set_option maxRecDepth 100000

def vd (a p : Int) : Value := .agg #[.int .i64 a, .int .i64 p]
theorem Tryd.info2 : (Tryd.prog.info? 26).map (·.size) = some 2 := by kernel_rfl
theorem Tryd.info21 : (Tryd.prog.info? 36).map (·.size) = some 21 := by kernel_rfl
theorem Tryd.info3 : (Tryd.prog.info? 48).map (·.size) = some 3 := by kernel_rfl
def aimP (a p h : Int) : Int := if a = 3 then h else if a = 4 then 0 else if a = 5 then 0 else p
theorem aimed_any (a p h : Int) (w : World) : Calls Tryd.prog 20 #[.int .i64 a, .int .i64 p, .int .i64 h] w fun e w' => e = .returned (vd a (aimP a p h)) ∧ Kept No w w' := by
  have HK : Hid (∀ o, Kept No w (w.alloc o)) := fun o => (Kept.refl No w).alloc _
  unfold aimP
  by_cases h3 : a = 3
  · rw [if_pos h3]
    subst h3
    go_enter Tryd.func20, Tryd.ntmps20
    go_wp2
    refine bodyPost_ret (results_cell_row rfl _ _ w.heap.size 26 _ _ _ rfl (heap_alloc_new _ _) Tryd.underlying26 rfl Tryd.info2) rfl ?_
    exact ⟨rfl, HK.out _⟩
  · rw [if_neg h3]
    have h3' : (a == 3) = false := by simp [h3]
    clear h3
    by_cases h4 : a = 4
    · rw [if_pos h4]
      subst h4
      go_enter Tryd.func20, Tryd.ntmps20
      go_wp2
      refine bodyPost_ret (results_cell_row rfl _ _ w.heap.size 26 _ _ _ rfl (heap_alloc_new _ _) Tryd.underlying26 rfl Tryd.info2) rfl ?_
      exact ⟨rfl, HK.out _⟩
    · rw [if_neg h4]
      have h4' : (a == 4) = false := by simp [h4]
      clear h4
      by_cases h5 : a = 5
      · rw [if_pos h5]
        subst h5
        go_enter Tryd.func20, Tryd.ntmps20
        go_wp2
        refine bodyPost_ret (results_cell_row rfl _ _ w.heap.size 26 _ _ _ rfl (heap_alloc_new _ _) Tryd.underlying26 rfl Tryd.info2) rfl ?_
        exact ⟨rfl, HK.out _⟩
      · rw [if_neg h5]
        have h5' : (a == 5) = false := by simp [h5]
        clear h5
        go_enter Tryd.func20, Tryd.ntmps20
        go_wp2
        refine bodyPost_ret (results_cell_row rfl _ _ w.heap.size 26 _ _ _ rfl (heap_alloc_new _ _) Tryd.underlying26 rfl Tryd.info2) rfl ?_
        exact ⟨rfl, HK.out _⟩
theorem args_any (k p c : Int) (w : World) : Calls Tryd.prog 14 #[.int .i64 k, .int .i64 p, .int .i64 c] w fun e w' => e = .returned (.agg #[.int .i64 k, .int .i64 p, .int .i64 (if k = 7 then -1 else c)]) ∧ Kept No w w' := by
  have HK : Hid (∀ o, Kept No w (w.alloc o)) := fun o => (Kept.refl No w).alloc _
  by_cases h3 : k = 7
  · rw [if_pos h3]
    subst h3
    go_enter Tryd.func14, Tryd.ntmps14
    go_wp2
    refine bodyPost_ret (results_cell_row rfl _ _ w.heap.size 48 _ _ _ rfl (heap_alloc_new _ _) Tryd.underlying48 rfl Tryd.info3) rfl ?_
    exact ⟨rfl, HK.out _⟩
  · rw [if_neg h3]
    have h3' : (k == 7) = false := by simp [h3]
    clear h3
    go_enter Tryd.func14, Tryd.ntmps14
    go_wp2
    refine bodyPost_ret (results_cell_row rfl _ _ w.heap.size 48 _ _ _ rfl (heap_alloc_new _ _) Tryd.underlying48 rfl Tryd.info3) rfl ?_
    exact ⟨rfl, HK.out _⟩
/-- whether the process goes on -/
def goB (a q p : Int) : Bool := if a = 0 then true else if a = 3 then true else if a = 1 then !(q == p) else if a = 2 then !(q == p) else false
/-- whether the life ends -/
def enB (a : Int) : Bool := if a = 4 then true else if a = 5 then true else false
theorem goes_any (a q p : Int) (w : World) : Calls Tryd.prog 8 #[vd a q, .int .i64 p] w fun e w' => e = .returned (.tuple #[.bool (goB a q p), .bool (enB a)]) ∧ Kept No w w' := by
  have HK : Hid (∀ o, Kept No w (w.alloc o)) := fun o => (Kept.refl No w).alloc _
  have HK2 : Hid (∀ o o', Kept No w ((w.alloc o).alloc o')) := fun o o' => ((Kept.refl No w).alloc _).alloc _
  unfold vd
  by_cases h0 : a = 0
  · subst h0
    go_enter Tryd.func8, Tryd.ntmps8
    go_wp2
    go_ret2
    exact ⟨rfl, HK.out _⟩
  by_cases h3 : a = 3
  · subst h3
    clear h0
    go_enter Tryd.func8, Tryd.ntmps8
    go_wp2
    go_ret2
    exact ⟨rfl, HK.out _⟩
  by_cases h1 : a = 1
  · subst h1
    clear h0 h3
    go_enter Tryd.func8, Tryd.ntmps8
    go_wp2
    · go_ret2
      exact ⟨by simp [goB, enB, *], HK2.out _ _⟩
    · go_ret2
      exact ⟨by simp [goB, enB, *], HK2.out _ _⟩
  by_cases h2 : a = 2
  · subst h2
    clear h0 h3 h1
    go_enter Tryd.func8, Tryd.ntmps8
    go_wp2
    · go_ret2
      exact ⟨by simp [goB, enB, *], HK2.out _ _⟩
    · go_ret2
      exact ⟨by simp [goB, enB, *], HK2.out _ _⟩
  by_cases h4 : a = 4
  · subst h4
    clear h0 h3 h1 h2
    go_enter Tryd.func8, Tryd.ntmps8
    go_wp2
    go_ret2
    exact ⟨rfl, HK.out _⟩
  by_cases h5 : a = 5
  · subst h5
    clear h0 h3 h1 h2 h4
    go_enter Tryd.func8, Tryd.ntmps8
    go_wp2
    go_ret2
    exact ⟨rfl, HK.out _⟩
  have e0 : (a == 0) = false := by simp [h0]
  have e1 : (a == 1) = false := by simp [h1]
  have e2 : (a == 2) = false := by simp [h2]
  have e3 : (a == 3) = false := by simp [h3]
  have e4 : (a == 4) = false := by simp [h4]
  have e5 : (a == 5) = false := by simp [h5]
  rw [show goB a q p = false by simp [goB, *], show enB a = false by simp [enB, *]]
  clear h0 h1 h2 h3 h4 h5
  go_enter Tryd.func8, Tryd.ntmps8
  go_wp2
  go_ret2
  exact ⟨rfl, HK.out _⟩
end Go.Proofs.YtledndpcceejpaaDoor
