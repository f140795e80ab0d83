/-
  health: the small calls.
-/
import Derived.Test.YtledndpcceejpaaDoorProg
import Derived.Test.YtledndpcceejpaaDoorHeap
import Derived.BigRegion
import Derived.Handy
namespace Go.Proofs.YtledndpcceejpaaDoor
open Go.RowKit
set_option linter.unusedVariables false
set_option maxRecDepth 100000

theorem hid {p : Prop} (h : p) : Hid p := h
def inB (x lo hi : Int) : Bool := decide (lo ≤ x) && decide (x ≤ hi)
theorem pn_cell (w : World) (cs : List Value) (t : TypeId) (j : Nat) (v : Value) (h : cs[j]? = some v) : (w.alloc (.cells cs.toArray t)).cell? ⟨w.heap.size, j, none⟩ = some v := by
  simp [h]

theorem isKind_any (k : Int) (w : World) : Calls Tryd.prog 16 #[.int .i64 k] w fun e w' => e = .returned (.bool (inB k 1 7)) ∧ w' = w := by
  unfold inB
  by_cases h1 : 1 ≤ k
  · rw [decide_eq_true h1, Bool.true_and]
    go_enter Tryd.func16, Tryd.ntmps16
    go_wp2
    go_ret
    exact ⟨rfl, rfl⟩
  · rw [decide_eq_false h1, Bool.false_and]
    go_enter Tryd.func16, Tryd.ntmps16
    go_wp2
    go_ret
    exact ⟨rfl, rfl⟩
theorem isAction_any (k : Int) (w : World) : Calls Tryd.prog 22 #[.int .i64 k] w fun e w' => e = .returned (.bool (inB k 0 5)) ∧ w' = w := by
  unfold inB
  by_cases h1 : 0 ≤ k
  · rw [decide_eq_true h1, Bool.true_and]
    go_enter Tryd.func22, Tryd.ntmps22
    go_wp2
    go_ret
    exact ⟨rfl, rfl⟩
  · rw [decide_eq_false h1, Bool.false_and]
    go_enter Tryd.func22, Tryd.ntmps22
    go_wp2
    go_ret
    exact ⟨rfl, rfl⟩
theorem isThere_any (cs : List Value) (a : Option Addr) (n c : Nat) (h8 : cs[8]? = some (.slice a n c)) (p : Int) (w : World) : Calls Tryd.prog 17 #[.agg cs.toArray, .int .i64 p] w fun e w' => e = .returned (.bool (inB p 1 n)) ∧ Kept No w w' := by
  have HK : Hid (Kept No w (w.alloc (.cells cs.toArray 36))) := (Kept.refl No w).alloc _
  have d8 := pn_cell w cs 36 8 _ h8
  clear h8
  unfold inB
  by_cases h1 : 1 ≤ p
  · rw [decide_eq_true h1, Bool.true_and]
    go_enter Tryd.func17, Tryd.ntmps17
    go_wp2
    go_ret
    exact ⟨rfl, HK.out⟩
  · rw [decide_eq_false h1, Bool.false_and]
    go_enter Tryd.func17, Tryd.ntmps17
    go_wp2
    go_ret
    exact ⟨rfl, HK.out⟩
def hdl (a h : Int) (busy : Bool) : Int := if inB a 0 5 = false then 1 else if a ≠ 3 then a else if h = 0 then 1 else if busy = true then 0 else 3
theorem handled_any (a h : Int) (busy : Bool) (w : World) : Calls Tryd.prog 19 #[.int .i64 a, .int .i64 h, .bool busy] w fun e w' => e = .returned (.int .i64 (hdl a h busy)) ∧ w' = w := by
  have q := isAction_any a
  unfold hdl
  cases hb : inB a 0 5
  · rw [hb] at q
    rw [if_pos rfl]
    clear hb
    go_enter Tryd.func19, Tryd.ntmps19
    go_wp2_with (go_at_call 22; refine (q _).mono ?_; rintro e w' ⟨rfl, e1⟩; subst e1)
    go_ret
    exact ⟨rfl, rfl⟩
  · rw [hb] at q
    rw [if_neg (by decide)]
    clear hb
    by_cases h3 : a = 3
    · subst h3
      rw [if_neg (by decide)]
      by_cases h0 : h = 0
      · subst h0
        rw [if_pos rfl]
        go_enter Tryd.func19, Tryd.ntmps19
        go_wp2_with (go_at_call 22; refine (q _).mono ?_; rintro e w' ⟨rfl, e1⟩; subst e1)
        go_ret
        exact ⟨rfl, rfl⟩
      · rw [if_neg h0]
        have h0' : (h == 0) = false := by simp [h0]
        clear h0
        cases busy
        · rw [if_neg (by decide)]
          go_enter Tryd.func19, Tryd.ntmps19
          go_wp2_with (go_at_call 22; refine (q _).mono ?_; rintro e w' ⟨rfl, e1⟩; subst e1)
          go_ret
          exact ⟨rfl, rfl⟩
        · rw [if_pos rfl]
          go_enter Tryd.func19, Tryd.ntmps19
          go_wp2_with (go_at_call 22; refine (q _).mono ?_; rintro e w' ⟨rfl, e1⟩; subst e1)
          go_ret
          exact ⟨rfl, rfl⟩
    · rw [if_pos h3]
      have h3' : (a == 3) = false := by simp [h3]
      clear h3
      go_enter Tryd.func19, Tryd.ntmps19
      go_wp2_with (go_at_call 22; refine (q _).mono ?_; rintro e w' ⟨rfl, e1⟩; subst e1)
      go_ret
      exact ⟨rfl, rfl⟩
end Go.Proofs.YtledndpcceejpaaDoor
