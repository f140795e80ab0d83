/-
  The closures of the table: the others.
-/
import Derived.Test.YtijeaonldhccmaaDoorSmall
import Derived.Deep.RegionHeld
namespace Go.Proofs.YtijeaonldhccmaaDoor
open Go.RowKit
set_option linter.unusedVariables false

def fl (b : Bool) : Int := if b = true then 1 else 0
def ldh (a n : Int) : Int := bits .or .i64 (wrap64 (n * 4294967296)) (a % 4294967296)

theorem f36 (a b c n h : Int) (ma : Option Addr) (mn mc : Nat) (fx : Int) (w : World) :
    Calls Tryd.prog 36 #[turnV a b c n h (.slice ma mn mc) fx] w fun ex w' => ex = .returned (.int .i64 (ldh a n)) ∧ Below w.heap.size w w' := by
  unfold turnV
  go_enter Tryd.func36, Tryd.ntmps36
  go_wp2
  go_ret
  exact ⟨rfl, by go_grown⟩
theorem f56 (a b c n h : Int) (ma : Option Addr) (mn mc : Nat) (fx : Int) (w : World) :
    Calls Tryd.prog 56 #[turnV a b c n h (.slice ma mn mc) fx] w fun ex w' => ex = .returned (.int .i64 (fl (decide (b < c)))) ∧ Below w.heap.size w w' := by
  unfold turnV
  by_cases hb : b < c
  · rw [decide_eq_true hb]
    go_enter Tryd.func56, Tryd.ntmps56
    go_wp2
    go_ret
    exact ⟨rfl, by go_grown⟩
  · rw [decide_eq_false hb]
    go_enter Tryd.func56, Tryd.ntmps56
    go_wp2
    go_ret
    exact ⟨rfl, by go_grown⟩
theorem u64un (x : Int) : IntKind.u64.wrap x = (un x : Int) := by unfold un; rw [IntKind.wrap_u64]; omega
theorem f58 (a b c n h : Int) (ma : Option Addr) (mn mc : Nat) (fx : Int) (w : World) :
    Calls Tryd.prog 58 #[turnV a b c n h (.slice ma mn mc) fx] w fun ex w' => ex = .returned (.int .i64 (fl (decide (un b < un c)))) ∧ Below w.heap.size w w' := by
  unfold turnV
  have e1 := u64un b
  have e2 := u64un c
  by_cases hb : IntKind.u64.wrap b < IntKind.u64.wrap c
  · rw [decide_eq_true (by omega : un b < un c)]
    clear e1 e2
    go_enter Tryd.func58, Tryd.ntmps58
    go_wp2
    go_ret
    exact ⟨rfl, by go_grown⟩
  · rw [decide_eq_false (by omega : ¬ un b < un c)]
    clear e1 e2
    go_enter Tryd.func58, Tryd.ntmps58
    go_wp2
    go_ret
    exact ⟨rfl, by go_grown⟩
theorem f59 (a b c n h : Int) (ma : Option Addr) (mn mc : Nat) (fx : Int) (w : World) :
    Calls Tryd.prog 59 #[turnV a b c n h (.slice ma mn mc) fx] w fun ex w' => ex = .returned (.int .i64 (fl (b == c))) ∧ Below w.heap.size w w' := by
  unfold turnV
  cases hb : (b == c) with
  | true =>
    go_enter Tryd.func59, Tryd.ntmps59
    go_wp2
    go_ret
    exact ⟨rfl, by go_grown⟩
  | false =>
    go_enter Tryd.func59, Tryd.ntmps59
    go_wp2
    go_ret
    exact ⟨rfl, by go_grown⟩
theorem f61 (a b c n h : Int) (ma : Option Addr) (mn mc : Nat) (fx : Int) (w : World) :
    Calls Tryd.prog 61 #[turnV a b c n h (.slice ma mn mc) fx] w fun ex w' => ex = .returned (.int .i64 (if (a == 0) = true then n else h)) ∧ Below w.heap.size w w' := by
  unfold turnV
  cases hb : (a == 0) with
  | true =>
    go_enter Tryd.func61, Tryd.ntmps61
    go_wp2
    go_ret
    exact ⟨rfl, by go_grown⟩
  | false =>
    go_enter Tryd.func61, Tryd.ntmps61
    go_wp2
    go_ret
    exact ⟨rfl, by go_grown⟩
theorem f63 (a b c n h : Int) (ma : Option Addr) (mn mc : Nat) (fx : Int) (w : World) :
    Calls Tryd.prog 63 #[turnV a b c n h (.slice ma mn mc) fx] w fun ex w' => ex = .returned (.int .i64 (if (a == 0) = true then h else n)) ∧ Below w.heap.size w w' := by
  unfold turnV
  cases hb : (a == 0) with
  | true =>
    have hb2 : (a != 0) = false := by simp [bne, hb]
    go_enter Tryd.func63, Tryd.ntmps63
    go_wp2
    go_ret
    exact ⟨rfl, by go_grown⟩
  | false =>
    have hb2 : (a != 0) = true := by simp [bne, hb]
    go_enter Tryd.func63, Tryd.ntmps63
    go_wp2
    go_ret
    exact ⟨rfl, by go_grown⟩
theorem f45 (a b c n h : Int) (ma : Option Addr) (mn mc : Nat) (fx : Int) (w : World) :
    Calls Tryd.prog 45 #[turnV a b c n h (.slice ma mn mc) fx] w fun ex w' => ex = .returned (.int .i64 (if (c == 0) = true then 3 else 0)) ∧ Below w.heap.size w w' := by
  unfold turnV
  cases hb : (c == 0) with
  | true =>
    go_enter Tryd.func45, Tryd.ntmps45
    go_wp2
    go_ret
    exact ⟨rfl, by go_grown⟩
  | false =>
    go_enter Tryd.func45, Tryd.ntmps45
    go_wp2
    go_ret
    exact ⟨rfl, by go_grown⟩
theorem f67 (a b c n h : Int) (ma : Option Addr) (mn mc : Nat) (fx : Int) (w : World) :
    Calls Tryd.prog 67 #[turnV a b c n h (.slice ma mn mc) fx] w fun ex w' => ex = .returned (.int .i64 (if 1 ≤ n ∧ n ≤ 27 then 0 else 5)) ∧ Below w.heap.size w w' := by
  unfold turnV
  by_cases h1 : n < 1
  · rw [if_neg (by omega)]
    go_enter Tryd.func67, Tryd.ntmps67
    go_wp2
    go_ret
    exact ⟨rfl, by go_grown⟩
  · by_cases h2 : n ≥ 28
    · rw [if_neg (by omega)]
      go_enter Tryd.func67, Tryd.ntmps67
      go_wp2
      go_ret
      exact ⟨rfl, by go_grown⟩
    · rw [if_pos (by omega)]
      go_enter Tryd.func67, Tryd.ntmps67
      go_wp2
      go_ret
      exact ⟨rfl, by go_grown⟩
theorem f46 (a b c n h : Int) (hc : c ≠ 0) (ma : Option Addr) (mn mc : Nat) (fx : Int) (w : World) :
    Calls Tryd.prog 46 #[turnV a b c n h (.slice ma mn mc) fx] w fun ex w' => ex = .returned (.int .i64 (qt b c)) ∧ Below w.heap.size w w' := by
  unfold turnV
  have hm : wrap64 (b.tmod c) = b.tmod c ∨ True := .inr trivial
  by_cases h1 : 0 ≤ b.tmod c
  · have HE : Hid (qt b c = wrap64 (b.tdiv c)) := (show qt b c = wrap64 (b.tdiv c) by unfold qt; rw [tdiv_yes hc h1])
    go_enter Tryd.func46, Tryd.ntmps46
    go_wp2
    go_ret
    exact ⟨by rw [HE.out]; rfl, by go_grown⟩
  · by_cases h2 : 0 < c
    · have HE : Hid (qt b c = wrap64 (wrap64 (b.tdiv c) - 1)) := (show qt b c = wrap64 (wrap64 (b.tdiv c) - 1) by unfold qt; rw [tdiv_no hc (by omega), if_pos h2, w6_subl])
      go_enter Tryd.func46, Tryd.ntmps46
      go_wp2
      go_ret
      exact ⟨by rw [HE.out]; rfl, by go_grown⟩
    · have HE : Hid (qt b c = wrap64 (wrap64 (b.tdiv c) + 1)) := (show qt b c = wrap64 (wrap64 (b.tdiv c) + 1) by unfold qt; rw [tdiv_no hc (by omega), if_neg h2, w6_addl])
      go_enter Tryd.func46, Tryd.ntmps46
      go_wp2
      go_ret
      exact ⟨by rw [HE.out]; rfl, by go_grown⟩
theorem and63 (x : Int) : bits .and .i64 x 63 = x % 64 := by
  rw [bits_and, show un 63 = 2 ^ 6 - 1 by decide, Nat.and_two_pow_sub_one_eq_mod]
  unfold un wrap64
  omega
theorem f52 (a b c n h : Int) (ma : Option Addr) (mn mc : Nat) (fx : Int) (w : World) :
    Calls Tryd.prog 52 #[turnV a b c n h (.slice ma mn mc) fx] w fun ex w' => ex = .returned (.int .u64 (c % 64)) ∧ Below w.heap.size w w' := by
  unfold turnV
  have e := and63 c
  go_enter Tryd.func52, Tryd.ntmps52
  go_wp2
  go_ret
  refine ⟨?_, by go_grown⟩
  show Ending.returned (.int .u64 _) = _
  congr 2
  first | rfl | (rw [IntKind.wrap_u64]; omega) | skip

end Go.Proofs.YtijeaonldhccmaaDoor
