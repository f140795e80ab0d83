/-
  The closures of the table.
-/
import Derived.Test.YtijeaonldhccmaaDoorProg
import Derived.Test.YtijeaonldhccmaaDoorHeap
import Derived.Test.YtijeaonldhccmaaDoorPlain
import Derived.Handy
import Derived.Below
import Derived.Laws.ResultCell
namespace Go.Proofs.YtijeaonldhccmaaDoor
open Go.RowKit
set_option linter.unusedVariables false

def turnV (a b c n h : Int) (M : Value) (fx : Int) : Value := .agg #[.int .i64 a, .int .i64 b, .int .i64 c, .int .i64 n, .int .i64 h, M, .int .i64 fx]

theorem f35 (a b c n h : Int) (ma : Option Addr) (mn mc : Nat) (fx : Int) (w : World) :
    Calls Tryd.prog 35 #[turnV a b c n h (.slice ma mn mc) fx] w fun ex w' => ex = .returned (.int .i64 (n)) ∧ Below w.heap.size w w' := by
  unfold turnV
  go_enter Tryd.func35, Tryd.ntmps35
  go_wp2
  all_goals
    go_ret
    exact ⟨rfl, by go_grown⟩

theorem f37 (a b c n h : Int) (ma : Option Addr) (mn mc : Nat) (fx : Int) (w : World) :
    Calls Tryd.prog 37 #[turnV a b c n h (.slice ma mn mc) fx] w fun ex w' => ex = .returned (.int .i64 (b)) ∧ Below w.heap.size w w' := by
  unfold turnV
  go_enter Tryd.func37, Tryd.ntmps37
  go_wp2
  all_goals
    go_ret
    exact ⟨rfl, by go_grown⟩

theorem f42 (a b c n h : Int) (ma : Option Addr) (mn mc : Nat) (fx : Int) (w : World) :
    Calls Tryd.prog 42 #[turnV a b c n h (.slice ma mn mc) fx] w fun ex w' => ex = .returned (.int .i64 (wrap64 (b + c))) ∧ Below w.heap.size w w' := by
  unfold turnV
  go_enter Tryd.func42, Tryd.ntmps42
  go_wp2
  all_goals
    go_ret
    exact ⟨rfl, by go_grown⟩

theorem f43 (a b c n h : Int) (ma : Option Addr) (mn mc : Nat) (fx : Int) (w : World) :
    Calls Tryd.prog 43 #[turnV a b c n h (.slice ma mn mc) fx] w fun ex w' => ex = .returned (.int .i64 (wrap64 (b - c))) ∧ Below w.heap.size w w' := by
  unfold turnV
  go_enter Tryd.func43, Tryd.ntmps43
  go_wp2
  all_goals
    go_ret
    exact ⟨rfl, by go_grown⟩

theorem f44 (a b c n h : Int) (ma : Option Addr) (mn mc : Nat) (fx : Int) (w : World) :
    Calls Tryd.prog 44 #[turnV a b c n h (.slice ma mn mc) fx] w fun ex w' => ex = .returned (.int .i64 (wrap64 (b * c))) ∧ Below w.heap.size w w' := by
  unfold turnV
  go_enter Tryd.func44, Tryd.ntmps44
  go_wp2
  all_goals
    go_ret
    exact ⟨rfl, by go_grown⟩

theorem f48 (a b c n h : Int) (ma : Option Addr) (mn mc : Nat) (fx : Int) (w : World) :
    Calls Tryd.prog 48 #[turnV a b c n h (.slice ma mn mc) fx] w fun ex w' => ex = .returned (.int .i64 (bits .and .i64 b c)) ∧ Below w.heap.size w w' := by
  unfold turnV
  go_enter Tryd.func48, Tryd.ntmps48
  go_wp2
  all_goals
    go_ret
    exact ⟨rfl, by go_grown⟩

theorem f49 (a b c n h : Int) (ma : Option Addr) (mn mc : Nat) (fx : Int) (w : World) :
    Calls Tryd.prog 49 #[turnV a b c n h (.slice ma mn mc) fx] w fun ex w' => ex = .returned (.int .i64 (bits .or .i64 b c)) ∧ Below w.heap.size w w' := by
  unfold turnV
  go_enter Tryd.func49, Tryd.ntmps49
  go_wp2
  all_goals
    go_ret
    exact ⟨rfl, by go_grown⟩

theorem f50 (a b c n h : Int) (ma : Option Addr) (mn mc : Nat) (fx : Int) (w : World) :
    Calls Tryd.prog 50 #[turnV a b c n h (.slice ma mn mc) fx] w fun ex w' => ex = .returned (.int .i64 (bits .xor .i64 b c)) ∧ Below w.heap.size w w' := by
  unfold turnV
  go_enter Tryd.func50, Tryd.ntmps50
  go_wp2
  all_goals
    go_ret
    exact ⟨rfl, by go_grown⟩

theorem f55 (a b c n h : Int) (ma : Option Addr) (mn mc : Nat) (fx : Int) (w : World) :
    Calls Tryd.prog 55 #[turnV a b c n h (.slice ma mn mc) fx] w fun ex w' => ex = .returned (.int .i64 (wrap64 (b + n))) ∧ Below w.heap.size w w' := by
  unfold turnV
  go_enter Tryd.func55, Tryd.ntmps55
  go_wp2
  all_goals
    go_ret
    exact ⟨rfl, by go_grown⟩

theorem f60 (a b c n h : Int) (ma : Option Addr) (mn mc : Nat) (fx : Int) (w : World) :
    Calls Tryd.prog 60 #[turnV a b c n h (.slice ma mn mc) fx] w fun ex w' => ex = .returned (.int .i64 (n)) ∧ Below w.heap.size w w' := by
  unfold turnV
  go_enter Tryd.func60, Tryd.ntmps60
  go_wp2
  all_goals
    go_ret
    exact ⟨rfl, by go_grown⟩

theorem f64 (a b c n h : Int) (ma : Option Addr) (mn mc : Nat) (fx : Int) (w : World) :
    Calls Tryd.prog 64 #[turnV a b c n h (.slice ma mn mc) fx] w fun ex w' => ex = .returned (.int .i64 (a)) ∧ Below w.heap.size w w' := by
  unfold turnV
  go_enter Tryd.func64, Tryd.ntmps64
  go_wp2
  all_goals
    go_ret
    exact ⟨rfl, by go_grown⟩

theorem f65 (a b c n h : Int) (ma : Option Addr) (mn mc : Nat) (fx : Int) (w : World) :
    Calls Tryd.prog 65 #[turnV a b c n h (.slice ma mn mc) fx] w fun ex w' => ex = .returned (.int .i64 (n)) ∧ Below w.heap.size w w' := by
  unfold turnV
  go_enter Tryd.func65, Tryd.ntmps65
  go_wp2
  all_goals
    go_ret
    exact ⟨rfl, by go_grown⟩

theorem f83 (a b c n h : Int) (ma : Option Addr) (mn mc : Nat) (fx : Int) (w : World) :
    Calls Tryd.prog 83 #[turnV a b c n h (.slice ma mn mc) fx] w fun ex w' => ex = .returned (.int .i64 (wrap64 (b + n))) ∧ Below w.heap.size w w' := by
  unfold turnV
  go_enter Tryd.func83, Tryd.ntmps83
  go_wp2
  all_goals
    go_ret
    exact ⟨rfl, by go_grown⟩

end Go.Proofs.YtijeaonldhccmaaDoor
