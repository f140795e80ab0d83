/-
  tickFrom, Due, Next.
-/
import Derived.Test.YtfjaajjljmbmbaaGreatDoorCTick
import Derived.Test.YtfjaajjljmbmbaaGreatDoorNNext
import Derived.Test.YtfjaajjljmbmbaaGreatDoorHeap
namespace Go.Proofs.YtfjaajjljmbmbaaGreatDoor
open Go.RowKit Plain
set_option linter.unusedVariables false
set_option maxRecDepth 100000

def chV (k f : Int) (to : Value) (ph pe : Int) : Value := .agg #[.int .i64 k, .int .i64 f, to, .int .i64 ph, .int .i64 pe]

theorem tick_any (k f ph pe t : Int) (a : Option Addr) (n c : Nat) (w : World) (h1 : I64 ph) (h2 : I64 pe) (h3 : I64 t) :
    Calls Tryz.prog 29 #[.agg #[.int .i64 k, .int .i64 f, .slice a n c, .int .i64 ph, .int .i64 pe], .int .i64 t] w fun e w' => e = .returned (.tuple #[.int .i64 (tfV k f ph pe t), .bool (tfB k f ph pe t)]) ∧ Kept No w w' := by
  have nx := fun w => next_any ph pe t w h1 h2 h3
  clear h1 h2 h3
  by_cases e1 : k = 1
  · by_cases e2 : f = 0
    · rw [show tfV k f ph pe t = 0 from if_neg (by omega), show tfB k f ph pe t = false from if_neg (by omega)]
      subst e1 e2
      go_enter Tryz.func29, Tryz.ntmps29
      go_wp2
      go_ret2
      exact ⟨rfl, (Kept.refl No w).alloc _⟩
    · rw [show tfV k f ph pe t = nextV ph pe t from if_pos ⟨e1, e2⟩, show tfB k f ph pe t = (nextB ph pe t && decide (nextV ph pe t < 1099511627776)) from if_pos ⟨e1, e2⟩]
      subst e1
      generalize nextV ph pe t = V at *
      generalize nextB ph pe t = B at *
      cases B
      · go_enter Tryz.func29, Tryz.ntmps29
        go_wp2_with (go_at_call 56; refine (nx _).mono ?_; rintro e w' ⟨rfl, rfl⟩)
        go_ret2
        exact ⟨rfl, (Kept.refl No w).alloc _⟩
      · go_enter Tryz.func29, Tryz.ntmps29
        go_wp2_with (go_at_call 56; refine (nx _).mono ?_; rintro e w' ⟨rfl, rfl⟩)
        go_ret2
        exact ⟨rfl, (Kept.refl No w).alloc _⟩
  · rw [show tfV k f ph pe t = 0 from if_neg (by omega), show tfB k f ph pe t = false from if_neg (by omega)]
    go_enter Tryz.func29, Tryz.ntmps29
    go_wp2
    go_ret2
    exact ⟨rfl, (Kept.refl No w).alloc _⟩

theorem due_any (k f ph pe t : Int) (a : Option Addr) (n c : Nat) (w : World) (h1 : I64 ph) (h2 : I64 pe) (h3 : I64 t) :
    Calls Tryz.prog 14 #[.agg #[.int .i64 k, .int .i64 f, .slice a n c, .int .i64 ph, .int .i64 pe], .int .i64 t] w fun e w' => e = .returned (.bool (dueB k f ph pe t)) ∧ Kept No w w' := by
  have tk := fun w => tick_any k f ph pe t a n c w h1 h2 h3
  unfold dueB
  generalize tfV k f ph pe t = V at *
  generalize tfB k f ph pe t = B at *
  clear h1 h2 h3
  cases B
  · go_enter Tryz.func14, Tryz.ntmps14
    go_wp2_with (go_at_call 29; refine (tk _).mono ?_; rintro e w' ⟨rfl, hk⟩)
    go_ret
    exact ⟨rfl, ((Kept.refl No w).alloc _).trans hk (fun _ h => .inl h)⟩
  · go_enter Tryz.func14, Tryz.ntmps14
    go_wp2_with (go_at_call 29; refine (tk _).mono ?_; rintro e w' ⟨rfl, hk⟩)
    go_ret
    exact ⟨rfl, ((Kept.refl No w).alloc _).trans hk (fun _ h => .inl h)⟩

theorem nxt_any (k f ph pe t : Int) (a : Option Addr) (n c : Nat) (w : World) (h1 : I64 ph) (h2 : I64 pe) (h3 : I64 t) :
    Calls Tryz.prog 15 #[.agg #[.int .i64 k, .int .i64 f, .slice a n c, .int .i64 ph, .int .i64 pe], .int .i64 t] w fun e w' => e = .returned (.int .i64 (nxtV k f ph pe t)) ∧ Kept No w w' := by
  have tk := fun w => tick_any k f ph pe t a n c w h1 h2 h3
  unfold nxtV
  generalize tfV k f ph pe t = V at *
  generalize tfB k f ph pe t = B at *
  clear h1 h2 h3
  cases B
  · go_enter Tryz.func15, Tryz.ntmps15
    go_wp2_with (go_at_call 29; refine (tk _).mono ?_; rintro e w' ⟨rfl, hk⟩)
    go_ret
    exact ⟨rfl, ((Kept.refl No w).alloc _).trans hk (fun _ h => .inl h)⟩
  · go_enter Tryz.func15, Tryz.ntmps15
    go_wp2_with (go_at_call 29; refine (tk _).mono ?_; rintro e w' ⟨rfl, hk⟩)
    go_ret
    exact ⟨rfl, ((Kept.refl No w).alloc _).trans hk (fun _ h => .inl h)⟩
end Go.Proofs.YtfjaajjljmbmbaaGreatDoor
