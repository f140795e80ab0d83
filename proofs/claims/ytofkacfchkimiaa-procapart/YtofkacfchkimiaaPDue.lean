/-
  proc: placeOf, Due.
-/
import Derived.Test.YtofkacfchkimiaaPTicks
namespace Go.Proofs.Ytofkacfchkimiaa
open Go.RowKit Plain
set_option linter.unusedVariables false
set_option maxRecDepth 100000

/-- the tick of a timer -/
def Pr.tk (p : Pr) (kind : Int) : Int := if kind = 1 then p.tkD else if kind = 2 then p.tkR else if kind = 3 then p.tkW else -1
def Pr.due (p : Pr) (kind now : Int) : Bool := now != -1 && p.tk kind == now
theorem placeOf_no (k : Int) (w : World) (h : k < 1 ∨ 3 < k) : Calls Try.prog 41 #[.int .i64 k] w fun e w' => e = .returned (.tuple #[.int .i64 0, .bool false]) ∧ w' = w := by
  by_cases h1 : k < 1
  · go_enter Try.func41, Try.ntmps41
    go_wp2
    go_ret2
    exact ⟨rfl, rfl⟩
  · have h2 : 3 < k := by omega
    go_enter Try.func41, Try.ntmps41
    go_wp2
    go_ret2
    exact ⟨rfl, rfl⟩
theorem placeOf_yes (k : Int) (w : World) (h1 : 1 ≤ k) (h3 : k ≤ 3) : Calls Try.prog 41 #[.int .i64 k] w fun e w' => e = .returned (.tuple #[.int .i64 (k - 1), .bool true]) ∧ w' = w := by
  go_enter Try.func41, Try.ntmps41
  go_wp2
  go_ret2
  exact ⟨rfl, rfl⟩

theorem ix3 (w : World) (d r k : Value) (j : Nat) (hj : j < 3) : (Instr.index 97 (.agg #[d, r, k]) (.int .i64 (j : Int))).run Try.prog w = .ok (#[d, r, k].getD j undef) w := by
  have hu := Try.underlying97
  have : j = 0 ∨ j = 1 ∨ j = 2 := by omega
  rcases this with rfl | rfl | rfl
  all_goals simp [Instr.index, run_underlying hu, asIntOf, go_sem, part]
section
variable {b g cap : Nat} {T : Tt}
theorem due_out (w : World) (h : Tw w b g cap T) {p : Int} (hp : p < 1 ∨ (T.n : Int) < p) (hn : T.n ≤ 1048576) (kind now : Int) :
    Calls Try.prog 12 #[.pointer (some ⟨b, 0, none⟩), .int .i64 p, .int .i64 kind, .int .i64 now] w fun e w' => e = .returned (.bool false) ∧ w' = w := by
  have fi := find_no w h hp hn
  clear h
  by_cases hk : kind < 1 ∨ 3 < kind
  · have pl := placeOf_no kind w hk
    go_enter Try.func12, Try.ntmps12
    go_wp2_with (first
      | (go_at_call 34; refine fi.mono ?_; rintro e w' ⟨rfl, rfl⟩; clear fi)
      | (go_at_call 41; refine pl.mono ?_; rintro e w' ⟨rfl, rfl⟩; clear pl))
    go_ret
    exact ⟨rfl, rfl⟩
  · have pl := placeOf_yes kind w (by omega) (by omega)
    go_enter Try.func12, Try.ntmps12
    go_wp2_with (first
      | (go_at_call 34; refine fi.mono ?_; rintro e w' ⟨rfl, rfl⟩; clear fi)
      | (go_at_call 41; refine pl.mono ?_; rintro e w' ⟨rfl, rfl⟩; clear pl))
    go_ret
    exact ⟨rfl, rfl⟩
theorem due_any (w : World) (h : Tw w b g cap T) {i : Nat} (hi : i < T.n) (hn : T.n ≤ 1048576) (kind now : Int) :
    Calls Try.prog 12 #[.pointer (some ⟨b, 0, none⟩), .int .i64 ((i : Int) + 1), .int .i64 kind, .int .i64 now] w fun e w' => e = .returned (.bool ((T.ps i).due kind now)) ∧ Kept No w w' := by
  have fi := find_yes w h hi hn
  have tk := ticks_any w h hi
  clear h
  unfold Pr.due Pr.tk
  unfold Pr.tks at tk
  generalize (T.ps i).tkD = d at *
  generalize (T.ps i).tkR = r at *
  generalize (T.ps i).tkW = k at *
  by_cases hk : kind < 1 ∨ 3 < kind
  · have pl := placeOf_no kind w hk
    have e0 : (now != -1 && (if kind = 1 then d else if kind = 2 then r else if kind = 3 then k else -1) == now) = false := by
      rw [if_neg (by omega), if_neg (by omega), if_neg (by omega)]
      by_cases hx : now = -1
      · subst hx; rfl
      · simp; intro _; omega
    rw [e0]
    clear e0
    go_enter Try.func12, Try.ntmps12
    go_wp2_with (first
      | (go_at_call 34; refine fi.mono ?_; rintro e w' ⟨rfl, rfl⟩; clear fi)
      | (go_at_call 41; refine pl.mono ?_; rintro e w' ⟨rfl, rfl⟩; clear pl))
    go_ret
    exact ⟨rfl, Kept.refl _ _⟩
  · have pl := placeOf_yes kind w (by omega) (by omega)
    by_cases hx : now = -1
    · subst hx
      rw [show ((-1 : Int) != -1) = false from rfl, Bool.false_and]
      go_enter Try.func12, Try.ntmps12
      go_wp2_with (first
        | (go_at_call 34; refine fi.mono ?_; rintro e w' ⟨rfl, rfl⟩; clear fi)
        | (go_at_call 41; refine pl.mono ?_; rintro e w' ⟨rfl, rfl⟩; clear pl))
      go_ret
      exact ⟨rfl, Kept.refl _ _⟩
    · have hx' : (now != -1) = true := by simp [hx]
      rw [hx', Bool.true_and]
      have hc : kind = 1 ∨ kind = 2 ∨ kind = 3 := by omega
      rcases hc with rfl | rfl | rfl
      · rw [if_pos rfl]
        rw [show ((1 : Int) - 1) = 0 from rfl] at pl
        go_enter Try.func12, Try.ntmps12
        go_wp2_with (first
          | (go_at_call 34; refine fi.mono ?_; rintro e w' ⟨rfl, rfl⟩; clear fi)
          | (go_at_call 41; refine pl.mono ?_; rintro e w' ⟨rfl, rfl⟩; clear pl)
          | (go_at_call 42; refine tk.mono ?_; rintro e w1 ⟨rfl, k1⟩; have K1 := k1; clear tk k1))
        rw [show (Instr.index 97 (.agg #[.int .i64 d, .int .i64 r, .int .i64 k]) (.int .i64 0)).run Try.prog w1 = .ok (.int .i64 d) w1 from ix3 w1 _ _ _ 0 (by omega)]
        go_wp2
        go_ret
        exact ⟨rfl, K1⟩
      · rw [if_neg (by decide), if_pos rfl]
        rw [show ((2 : Int) - 1) = 1 from rfl] at pl
        go_enter Try.func12, Try.ntmps12
        go_wp2_with (first
          | (go_at_call 34; refine fi.mono ?_; rintro e w' ⟨rfl, rfl⟩; clear fi)
          | (go_at_call 41; refine pl.mono ?_; rintro e w' ⟨rfl, rfl⟩; clear pl)
          | (go_at_call 42; refine tk.mono ?_; rintro e w1 ⟨rfl, k1⟩; have K1 := k1; clear tk k1))
        rw [show (Instr.index 97 (.agg #[.int .i64 d, .int .i64 r, .int .i64 k]) (.int .i64 1)).run Try.prog w1 = .ok (.int .i64 r) w1 from ix3 w1 _ _ _ 1 (by omega)]
        go_wp2
        go_ret
        exact ⟨rfl, K1⟩
      · rw [if_neg (by decide), if_neg (by decide), if_pos rfl]
        rw [show ((3 : Int) - 1) = 2 from rfl] at pl
        go_enter Try.func12, Try.ntmps12
        go_wp2_with (first
          | (go_at_call 34; refine fi.mono ?_; rintro e w' ⟨rfl, rfl⟩; clear fi)
          | (go_at_call 41; refine pl.mono ?_; rintro e w' ⟨rfl, rfl⟩; clear pl)
          | (go_at_call 42; refine tk.mono ?_; rintro e w1 ⟨rfl, k1⟩; have K1 := k1; clear tk k1))
        rw [show (Instr.index 97 (.agg #[.int .i64 d, .int .i64 r, .int .i64 k]) (.int .i64 2)).run Try.prog w1 = .ok (.int .i64 k) w1 from ix3 w1 _ _ _ 2 (by omega)]
        go_wp2
        go_ret
        exact ⟨rfl, K1⟩
end
end Go.Proofs.Ytofkacfchkimiaa
