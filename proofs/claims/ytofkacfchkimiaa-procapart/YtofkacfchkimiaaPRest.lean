/-
  The calls that are refused and that PMore does not state: Start at no tick, Stop, SetPriority, Set.
-/
import Derived.Test.YtofkacfchkimiaaPMore
import Derived.Test.YtofkacfchkimiaaPStop
import Derived.Test.YtofkacfchkimiaaPPrio
namespace Go.Proofs.Ytofkacfchkimiaa
open Go.RowKit
set_option linter.unusedVariables false
set_option maxRecDepth 100000
section
variable {b g cap : Nat} {T : Tt}
theorem start_bad (w : World) (h : Tw w b g cap T) {i : Nat} (hi : i < T.n) (hn : T.n ≤ 1048576) (hs : (T.ps i).st = 0) (now x y z : Int) (hnow : isT now = false) :
    Calls Try.prog 10 #[.pointer (some ⟨b, 0, none⟩), .int .i64 ((i : Int) + 1), .int .i64 now, .agg #[.int .i64 x, .int .i64 y, .int .i64 z]] w fun e w' => e = .returned (.bool false) ∧ Kept No w w' := by
  have k1 : Kept No w (w.alloc (.cells #[.int .i64 x, .int .i64 y, .int .i64 z] 41)) := (Kept.refl No w).alloc _
  have t1 := h.keep k1
  have fi := find_yes _ t1 hi hn
  have ti : Calls Try.prog 35 #[.int .i64 now] (w.alloc (.cells #[.int .i64 x, .int .i64 y, .int .i64 z] 41)) fun e w' => e = .returned (.bool (isT now)) ∧ w' = _ := isTick_any now _
  rw [hnow] at ti
  have c0 : (w.alloc (.cells #[.int .i64 x, .int .i64 y, .int .i64 z] 41)).cell? ⟨g, i * 32, none⟩ = some (.int .i64 (T.ps i).st) := t1.at' i hi 0 (by omega)
  rw [hs] at c0
  have HK : Hid (Kept No w (w.alloc (.cells #[.int .i64 x, .int .i64 y, .int .i64 z] 41))) := k1
  clear h t1 k1 hs hnow
  go_enter Try.func10, Try.ntmps10
  go_wp2_with (first
    | (go_at_call 34; refine fi.mono ?_; rintro e w1 ⟨rfl, e1⟩; subst e1; clear fi)
    | (go_at_call 35; refine ti.mono ?_; rintro e w1 ⟨rfl, e1⟩; subst e1; clear ti))
  go_ret
  exact ⟨rfl, HK.out⟩
theorem stop_not (w : World) (h : Tw w b g cap T) {i : Nat} (hi : i < T.n) (hn : T.n ≤ 1048576) (hs : (T.ps i).st = 0) :
    Calls Try.prog 54 #[.pointer (some ⟨b, 0, none⟩), .int .i64 ((i : Int) + 1)] w fun e w' => e = .returned (.bool false) ∧ Kept No w w' := by
  have fi := find_yes w h hi hn
  have c0 : w.cell? ⟨g, i * 32, none⟩ = some (.int .i64 (T.ps i).st) := h.at' i hi 0 (by omega)
  rw [hs] at c0
  clear h hs
  go_enter Try.func54, Try.ntmps54
  go_wp2_with (go_at_call 34; refine fi.mono ?_; rintro e w1 ⟨rfl, e1⟩; subst e1; clear fi)
  go_ret
  exact ⟨rfl, Kept.refl _ _⟩
theorem stop_no (w : World) (h : Tw w b g cap T) {p : Int} (hp : p < 1 ∨ (T.n : Int) < p) (hn : T.n ≤ 1048576) :
    Calls Try.prog 54 #[.pointer (some ⟨b, 0, none⟩), .int .i64 p] w fun e w' => e = .returned (.bool false) ∧ Kept No w w' := by
  have fi := find_no w h hp hn
  clear h
  go_enter Try.func54, Try.ntmps54
  go_wp2_with (go_at_call 34; refine fi.mono ?_; rintro e w1 ⟨rfl, e1⟩; subst e1; clear fi)
  go_ret
  exact ⟨rfl, Kept.refl _ _⟩
theorem prio_no (w : World) (h : Tw w b g cap T) {p : Int} (hp : p < 1 ∨ (T.n : Int) < p) (hn : T.n ≤ 1048576) (x : Int) :
    Calls Try.prog 59 #[.pointer (some ⟨b, 0, none⟩), .int .i64 p, .int .i64 x] w fun e w' => e = .returned (.bool false) ∧ Kept No w w' := by
  have fi := find_no w h hp hn
  clear h
  go_enter Try.func59, Try.ntmps59
  go_wp2_with (go_at_call 34; refine fi.mono ?_; rintro e w1 ⟨rfl, e1⟩; subst e1; clear fi)
  go_ret
  exact ⟨rfl, Kept.refl _ _⟩
theorem prio_not (w : World) (h : Tw w b g cap T) {i : Nat} (hi : i < T.n) (hn : T.n ≤ 1048576) (x : Int) (hb : (T.ps i).st = 0 ∨ x < 0 ∨ 255 < x) :
    Calls Try.prog 59 #[.pointer (some ⟨b, 0, none⟩), .int .i64 ((i : Int) + 1), .int .i64 x] w fun e w' => e = .returned (.bool false) ∧ Kept No w w' := by
  have fi := find_yes w h hi hn
  have c0 : w.cell? ⟨g, i * 32, none⟩ = some (.int .i64 (T.ps i).st) := h.at' i hi 0 (by omega)
  clear h
  generalize (T.ps i).st = st at *
  by_cases h0 : st = 0
  · subst h0
    clear hb
    go_enter Try.func59, Try.ntmps59
    go_wp2_with (go_at_call 34; refine fi.mono ?_; rintro e w1 ⟨rfl, e1⟩; subst e1; clear fi)
    go_ret
    exact ⟨rfl, Kept.refl _ _⟩
  · have h0' : (st == 0) = false := by simp [h0]
    by_cases h1 : x < 0
    · clear hb
      go_enter Try.func59, Try.ntmps59
      go_wp2_with (go_at_call 34; refine fi.mono ?_; rintro e w1 ⟨rfl, e1⟩; subst e1; clear fi)
      go_ret
      exact ⟨rfl, Kept.refl _ _⟩
    · have h2 : 255 < x := by omega
      clear hb
      go_enter Try.func59, Try.ntmps59
      go_wp2_with (go_at_call 34; refine fi.mono ?_; rintro e w1 ⟨rfl, e1⟩; subst e1; clear fi)
      go_ret
      exact ⟨rfl, Kept.refl _ _⟩
end
end Go.Proofs.Ytofkacfchkimiaa
