/-
  proc: find, findReady, findFree, and what is asked of a process.
-/
import Derived.Test.YtofkacfchkimiaaPSmall
import Derived.BigQuiet
import Derived.Deep.RegionWith
namespace Go.Proofs.Ytofkacfchkimiaa
open Go.RowKit Plain
set_option linter.unusedVariables false
set_option maxRecDepth 100000

section
variable {b g cap : Nat} {T : Tt}
theorem find_yes (w : World) (h : Tw w b g cap T) {i : Nat} (hi : i < T.n) (hn : T.n ≤ 1048576) :
    Calls Try.prog 34 #[.pointer (some ⟨b, 0, none⟩), .int .i64 ((i : Int) + 1)] w fun e w' => e = .returned (.pointer (some ⟨g, i * 32, none⟩)) ∧ w' = w := by
  have hb := h.box
  have hc := h.hcap
  have hm := h.hmax
  clear h
  go_enter Try.func34, Try.ntmps34
  go_wp2
  go_ret
  exact ⟨rfl, rfl⟩
theorem find_no (w : World) (h : Tw w b g cap T) {p : Int} (hp : p < 1 ∨ (T.n : Int) < p) (hn : T.n ≤ 1048576) :
    Calls Try.prog 34 #[.pointer (some ⟨b, 0, none⟩), .int .i64 p] w fun e w' => e = .returned (.pointer none) ∧ w' = w := by
  have hb := h.box
  have hc := h.hcap
  have hm := h.hmax
  clear h
  by_cases h1 : p < 1
  · go_enter Try.func34, Try.ntmps34
    go_wp2
    go_ret
    exact ⟨rfl, rfl⟩
  · have h2 : (T.n : Int) < p := by omega
    go_enter Try.func34, Try.ntmps34
    go_wp2
    go_ret
    exact ⟨rfl, rfl⟩
theorem ready_yes (w : World) (h : Tw w b g cap T) {i : Nat} (hi : i < T.n) (hn : T.n ≤ 1048576) (hs : (T.ps i).st = 1) :
    Calls Try.prog 49 #[.pointer (some ⟨b, 0, none⟩), .int .i64 ((i : Int) + 1)] w fun e w' => e = .returned (.pointer (some ⟨g, i * 32, none⟩)) ∧ w' = w := by
  have c0 : w.cell? ⟨g, i * 32, none⟩ = some (.int .i64 (T.ps i).st) := h.at' i hi 0 (by omega)
  rw [hs] at c0
  have fi := find_yes w h hi hn
  clear h
  go_enter Try.func49, Try.ntmps49
  go_wp2_with (go_at_call 34; refine fi.mono ?_; rintro e w' ⟨rfl, rfl⟩)
  go_ret
  exact ⟨rfl, rfl⟩
theorem ready_not (w : World) (h : Tw w b g cap T) {i : Nat} (hi : i < T.n) (hn : T.n ≤ 1048576) (hs : (T.ps i).st ≠ 1) :
    Calls Try.prog 49 #[.pointer (some ⟨b, 0, none⟩), .int .i64 ((i : Int) + 1)] w fun e w' => e = .returned (.pointer none) ∧ w' = w := by
  have c0 : w.cell? ⟨g, i * 32, none⟩ = some (.int .i64 (T.ps i).st) := h.at' i hi 0 (by omega)
  have fi := find_yes w h hi hn
  clear h
  generalize (T.ps i).st = s at *
  go_enter Try.func49, Try.ntmps49
  go_wp2_with (go_at_call 34; refine fi.mono ?_; rintro e w' ⟨rfl, rfl⟩)
  go_ret
  exact ⟨rfl, rfl⟩
theorem ready_no (w : World) (h : Tw w b g cap T) {p : Int} (hp : p < 1 ∨ (T.n : Int) < p) (hn : T.n ≤ 1048576) :
    Calls Try.prog 49 #[.pointer (some ⟨b, 0, none⟩), .int .i64 p] w fun e w' => e = .returned (.pointer none) ∧ w' = w := by
  have fi := find_no w h hp hn
  clear h
  go_enter Try.func49, Try.ntmps49
  go_wp2_with (go_at_call 34; refine fi.mono ?_; rintro e w' ⟨rfl, rfl⟩)
  go_ret
  exact ⟨rfl, rfl⟩
theorem free_yes (w : World) (h : Tw w b g cap T) {i : Nat} (hi : i < T.n) (hn : T.n ≤ 1048576) (hs : (T.ps i).st = 1) (hk : T.lk ≠ (i : Int) + 1) :
    Calls Try.prog 37 #[.pointer (some ⟨b, 0, none⟩), .int .i64 ((i : Int) + 1)] w fun e w' => e = .returned (.pointer (some ⟨g, i * 32, none⟩)) ∧ w' = w := by
  have c0 := h.lk
  have fi := ready_yes w h hi hn hs
  clear h
  generalize T.lk = s at *
  go_enter Try.func37, Try.ntmps37
  go_wp2_with (go_at_call 49; refine fi.mono ?_; rintro e w' ⟨rfl, rfl⟩)
  go_ret
  exact ⟨rfl, rfl⟩
theorem free_held (w : World) (h : Tw w b g cap T) {i : Nat} (hi : i < T.n) (hn : T.n ≤ 1048576) (hs : (T.ps i).st = 1) (hk : T.lk = (i : Int) + 1) :
    Calls Try.prog 37 #[.pointer (some ⟨b, 0, none⟩), .int .i64 ((i : Int) + 1)] w fun e w' => e = .returned (.pointer none) ∧ w' = w := by
  have c0 := h.lk
  rw [hk] at c0
  have fi := ready_yes w h hi hn hs
  clear h
  go_enter Try.func37, Try.ntmps37
  go_wp2_with (go_at_call 49; refine fi.mono ?_; rintro e w' ⟨rfl, rfl⟩)
  go_ret
  exact ⟨rfl, rfl⟩
theorem free_no {v : Value} (w : World) (fi : Calls Try.prog 49 #[.pointer (some ⟨b, 0, none⟩), v] w fun e w' => e = .returned (.pointer none) ∧ w' = w) :
    Calls Try.prog 37 #[.pointer (some ⟨b, 0, none⟩), v] w fun e w' => e = .returned (.pointer none) ∧ w' = w := by
  go_enter Try.func37, Try.ntmps37
  go_wp2_with (go_at_call 49; refine fi.mono ?_; rintro e w' ⟨rfl, rfl⟩)
  go_ret
  exact ⟨rfl, rfl⟩
theorem periodic_any (w : World) (h : Tw w b g cap T) {i : Nat} (hi : i < T.n) :
    Calls Try.prog 47 #[.pointer (some ⟨g, i * 32, none⟩)] w fun e w' => e = .returned (.bool (decide (0 < (T.ps i).per))) ∧ w' = w := by
  have c0 : w.cell? ⟨g, i * 32 + 30, none⟩ = some (.int .i64 (T.ps i).per) := h.at' i hi 30 (by omega)
  clear h
  generalize (T.ps i).per = s at *
  go_enter Try.func47, Try.ntmps47
  go_wp2
  go_ret
  exact ⟨rfl, rfl⟩
/-- it waits for something else than its next release -/
def Pr.wk (p : Pr) : Bool := p.st != 0 && p.st != 1 && p.st != 3
theorem wakeable_any (w : World) (h : Tw w b g cap T) {i : Nat} (hi : i < T.n) :
    Calls Try.prog 43 #[.pointer (some ⟨g, i * 32, none⟩)] w fun e w' => e = .returned (.bool (T.ps i).wk) ∧ w' = w := by
  have c0 : w.cell? ⟨g, i * 32, none⟩ = some (.int .i64 (T.ps i).st) := h.at' i hi 0 (by omega)
  clear h
  unfold Pr.wk
  generalize (T.ps i).st = s at *
  by_cases h0 : s = 0
  · subst h0
    go_enter Try.func43, Try.ntmps43
    go_wp2
    go_ret
    exact ⟨rfl, rfl⟩
  · by_cases h1 : s = 1
    · subst h1
      go_enter Try.func43, Try.ntmps43
      go_wp2
      go_ret
      exact ⟨rfl, rfl⟩
    · by_cases h3 : s = 3
      · subst h3
        go_enter Try.func43, Try.ntmps43
        go_wp2
        go_ret
        exact ⟨rfl, rfl⟩
      · go_enter Try.func43, Try.ntmps43
        go_wp2
        go_ret
        exact ⟨rfl, rfl⟩
end
end Go.Proofs.Ytofkacfchkimiaa
