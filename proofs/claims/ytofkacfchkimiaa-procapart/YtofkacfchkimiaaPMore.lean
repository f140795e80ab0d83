/-
  proc: Start that is refused; Suspend, Resume, Lock, Unlock.
-/
import Derived.Test.YtofkacfchkimiaaPStart
namespace Go.Proofs.Ytofkacfchkimiaa
open Go.RowKit Plain
set_option linter.unusedVariables false
set_option maxRecDepth 100000

/-- the lock given -/
def Tt.sLk (T : Tt) (x : Int) : Tt := { T with lk := x }
section
variable {b g cap : Nat} {T : Tt}
theorem start_not (w : World) (h : Tw w b g cap T) {i : Nat} (hi : i < T.n) (hn : T.n ≤ 1048576) (hs : (T.ps i).st ≠ 0) (now x y z : Int) :
    Calls Try.prog 10 #[.pointer (some ⟨b, 0, none⟩), .int .i64 ((i : Int) + 1), .int .i64 now, .agg #[.int .i64 x, .int .i64 y, .int .i64 z]] w fun e w' => e = .returned (.bool false) ∧ Kept No w w' := by
  have k1 : Kept No w (w.alloc (.cells #[.int .i64 x, .int .i64 y, .int .i64 z] 41)) := (Kept.refl No w).alloc _
  have t1 := h.keep k1
  have fi := find_yes _ t1 hi hn
  have c0 : (w.alloc (.cells #[.int .i64 x, .int .i64 y, .int .i64 z] 41)).cell? ⟨g, i * 32, none⟩ = some (.int .i64 (T.ps i).st) := t1.at' i hi 0 (by omega)
  have hs' : ((T.ps i).st != 0) = true := by simp [hs]
  have HK : Hid (Kept No w (w.alloc (.cells #[.int .i64 x, .int .i64 y, .int .i64 z] 41))) := k1
  clear h t1 k1
  generalize (T.ps i).st = st at *
  go_enter Try.func10, Try.ntmps10
  go_wp2_with (go_at_call 34; refine fi.mono ?_; rintro e w1 ⟨rfl, e1⟩; subst e1; clear fi)
  go_ret
  exact ⟨rfl, HK.out⟩
theorem start_no (w : World) (h : Tw w b g cap T) {p : Int} (hp : p < 1 ∨ (T.n : Int) < p) (hn : T.n ≤ 1048576) (now x y z : Int) :
    Calls Try.prog 10 #[.pointer (some ⟨b, 0, none⟩), .int .i64 p, .int .i64 now, .agg #[.int .i64 x, .int .i64 y, .int .i64 z]] w fun e w' => e = .returned (.bool false) ∧ Kept No w w' := by
  have k1 : Kept No w (w.alloc (.cells #[.int .i64 x, .int .i64 y, .int .i64 z] 41)) := (Kept.refl No w).alloc _
  have fi := find_no _ (h.keep k1) hp hn
  have HK : Hid (Kept No w (w.alloc (.cells #[.int .i64 x, .int .i64 y, .int .i64 z] 41))) := k1
  clear h k1
  go_enter Try.func10, Try.ntmps10
  go_wp2_with (go_at_call 34; refine fi.mono ?_; rintro e w1 ⟨rfl, e1⟩; subst e1; clear fi)
  go_ret
  exact ⟨rfl, HK.out⟩
theorem suspend_yes (w : World) (h : Tw w b g cap T) {i : Nat} (hi : i < T.n) (hn : T.n ≤ 1048576) (hr : Rm T.pl) (hs : (T.ps i).st = 1) (hk : T.lk ≠ (i : Int) + 1) (hp : ¬ 0 < (T.ps i).per) :
    Calls Try.prog 55 #[.pointer (some ⟨b, 0, none⟩), .int .i64 ((i : Int) + 1)] w fun e w' => e = .returned (.bool true) ∧ Tw w' b g cap (T.enter i 10) ∧ Kept (Bg b g) w w' := by
  have fi := free_yes w h hi hn hs hk
  have pe := periodic_any w h hi
  rw [show decide (0 < (T.ps i).per) = false by simp [hp]] at pe
  have en := enter_tw w h hi hr 10
  clear h
  go_enter Try.func55, Try.ntmps55
  go_wp2_with (first
    | (go_at_call 37; refine fi.mono ?_; rintro e w' ⟨rfl, rfl⟩; clear fi)
    | (go_at_call 47; refine pe.mono ?_; rintro e w' ⟨rfl, rfl⟩; clear pe)
    | (go_at_call 39; refine en.mono ?_; rintro e w1 ⟨⟨v, rfl⟩, t1, k1⟩; have T1 := t1; have K1 := k1; clear t1 k1 en))
  go_ret
  exact ⟨rfl, T1, K1⟩
theorem suspend_per (w : World) (h : Tw w b g cap T) {i : Nat} (hi : i < T.n) (hn : T.n ≤ 1048576) (hs : (T.ps i).st = 1) (hk : T.lk ≠ (i : Int) + 1) (hp : 0 < (T.ps i).per) :
    Calls Try.prog 55 #[.pointer (some ⟨b, 0, none⟩), .int .i64 ((i : Int) + 1)] w fun e w' => e = .returned (.bool false) ∧ w' = w := by
  have fi := free_yes w h hi hn hs hk
  have pe := periodic_any w h hi
  rw [show decide (0 < (T.ps i).per) = true by simp [hp]] at pe
  clear h
  go_enter Try.func55, Try.ntmps55
  go_wp2_with (first
    | (go_at_call 37; refine fi.mono ?_; rintro e w' ⟨rfl, rfl⟩; clear fi)
    | (go_at_call 47; refine pe.mono ?_; rintro e w' ⟨rfl, rfl⟩; clear pe))
  go_ret
  exact ⟨rfl, rfl⟩
theorem suspend_free {v : Value} (w : World) (fi : Calls Try.prog 37 #[.pointer (some ⟨b, 0, none⟩), v] w fun e w' => e = .returned (.pointer none) ∧ w' = w) :
    Calls Try.prog 55 #[.pointer (some ⟨b, 0, none⟩), v] w fun e w' => e = .returned (.bool false) ∧ w' = w := by
  go_enter Try.func55, Try.ntmps55
  go_wp2_with (go_at_call 37; refine fi.mono ?_; rintro e w' ⟨rfl, rfl⟩; clear fi)
  go_ret
  exact ⟨rfl, rfl⟩
theorem resume_yes (w : World) (h : Tw w b g cap T) {i : Nat} (hi : i < T.n) (hn : T.n ≤ 1048576) (hr : Rm T.pl) (hs : (T.ps i).st = 10) :
    Calls Try.prog 56 #[.pointer (some ⟨b, 0, none⟩), .int .i64 ((i : Int) + 1)] w fun e w' => e = .returned (.bool true) ∧ Tw w' b g cap (T.enter i 1) ∧ Kept (Bg b g) w w' := by
  have fi := find_yes w h hi hn
  have c0 : w.cell? ⟨g, i * 32, none⟩ = some (.int .i64 (T.ps i).st) := h.at' i hi 0 (by omega)
  rw [hs] at c0
  have en := enter_tw w h hi hr 1
  clear h
  go_enter Try.func56, Try.ntmps56
  go_wp2_with (first
    | (go_at_call 34; refine fi.mono ?_; rintro e w' ⟨rfl, rfl⟩; clear fi)
    | (go_at_call 39; refine en.mono ?_; rintro e w1 ⟨⟨v, rfl⟩, t1, k1⟩; have T1 := t1; have K1 := k1; clear t1 k1 en))
  go_ret
  exact ⟨rfl, T1, K1⟩
theorem resume_not (w : World) (h : Tw w b g cap T) {i : Nat} (hi : i < T.n) (hn : T.n ≤ 1048576) (hs : (T.ps i).st ≠ 10) :
    Calls Try.prog 56 #[.pointer (some ⟨b, 0, none⟩), .int .i64 ((i : Int) + 1)] w fun e w' => e = .returned (.bool false) ∧ w' = w := by
  have fi := find_yes w h hi hn
  have c0 : w.cell? ⟨g, i * 32, none⟩ = some (.int .i64 (T.ps i).st) := h.at' i hi 0 (by omega)
  have hs' : ((T.ps i).st != 10) = true := by simp [hs]
  clear h
  generalize (T.ps i).st = st at *
  go_enter Try.func56, Try.ntmps56
  go_wp2_with (go_at_call 34; refine fi.mono ?_; rintro e w' ⟨rfl, rfl⟩; clear fi)
  go_ret
  exact ⟨rfl, rfl⟩
theorem resume_no (w : World) (h : Tw w b g cap T) {p : Int} (hp : p < 1 ∨ (T.n : Int) < p) (hn : T.n ≤ 1048576) :
    Calls Try.prog 56 #[.pointer (some ⟨b, 0, none⟩), .int .i64 p] w fun e w' => e = .returned (.bool false) ∧ w' = w := by
  have fi := find_no w h hp hn
  clear h
  go_enter Try.func56, Try.ntmps56
  go_wp2_with (go_at_call 34; refine fi.mono ?_; rintro e w' ⟨rfl, rfl⟩; clear fi)
  go_ret
  exact ⟨rfl, rfl⟩
theorem lock_yes (w : World) (h : Tw w b g cap T) {i : Nat} (hi : i < T.n) (hn : T.n ≤ 1048576) (hs : (T.ps i).st = 1) (hh : T.hd ≠ (i : Int) + 1) (hk : T.lk = 0) :
    Calls Try.prog 57 #[.pointer (some ⟨b, 0, none⟩), .int .i64 ((i : Int) + 1)] w fun e w' => e = .returned (.bool true) ∧ Tw w' b g cap (T.sLk ((i : Int) + 1)) ∧ Kept (Bg b g) w w' := by
  have fi := ready_yes w h hi hn hs
  have ch := h.hd
  have ck := h.lk
  rw [hk] at ck
  have fk := h.fb 3
  have H : Hid (Tw w b g cap T) := h
  clear h
  have hh' : (((i : Int) + 1) == T.hd) = false := by simp; exact fun e => hh e.symm
  go_enter Try.func57, Try.ntmps57
  go_wp2_with (go_at_call 49; refine fi.mono ?_; rintro e w1 ⟨rfl, e1⟩; subst e1; clear fi)
  go_ret
  exact ⟨rfl, H.out.setLk _, (Kept.refl _ _).setCell (.inl (.inl rfl)) _⟩
theorem lock_not (w : World) (h : Tw w b g cap T) {i : Nat} (hi : i < T.n) (hn : T.n ≤ 1048576) (hs : (T.ps i).st = 1) (hb : T.hd = (i : Int) + 1 ∨ T.lk ≠ 0) :
    Calls Try.prog 57 #[.pointer (some ⟨b, 0, none⟩), .int .i64 ((i : Int) + 1)] w fun e w' => e = .returned (.bool false) ∧ w' = w := by
  have fi := ready_yes w h hi hn hs
  have ch := h.hd
  have ck := h.lk
  clear h
  by_cases h1 : T.hd = (i : Int) + 1
  · rw [h1] at ch
    clear hb h1 ck
    go_enter Try.func57, Try.ntmps57
    go_wp2_with (go_at_call 49; refine fi.mono ?_; rintro e w1 ⟨rfl, e1⟩; subst e1; clear fi)
    go_ret
    exact ⟨rfl, rfl⟩
  · have h2 : T.lk ≠ 0 := hb.resolve_left h1
    have hh' : (((i : Int) + 1) == T.hd) = false := by simp; exact fun e => h1 e.symm
    have hk' : (T.lk != 0) = true := by simp [h2]
    clear hb h1 h2
    generalize T.hd = x at ch hh'
    generalize T.lk = y at ck hk'
    go_enter Try.func57, Try.ntmps57
    go_wp2_with (go_at_call 49; refine fi.mono ?_; rintro e w1 ⟨rfl, e1⟩; subst e1; clear fi)
    go_ret
    exact ⟨rfl, rfl⟩
theorem lock_no {v : Value} (w : World) (fi : Calls Try.prog 49 #[.pointer (some ⟨b, 0, none⟩), v] w fun e w' => e = .returned (.pointer none) ∧ w' = w) :
    Calls Try.prog 57 #[.pointer (some ⟨b, 0, none⟩), v] w fun e w' => e = .returned (.bool false) ∧ w' = w := by
  go_enter Try.func57, Try.ntmps57
  go_wp2_with (go_at_call 49; refine fi.mono ?_; rintro e w1 ⟨rfl, e1⟩; subst e1; clear fi)
  go_ret
  exact ⟨rfl, rfl⟩
theorem unlock_yes (w : World) (h : Tw w b g cap T) {i : Nat} (hi : i < T.n) (hn : T.n ≤ 1048576) (hk : T.lk = (i : Int) + 1) :
    Calls Try.prog 58 #[.pointer (some ⟨b, 0, none⟩), .int .i64 ((i : Int) + 1)] w fun e w' => e = .returned (.bool true) ∧ Tw w' b g cap (T.sLk 0) ∧ Kept (Bg b g) w w' := by
  have fi := find_yes w h hi hn
  have ck := h.lk
  rw [hk] at ck
  have fk := h.fb 3
  have H : Hid (Tw w b g cap T) := h
  clear h
  go_enter Try.func58, Try.ntmps58
  go_wp2_with (go_at_call 34; refine fi.mono ?_; rintro e w1 ⟨rfl, e1⟩; subst e1; clear fi)
  go_ret
  exact ⟨rfl, H.out.setLk _, (Kept.refl _ _).setCell (.inl (.inl rfl)) _⟩
theorem unlock_not (w : World) (h : Tw w b g cap T) {i : Nat} (hi : i < T.n) (hn : T.n ≤ 1048576) (hk : T.lk ≠ (i : Int) + 1) :
    Calls Try.prog 58 #[.pointer (some ⟨b, 0, none⟩), .int .i64 ((i : Int) + 1)] w fun e w' => e = .returned (.bool false) ∧ w' = w := by
  have fi := find_yes w h hi hn
  have ck := h.lk
  clear h
  have hk' : (T.lk != (i : Int) + 1) = true := by simp [hk]
  generalize T.lk = y at ck hk'
  go_enter Try.func58, Try.ntmps58
  go_wp2_with (go_at_call 34; refine fi.mono ?_; rintro e w1 ⟨rfl, e1⟩; subst e1; clear fi)
  go_ret
  exact ⟨rfl, rfl⟩
theorem unlock_no (w : World) (h : Tw w b g cap T) {p : Int} (hp : p < 1 ∨ (T.n : Int) < p) (hn : T.n ≤ 1048576) :
    Calls Try.prog 58 #[.pointer (some ⟨b, 0, none⟩), .int .i64 p] w fun e w' => e = .returned (.bool false) ∧ w' = w := by
  have fi := find_no w h hp hn
  clear h
  go_enter Try.func58, Try.ntmps58
  go_wp2_with (go_at_call 34; refine fi.mono ?_; rintro e w1 ⟨rfl, e1⟩; subst e1; clear fi)
  go_ret
  exact ⟨rfl, rfl⟩
end
end Go.Proofs.Ytofkacfchkimiaa
