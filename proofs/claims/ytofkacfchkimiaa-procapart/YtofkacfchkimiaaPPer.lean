/-
  proc: Period.
-/
import Derived.Test.YtofkacfchkimiaaPWait
import Derived.Deep.QuietTactic
namespace Go.Proofs.Ytofkacfchkimiaa
open Go.RowKit Plain
set_option linter.unusedVariables false
set_option maxRecDepth 100000

/-- the least release above a tick -/
def Pr.above (p : Pr) (now : Int) : Int := if nextB p.rel p.per (now + 1) && isT (nextV p.rel p.per (now + 1)) then nextV p.rel p.per (now + 1) else -1
section
variable {b g cap : Nat} {T : Tt}
theorem above_any (w : World) (h : Tw w b g cap T) {i : Nat} (hi : i < T.n) (now : Int) (h1 : I64 (T.ps i).rel) (h2 : I64 (T.ps i).per) (h3 : 0 ≤ now ∧ now < 1099511627776) :
    Calls Try.prog 48 #[.pointer (some ⟨g, i * 32, none⟩), .int .i64 now] w fun e w' => e = .returned (.int .i64 ((T.ps i).above now)) ∧ ∃ q, w' = w.drewN q := by
  have c20 : w.cell? ⟨g, i * 32 + 20, none⟩ = some (.int .i64 (T.ps i).rel) := h.at' i hi 20 (by omega)
  have c30 : w.cell? ⟨g, i * 32 + 30, none⟩ = some (.int .i64 (T.ps i).per) := h.at' i hi 30 (by omega)
  have nx : Hid (∀ W, Calls Try.prog 70 #[.int .i64 (T.ps i).rel, .int .i64 (T.ps i).per, .int .i64 (now + 1)] W fun e w' => e = .returned (.tuple #[.int .i64 (nextV (T.ps i).rel (T.ps i).per (now + 1)), .bool (nextB (T.ps i).rel (T.ps i).per (now + 1))]) ∧ w' = W) := fun W => next_any _ _ _ W h1 h2 (by unfold I64; omega)
  have HQ : Hid ((T.ps i).above now = if nextB (T.ps i).rel (T.ps i).per (now + 1) && isT (nextV (T.ps i).rel (T.ps i).per (now + 1)) then nextV (T.ps i).rel (T.ps i).per (now + 1) else -1) := rfl
  clear h h1 h2
  generalize (T.ps i).above now = V at *
  generalize nextV (T.ps i).rel (T.ps i).per (now + 1) = nv at *
  generalize nextB (T.ps i).rel (T.ps i).per (now + 1) = nb at *
  generalize (T.ps i).rel = xr at *
  generalize (T.ps i).per = xp at *
  have ti : Hid (∀ W, Calls Try.prog 35 #[.int .i64 nv] W fun e w' => e = .returned (.bool (isT nv)) ∧ w' = W) := fun W => isTick_any nv W
  generalize isT nv = tv at *
  go_enter Try.func48, Try.ntmps48
  go_upto_region 1 with fail
  go_quiet (exact Calls.quiet_of_same (nx.out _))
  cases nb with
  | false =>
    go_wp2
    go_ret
    exact ⟨by rw [HQ.out]; rfl, nq, rfl⟩
  | true =>
    cases tv with
    | false =>
      have ta := ti.out (w.drewN nq)
      go_wp2_with (go_at_call 35; refine ta.mono ?_; rintro e w' ⟨rfl, rfl⟩; clear ta)
      go_ret
      exact ⟨by rw [HQ.out]; rfl, nq, rfl⟩
    | true =>
      have ta := ti.out (w.drewN nq)
      go_wp2_with (go_at_call 35; refine ta.mono ?_; rintro e w' ⟨rfl, rfl⟩; clear ta)
      go_ret
      exact ⟨by rw [HQ.out]; rfl, nq, rfl⟩
/-- a job is done -/
def Tt.period (T : Tt) (i : Nat) (now : Int) : Tt := ((T.enter i 3).at i (Pr.sDl (-1))).at i (fun p => p.sUn (p.above now))
theorem period_free {v : Value} (w : World) (fi : Calls Try.prog 37 #[.pointer (some ⟨b, 0, none⟩), v] w fun e w' => e = .returned (.pointer none) ∧ w' = w) (now : Int) :
    Calls Try.prog 21 #[.pointer (some ⟨b, 0, none⟩), v, .int .i64 now] w fun e w' => e = .returned (.bool false) ∧ w' = w := by
  go_enter Try.func21, Try.ntmps21
  go_wp2_with (go_at_call 37; refine fi.mono ?_; rintro e w' ⟨rfl, rfl⟩; clear fi)
  go_ret
  exact ⟨rfl, rfl⟩
theorem period_bad {v : Value} (w : World) (h : Tw w b g cap T) {i : Nat} (hi : i < T.n) (fi : Calls Try.prog 37 #[.pointer (some ⟨b, 0, none⟩), v] w fun e w' => e = .returned (.pointer (some ⟨g, i * 32, none⟩)) ∧ w' = w) (now : Int) (hb : ¬ (0 < (T.ps i).per) ∨ isT now = false ∨ now < (T.ps i).rel) :
    Calls Try.prog 21 #[.pointer (some ⟨b, 0, none⟩), v, .int .i64 now] w fun e w' => e = .returned (.bool false) ∧ w' = w := by
  have pe := periodic_any w h hi
  have c20 : w.cell? ⟨g, i * 32 + 20, none⟩ = some (.int .i64 (T.ps i).rel) := h.at' i hi 20 (by omega)
  have ti : Calls Try.prog 35 #[.int .i64 now] w fun e w' => e = .returned (.bool (isT now)) ∧ w' = w := isTick_any now w
  clear h
  generalize (T.ps i).rel = xr at *
  generalize (T.ps i).per = xp at *
  by_cases h1 : 0 < xp
  · rw [show decide (0 < xp) = true by simp [h1]] at pe
    cases h2 : isT now with
    | false =>
      rw [h2] at ti
      clear hb h1 h2
      go_enter Try.func21, Try.ntmps21
      go_wp2_with (first
        | (go_at_call 37; refine fi.mono ?_; rintro e w' ⟨rfl, rfl⟩; clear fi)
        | (go_at_call 47; refine pe.mono ?_; rintro e w' ⟨rfl, rfl⟩; clear pe)
        | (go_at_call 35; refine ti.mono ?_; rintro e w' ⟨rfl, rfl⟩; clear ti))
      go_ret
      exact ⟨rfl, rfl⟩
    | true =>
      rw [h2] at ti hb
      have h3 : now < xr := by rcases hb with h | h | h; exact (h h1).elim; cases h; exact h
      clear hb h1 h2
      go_enter Try.func21, Try.ntmps21
      go_wp2_with (first
        | (go_at_call 37; refine fi.mono ?_; rintro e w' ⟨rfl, rfl⟩; clear fi)
        | (go_at_call 47; refine pe.mono ?_; rintro e w' ⟨rfl, rfl⟩; clear pe)
        | (go_at_call 35; refine ti.mono ?_; rintro e w' ⟨rfl, rfl⟩; clear ti))
      go_ret
      exact ⟨rfl, rfl⟩
  · rw [show decide (0 < xp) = false by simp [h1]] at pe
    clear hb h1
    go_enter Try.func21, Try.ntmps21
    go_wp2_with (first
      | (go_at_call 37; refine fi.mono ?_; rintro e w' ⟨rfl, rfl⟩; clear fi)
      | (go_at_call 47; refine pe.mono ?_; rintro e w' ⟨rfl, rfl⟩; clear pe))
    go_ret
    exact ⟨rfl, rfl⟩
set_option maxHeartbeats 4000000 in
theorem period_yes (w : World) (h : Tw w b g cap T) {i : Nat} (hi : i < T.n) (hn : T.n ≤ 1048576) (hr : Rm T.pl) (hs : (T.ps i).st = 1) (hk : T.lk ≠ (i : Int) + 1) (now : Int) (hp : 0 < (T.ps i).per) (hnow : isT now = true) (hrel : (T.ps i).rel ≤ now) (h1 : I64 (T.ps i).rel) (h2 : I64 (T.ps i).per) :
    Calls Try.prog 21 #[.pointer (some ⟨b, 0, none⟩), .int .i64 ((i : Int) + 1), .int .i64 now] w fun e w' => e = .returned (.bool true) ∧ Tw w' b g cap (T.period i now) ∧ Kept (Bg b g) w w' := by
  have fi := free_yes w h hi hn hs hk
  have pe := periodic_any w h hi
  have c20 : w.cell? ⟨g, i * 32 + 20, none⟩ = some (.int .i64 (T.ps i).rel) := h.at' i hi 20 (by omega)
  have ti : Calls Try.prog 35 #[.int .i64 now] w fun e w' => e = .returned (.bool (isT now)) ∧ w' = w := isTick_any now w
  rw [hnow] at ti
  rw [show decide (0 < (T.ps i).per) = true by simp [hp]] at pe
  have hnow' : 0 ≤ now ∧ now < 1099511627776 := by simpa [isT] using hnow
  have en := enter_tw w h hi hr 3
  have HT : Hid (T.period i now = ((T.enter i 3).at i (Pr.sDl (-1))).at i (fun p => p.sUn (p.above now))) := rfl
  have hU1 : ((T.enter i 3).ps i).rel = (T.ps i).rel := by simp [Tt.enter, Tt.behind, Tt.at, Pr.sSt, Pr.sUn, Pr.sOb, Pr.sAd, Pr.sDa, Pr.sPl]
  have hU2 : ((T.enter i 3).ps i).per = (T.ps i).per := by simp [Tt.enter, Tt.behind, Tt.at, Pr.sSt, Pr.sUn, Pr.sOb, Pr.sAd, Pr.sDa, Pr.sPl]
  rw [← hU1] at h1
  rw [← hU2] at h2
  have hn2 : i < (T.enter i 3).n := hi
  generalize T.enter i 3 = U at *
  have HU : Hid (I64 (U.ps i).rel ∧ I64 (U.ps i).per ∧ 0 ≤ now ∧ now < 1099511627776) := ⟨h1, h2, hnow'⟩
  clear h h1 h2 hU1 hU2 hp hnow hnow' hs
  go_enter Try.func21, Try.ntmps21
  go_upto_region 5 with (first
    | (go_at_call 37; refine fi.mono ?_; rintro e w' ⟨rfl, rfl⟩; clear fi)
    | (go_at_call 47; refine pe.mono ?_; rintro e w' ⟨rfl, rfl⟩; clear pe)
    | (go_at_call 35; refine ti.mono ?_; rintro e w' ⟨rfl, rfl⟩; clear ti)
    | (go_at_call 39; refine en.mono ?_; rintro e w1 ⟨⟨v, rfl⟩, t1, k1⟩; clear en))
  clear c20
  have ab := above_any w1 t1 hn2 now HU.out.1 HU.out.2.1 HU.out.2.2
  have c21 : w1.cell? ⟨g, i * 32 + 21, none⟩ = some (.int .i64 (U.ps i).dl) := t1.at' i hn2 21 (by omega)
  have c22 : w1.cell? ⟨g, i * 32 + 22, none⟩ = some (.int .i64 (U.ps i).un) := t1.at' i hn2 22 (by omega)
  have f21 := t1.fg (i * 32 + 21)
  have f22 := t1.fg (i * 32 + 22)
  have HH : Hid (Tw w1 b g cap U ∧ Kept (Bg b g) w' w1) := ⟨t1, k1⟩
  obtain ⟨x, hx⟩ : ∃ x, (U.ps i).above now = x := ⟨_, rfl⟩
  have HX : Hid ((U.ps i).above now = x) := hx
  rw [hx] at ab
  clear t1 k1 hx
  generalize (U.ps i).dl = d0 at *
  generalize (U.ps i).un = u00 at *
  go_wp2_with (go_at_call 48; refine ab.mono ?_; rintro e w2 ⟨rfl, nq, rfl⟩; clear ab)
  go_ret
  have kd : Kept No w1 (w1.drewN nq) := (Kept.refl No w1).drewN nq
  refine ⟨rfl, ?_, (((HH.out.2.trans kd (fun _ e => e.elim)).setCell (.inl (.inr rfl)) _).setCell (.inl (.inr rfl)) _)⟩
  rw [HT.out]
  have t2 := (HH.out.1.keep kd).sDl hn2 (-1)
  have t3 := t2.sUn (show i < (U.at i (Pr.sDl (-1))).n from hn2) x
  have e3 : (U.at i (Pr.sDl (-1))).at i (Pr.sUn x) = (U.at i (Pr.sDl (-1))).at i (fun p => p.sUn (p.above now)) := by
    unfold Tt.at
    congr 1
    funext y
    by_cases hy : y = i
    · subst hy
      simp only [if_true]
      rw [← HX.out]
      rfl
    · simp only [if_neg hy]
  rw [e3] at t3
  exact t3
end
end Go.Proofs.Ytofkacfchkimiaa
