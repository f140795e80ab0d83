/-
  ProcTimers: what the table holds.
-/
import Derived.Test.YtofkacfchkimiaaPKnown
namespace Go.Proofs.Ytofkacfchkimiaa
open Go.RowKit Plain
set_option linter.unusedVariables false
set_option maxRecDepth 100000

def q0 : Ql := ⟨0, 0, 0, 0, 0, false⟩
/-- it is started -/
def tU : Tt := (T1 q0).start 0 0 9 9 9
/-- it waits -/
def tV (s u : Int) (v : Value) : Tt := tU.wait 0 s u 4 5 v [6]
theorem tU_st : (tU.ps 0).st = 1 := by kernel_rfl
theorem tU_lk : tU.lk ≠ ((0 : Nat) : Int) + 1 := by decide
theorem tU_pl : tU.pl = 2 := by kernel_rfl
theorem tU_n : tU.n = 1 := rfl
theorem tV_all (s u : Int) (v : Value) : (tV s u v).n = 1 ∧ (tV s u v).pl = 3 ∧ ((tV s u v).ps 0).st = s ∧ ((tV s u v).ps 0).un = u ∧ ((tV s u v).ps 0).dl = -1 ∧ ((tV s u v).ps 0).per = 0 ∧ ((tV s u v).ps 0).mis = 0 ∧ ((tV s u v).ps 0).rg 1 = 9 :=
  ⟨rfl, rfl, rfl, rfl, rfl, rfl, rfl, rfl⟩
theorem fw_wk {s : Int} (h : fw s = true) : (s != 0 && s != 1 && s != 3) = true ∧ s ≠ 0 ∧ s ≠ 3 := by
  have h' : s = 2 ∨ (4 ≤ s ∧ s ≤ 9) := by simpa [fw] using h
  refine ⟨?_, by omega, by omega⟩
  have h0 : s ≠ 0 := by omega
  have h1 : s ≠ 1 := by omega
  have h3 : s ≠ 3 := by omega
  simp [h0, h1, h3]
theorem tV_wk {s u : Int} {v : Value} (h : fw s = true) : ((tV s u v).ps 0).wk = true := (fw_wk h).1
theorem tV_tk {s u : Int} {v : Value} (h : fw s = true) : ((tV s u v).ps 0).tkD = -1 ∧ ((tV s u v).ps 0).tkR = -1 ∧ ((tV s u v).ps 0).tkW = u := by
  obtain ⟨_, _, e1, e2, e3, e4, _, _⟩ := tV_all s u v
  have := fw_wk h
  refine ⟨?_, ?_, ?_⟩
  · unfold Pr.tkD; rw [e1, if_neg this.2.1, e3]
  · unfold Pr.tkR; rw [e1, if_neg this.2.1, if_neg this.2.2, e4, if_neg (by omega)]
  · unfold Pr.tkW; rw [tV_wk h, e2]; rfl
theorem tV_due1 {s u : Int} {v : Value} (h : fw s = true) (now : Int) : ((tV s u v).ps 0).due 1 now = false := by
  unfold Pr.due Pr.tk
  rw [if_pos rfl, (tV_tk h).1]
  by_cases hx : now = -1
  · subst hx; rfl
  · have : ((-1 : Int) == now) = false := by simp; omega
    rw [this, Bool.and_false]
theorem tV_due2 {s u : Int} {v : Value} (h : fw s = true) (now : Int) : ((tV s u v).ps 0).due 2 now = false := by
  unfold Pr.due Pr.tk
  rw [if_neg (by decide), if_pos rfl, (tV_tk h).2.1]
  by_cases hx : now = -1
  · subst hx; rfl
  · have : ((-1 : Int) == now) = false := by simp; omega
    rw [this, Bool.and_false]
theorem tV_due3 {s u : Int} {v : Value} (h : fw s = true) (now : Int) : ((tV s u v).ps 0).due 3 now = (now != -1 && u == now) := by
  unfold Pr.due Pr.tk
  rw [if_neg (by decide), if_neg (by decide), if_pos rfl, (tV_tk h).2.2]
theorem tV_next {s u : Int} {v : Value} (h : fw s = true) (now : Int) : nout now (tV s u v).ps 1 = nstep now (-1) u := by
  obtain ⟨h1, h2, h3⟩ := tV_tk (u := u) (v := v) h
  show nstep now (nstep now (nstep now (-1) ((tV s u v).ps 0).tkD) ((tV s u v).ps 0).tkR) ((tV s u v).ps 0).tkW = _
  rw [h1, h2, h3]
  rfl
/-- it goes on -/
def tZ (s u : Int) (v : Value) (r : Int) : Tt := (tV s u v).rouse 0 r
theorem tZ_all (s u : Int) (v : Value) (r : Int) : (tZ s u v r).n = 1 ∧ ((tZ s u v r).ps 0).st = 1 ∧ ((tZ s u v r).ps 0).rg 0 = r ∧ ((tZ s u v r).ps 0).rg 1 = 9 ∧ ((tZ s u v r).ps 0).un = -1 ∧ ((tZ s u v r).ps 0).ws = [] ∧ ((tZ s u v r).ps 0).wk = false :=
  ⟨rfl, rfl, rfl, rfl, rfl, rfl, rfl⟩
theorem tZ_next (s u : Int) (v : Value) (r : Int) : nout (-1) (tZ s u v r).ps 1 = -1 := by kernel_rfl
theorem tV_fire {s u : Int} {v : Value} (now : Int) : (tV s u v).fire 0 3 now = tZ s u v (if s = 2 then 0 else 4) := rfl
end Go.Proofs.Ytofkacfchkimiaa
