/-
  ProcJobs: the walk.
-/
import Derived.Test.YtofkacfchkimiaaPJobM
namespace Go.Proofs.Ytofkacfchkimiaa
open Go.RowKit Plain
set_option linter.unusedVariables false
set_option maxRecDepth 100000

/-- a script that is read -/
structure Js (w : World) (F : Nat → Prop) (a : Option Addr) (n c : Nat) (gs : Nat → Int) (ds : Nat → Bool) : Prop where
  cap : n ≤ c
  max : c ≤ 9223372036854775807
  at' : ∀ i, i < n → ∃ b o, a = some ⟨b, o, none⟩ ∧ F b ∧ w.cell? ⟨b, o + i * 2, none⟩ = some (.int .i64 (gs i)) ∧ w.cell? ⟨b, o + i * 2 + 1, none⟩ = some (.bool (ds i))
theorem above_is {per rel t : Int} {P : Pr} (hr : P.rel = rel) (hp : P.per = per) (h1 : 1 ≤ per) (h2 : per ≤ 200) (h0 : 0 ≤ rel) (h3 : rel ≤ t) (h4 : t ≤ 600000000000) : (P.above t - rel) % per = 0 ∧ t < P.above t ∧ P.above t ≤ t + per := by
  unfold Pr.above nextB nextV
  rw [hr, hp]
  have c1 : ¬ (rel < 0 ∨ per < 1) := by omega
  have c2 : ¬ (t + 1 ≤ rel) := by omega
  rw [if_neg c1, if_neg c1, if_neg c2, if_neg c2]
  have m0 := Int.emod_nonneg (t + 1 - rel) (show per ≠ 0 by omega)
  have m1 := Int.emod_lt_of_pos (t + 1 - rel) (show 0 < per by omega)
  by_cases hz : (t + 1 - rel) % per = 0
  · rw [if_pos hz, if_pos hz]
    have hT : isT (t + 1) = true := by simp [isT]; omega
    rw [hT]
    simp only [Bool.and_self, if_true]
    exact ⟨hz, by omega, by omega⟩
  · have c3 : ¬ (9223372036854775807 - (t + 1) < per - (t + 1 - rel) % per) := by omega
    rw [if_neg hz, if_neg hz, if_neg c3, if_neg c3]
    have hT : isT (t + 1 + (per - (t + 1 - rel) % per)) = true := by simp [isT]; omega
    rw [hT]
    simp only [Bool.and_self, if_true]
    refine ⟨?_, by omega, by omega⟩
    have hd := Int.emod_add_mul_ediv (t + 1 - rel) per
    have e : t + 1 + (per - (t + 1 - rel) % per) - rel = per * ((t + 1 - rel) / per + 1) := by rw [Int.mul_add]; omega
    rw [e]
    exact Int.mul_emod_right _ _
section
variable {w W W' : World} {b g cap q : Nat} {T : Tt} {x : Xw} {t per lim K : Int}
/-- the job is done -/
theorem Jt.rest (h : Jt w W b g cap q T x t per lim K) (hd : x.done = false) (hp : 1 ≤ per) (hp2 : per ≤ 200) (ht : t ≤ 600000000000) (t2 : Tw W' b g cap (T.period 0 t)) (k : Kept (Bg b g) W W') {W2 : World} (hq2 : W2.heap[q]? = some (.cells ({ x with done := true } : Xw).cells 55)) (k2 : Kept (fun j => j = q) W' W2) :
    Jt w W2 b g cap q (T.period 0 t) { x with done := true } t per lim (K + 1) := by
  have ab := above_is (P := T.ps 0) h.jv.hrel h.jv.hper hp hp2 h.jv.lo h.jv.hi ht
  have t3 := h.tn.step t2 k
  have h2 := h.pl0
  have h3 := h.pl1
  have h5 := h.m1
  have hpl : (T.period 0 t).pl = T.pl + 1 := rfl
  refine ⟨⟨t3.1.beside k2 h.qb h.qg (fun i hi => ?_), t3.2.1.trans k2 (fun j e => .inr (by rw [e]; exact h.q1)), t3.2.2⟩, hq2, ⟨h.jv.hper, h.jv.hlim, h.jv.hrel, h.jv.hmis, h.jv.lo, h.jv.hi, (fun _ => ⟨rfl, rfl, ab.1, ab.2.1, ab.2.2⟩), (fun e => (by cases e))⟩, h.n1, h.lk, rfl, by rw [hpl]; omega, by rw [hpl]; omega, h.m0, (by show x.mis ≤ K + 1; omega), h.q1, h.qb, h.qg⟩
  have hi0 : i = 0 := by have : i < T.n := hi; rw [h.n1] at this; omega
  subst hi0
  rfl
end
/-- it is started -/
def jU (per lim s : Int) : Tt := (T1 ⟨0, 1, per, lim, 0, false⟩).start 0 s 0 0 0
theorem jU_jv {per lim s : Int} (hp : 1 ≤ per) (hp2 : per ≤ 200) (hl : 0 ≤ lim) (hl2 : lim ≤ per) (hs : 0 ≤ s) (hs2 : s ≤ 549755813888) : Jv s per lim ((jU per lim s).ps 0) ⟨s, 0, false, false, false⟩ := by
  refine ⟨rfl, rfl, rfl, rfl, hs, Int.le_refl _, (fun e => (by cases e)), (fun _ => ⟨rfl, rfl, ?_, (fun _ => (by show s < s + per; omega)), (fun e => (by cases e)), (fun _ _ => (by show s < s + lim; omega)), (fun _ e => (by cases e))⟩)⟩
  show Pr.dlf _ s = if 0 < lim ∧ (false = false) then s + lim else -1
  unfold Pr.dlf
  show (if lim ≤ 0 then (-1 : Int) else ltr s lim) = _
  by_cases hl0 : lim ≤ 0
  · rw [if_pos hl0, if_neg (by omega)]
  · rw [if_neg hl0, if_pos ⟨by omega, rfl⟩]
    unfold ltr
    rw [if_neg (by omega)]
end Go.Proofs.Ytofkacfchkimiaa
