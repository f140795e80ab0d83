/-
  ProcJobs: jobs and releases, plain.
-/
import Derived.Test.YtofkacfchkimiaaPKnown
namespace Go.Proofs.Ytofkacfchkimiaa
open Go.RowKit Plain
set_option linter.unusedVariables false
set_option maxRecDepth 100000

/-- a job by the rule -/
structure Xw where
  rel : Int
  mis : Int
  done : Bool
  late : Bool
  over : Bool
def Xw.miss (x : Xw) (n lim : Int) : Xw := if x.done = false ∧ 0 < lim ∧ n = x.rel + lim then { x with mis := x.mis + 1, over := true } else x
def Xw.turn (x : Xw) (n per : Int) : Xw := if x.rel < n ∧ (n - x.rel) % per = 0 then (if x.done then { x with rel := n, done := false, late := false, over := false } else { x with late := true }) else x
def Xw.at (x : Xw) (n per lim : Int) : Xw := (x.miss n lim).turn n per

/-- the process is as the world says, at tick t -/
structure Jv (t per lim : Int) (P : Pr) (x : Xw) : Prop where
  hper : P.per = per
  hlim : P.lim = lim
  hrel : P.rel = x.rel
  hmis : P.mis = x.mis
  lo : 0 ≤ x.rel
  hi : x.rel ≤ t
  d : x.done = true → P.st = 3 ∧ P.dl = -1 ∧ (P.un - x.rel) % per = 0 ∧ t < P.un ∧ P.un ≤ t + per
  a : x.done = false → P.st = 1 ∧ P.late = x.late ∧ P.dl = (if 0 < lim ∧ x.over = false then x.rel + lim else -1) ∧ (x.late = false → t < x.rel + per) ∧ (x.late = true → x.rel + per ≤ t) ∧ (0 < lim → x.over = false → t < x.rel + lim) ∧ (0 < lim → x.over = true → x.rel + lim ≤ t)

/-- the deadline's timer, fired if it is due -/
def Pr.fm (P : Pr) (n : Int) : Pr := if P.due 1 n then (P.sMis (P.mis + 1)).sDl (-1) else P
/-- the release's, of a table whose next place is p -/
def Pr.fr (P : Pr) (n p : Int) : Pr := if P.due 2 n then (if P.st = 3 then { P with st := 1, un := -1, ob := 0, ad := 0, da := .slice none 0 0, ws := [], pl := p, rg := fun x => if x = 0 then 0 else P.rg x, rel := n, dl := P.dlf n, late := false } else P.sLate true) else P

theorem near0 {k per : Int} (hp : 0 < per) (h0 : 0 ≤ k) (h1 : k < per) (hm : k % per = 0) : k = 0 := by
  rw [Int.emod_eq_of_lt h0 h1] at hm
  exact hm
theorem sub0 {a b per : Int} (ha : a % per = 0) (hb : b % per = 0) : (a - b) % per = 0 := by
  rw [Int.sub_emod, ha, hb]; simp
theorem due_is {P : Pr} {k n : Int} (hn : n ≠ -1) : P.due k n = decide (P.tk k = n) := by
  unfold Pr.due
  have h1 : (n != -1) = true := by simp [hn]
  rw [h1, Bool.true_and]
  by_cases h : P.tk k = n
  · simp [h]
  · simp [h]
section
variable {t per lim : Int} {P : Pr} {x : Xw}
theorem Jv.tkD (h : Jv t per lim P x) : P.tkD = P.dl := by
  unfold Pr.tkD
  cases hd : x.done with
  | true => rw [if_neg (by rw [(h.d hd).1]; decide)]
  | false => rw [if_neg (by rw [(h.a hd).1]; decide)]
theorem Jv.tkW (h : Jv t per lim P x) : P.tkW = -1 := by
  unfold Pr.tkW Pr.wk
  cases hd : x.done with
  | true => rw [(h.d hd).1]; rfl
  | false => rw [(h.a hd).1]; rfl
theorem Jv.tkR (h : Jv t per lim P x) (hp : 1 ≤ per) (hp2 : per ≤ 200) (ht : t ≤ 600000000000) : P.tkR = if x.done then P.un else if x.late then -1 else x.rel + per := by
  unfold Pr.tkR
  cases hd : x.done with
  | true => rw [(h.d hd).1, if_neg (by decide), if_pos rfl]; rfl
  | false =>
    have ha := h.a hd
    rw [ha.1, if_neg (by decide), if_neg (by decide), h.hper, ha.2.1]
    cases hl : x.late with
    | true => rw [if_neg (fun e => by cases e.2)]; rfl
    | false =>
      rw [if_pos ⟨by omega, rfl⟩, h.hrel]
      unfold ltr
      have h1 := h.lo
      have h2 := h.hi
      rw [if_neg (by omega)]
      rfl
/-- the next tick at which a timer is due -/
theorem Jv.next (h : Jv t per lim P x) (hp : 1 ≤ per) (hp2 : per ≤ 200) (ht : t ≤ 600000000000) (ht0 : 0 ≤ t) (f : Nat → Pr) (hf : f 0 = P) : (nout t f 1 = t + 1) ↔ (P.tkD = t + 1 ∨ P.tkR = t + 1) := by
  have e : nout t f 1 = nstep t (nstep t (nstep t (-1) P.tkD) P.tkR) P.tkW := by
    show nstep t (nstep t (nstep t (-1) (f 0).tkD) (f 0).tkR) (f 0).tkW = _
    rw [hf]
  rw [e, h.tkW]
  unfold nstep
  generalize P.tkD = a
  generalize P.tkR = c
  by_cases h1 : a ≠ -1 ∧ t < a ∧ ((-1 : Int) = -1 ∨ a < -1)
  · rw [if_pos h1]
    by_cases h2 : c ≠ -1 ∧ t < c ∧ (a = -1 ∨ c < a)
    · rw [if_pos h2, if_neg (fun h => h.1 rfl)]
      omega
    · rw [if_neg h2, if_neg (fun h => h.1 rfl)]
      omega
  · rw [if_neg h1]
    by_cases h2 : c ≠ -1 ∧ t < c ∧ ((-1 : Int) = -1 ∨ c < -1)
    · rw [if_pos h2, if_neg (fun h => h.1 rfl)]
      omega
    · rw [if_neg h2, if_neg (fun h => h.1 rfl)]
      omega
/-- one tick -/
theorem Jv.step (h : Jv t per lim P x) (hp : 1 ≤ per) (hp2 : per ≤ 200) (hl : 0 ≤ lim) (hl2 : lim ≤ per) (ht : t ≤ 600000000000) (ht0 : 0 ≤ t) (p : Int) : Jv (t + 1) per lim ((P.fm (t + 1)).fr (t + 1) p) (x.at (t + 1) per lim) := by
  have hne : (t + 1 : Int) ≠ -1 := by omega
  have kD := h.tkD
  have kR := h.tkR hp hp2 ht
  have dM : P.due 1 (t + 1) = decide (P.dl = t + 1) := by rw [due_is hne]; unfold Pr.tk; rw [if_pos rfl, kD]
  cases hd : x.done with
  | true =>
    obtain ⟨d1, d2, d3, d4, d5⟩ := h.d hd
    have e1 : P.fm (t + 1) = P := by unfold Pr.fm; rw [dM, d2]; rw [if_neg (by simp; omega)]
    have e2 : x.miss (t + 1) lim = x := by unfold Xw.miss; rw [if_neg (fun e => by rw [hd] at e; cases e.1)]
    have e3 : P.due 2 (t + 1) = decide (P.un = t + 1) := by rw [due_is hne]; unfold Pr.tk; rw [if_neg (by decide), if_pos rfl, kR, hd]; rfl
    unfold Xw.at
    rw [e1, e2]
    unfold Pr.fr Xw.turn
    rw [e3, hd]
    by_cases hu : P.un = t + 1
    · have hm : (t + 1 - x.rel) % per = 0 := by rw [← hu]; exact d3
      have hr := h.hi
      rw [if_pos (by simp [hu]), if_pos d1, if_pos ⟨by omega, hm⟩, if_pos rfl]
      refine ⟨h.hper, h.hlim, rfl, h.hmis, (by show 0 ≤ t + 1; omega), Int.le_refl _, (fun e => (by cases e)), fun _ => ⟨rfl, rfl, ?_, (fun _ => (by show t + 1 < t + 1 + per; omega)), (fun e => (by cases e)), (fun hl3 _ => (by show t + 1 < t + 1 + lim; omega)), (fun _ e => (by cases e))⟩⟩
      show P.dlf (t + 1) = if 0 < lim ∧ (false = false) then t + 1 + lim else -1
      unfold Pr.dlf
      rw [h.hlim]
      by_cases hl0 : lim ≤ 0
      · rw [if_pos hl0, if_neg (by omega)]
      · rw [if_neg hl0, if_pos ⟨by omega, rfl⟩]
        unfold ltr
        rw [if_neg (by omega)]
    · have hm : ¬ (x.rel < t + 1 ∧ (t + 1 - x.rel) % per = 0) := by
        rintro ⟨_, hm⟩
        have := near0 (k := P.un - (t + 1)) (per := per) (by omega) (by omega) (by omega) (by
          have := sub0 d3 hm
          rwa [show P.un - x.rel - (t + 1 - x.rel) = P.un - (t + 1) by omega] at this)
        omega
      rw [if_neg (by simp [hu]), if_neg hm]
      exact ⟨h.hper, h.hlim, h.hrel, h.hmis, h.lo, (by have := h.hi; omega), (fun _ => ⟨d1, d2, d3, by omega, by omega⟩), (fun e => (by rw [hd] at e; cases e))⟩
  | false =>
    obtain ⟨a1, a2, a3, a4, a5, a6, a7⟩ := h.a hd
    have hlo := h.lo
    have hhi := h.hi
    -- the deadline's timer
    have hmiss : (P.dl = t + 1) ↔ (0 < lim ∧ t + 1 = x.rel + lim) := by
      rw [a3]
      by_cases hc : 0 < lim ∧ x.over = false
      · rw [if_pos hc]; omega
      · rw [if_neg hc]
        constructor
        · intro e; omega
        · rintro ⟨c1, c2⟩
          have ho : x.over = true := by cases ho : x.over with | true => rfl | false => exact (hc ⟨c1, ho⟩).elim
          have := a7 c1 ho
          omega
    -- the release's
    have hrel : (P.tkR = t + 1) ↔ (x.late = false ∧ t + 1 = x.rel + per) := by
      rw [kR, hd]
      cases hl3 : x.late with
      | true => simp; omega
      | false => simp; omega
    have hmod : x.late = false → ((x.rel < t + 1 ∧ (t + 1 - x.rel) % per = 0) ↔ t + 1 = x.rel + per) := by
      intro hl3
      have := a4 hl3
      constructor
      · rintro ⟨c1, c2⟩
        have := near0 (k := x.rel + per - (t + 1)) (per := per) (by omega) (by omega) (by omega) (by
          have h0 : (per : Int) % per = 0 := Int.emod_self
          have := sub0 h0 c2
          rwa [show per - (t + 1 - x.rel) = x.rel + per - (t + 1) by omega] at this)
        omega
      · intro c
        refine ⟨by omega, ?_⟩
        rw [show t + 1 - x.rel = per by omega]
        exact Int.emod_self
    -- the process behind the deadline's timer
    have e3 : ∀ Q : Pr, Q.st = P.st → Q.per = P.per → Q.late = P.late → Q.rel = P.rel → Q.un = P.un → Q.due 2 (t + 1) = decide (P.tkR = t + 1) := by
      intro Q q1 q2 q3 q4 q5
      rw [due_is hne]
      unfold Pr.tk
      rw [if_neg (by decide), if_pos rfl]
      have : Q.tkR = P.tkR := by unfold Pr.tkR; rw [q1, q2, q3, q4, q5]
      rw [this]
    have hst : ∀ Q : Pr, Q.st = P.st → ¬ Q.st = 3 := fun Q q => by rw [q, a1]; decide
    by_cases hm : P.dl = t + 1
    · obtain ⟨m1, m2⟩ := hmiss.1 hm
      have e1 : P.fm (t + 1) = (P.sMis (P.mis + 1)).sDl (-1) := by unfold Pr.fm; rw [dM, if_pos (by simp [hm])]
      have e2 : x.miss (t + 1) lim = { x with mis := x.mis + 1, over := true } := if_pos ⟨hd, m1, m2⟩
      unfold Xw.at
      rw [e1, e2]
      unfold Pr.fr Xw.turn
      rw [e3 ((P.sMis (P.mis + 1)).sDl (-1)) rfl rfl rfl rfl rfl]
      by_cases hr : P.tkR = t + 1
      · obtain ⟨r1, r2⟩ := hrel.1 hr
        rw [if_pos (by simp [hr]), if_neg (hst ((P.sMis (P.mis + 1)).sDl (-1)) rfl)]
        rw [if_pos (show ({ x with mis := x.mis + 1, over := true } : Xw).rel < t + 1 ∧ (t + 1 - ({ x with mis := x.mis + 1, over := true } : Xw).rel) % per = 0 from (hmod r1).2 r2)]
        rw [if_neg (show ¬ ({ x with mis := x.mis + 1, over := true } : Xw).done = true by show ¬ x.done = true; rw [hd]; decide)]
        exact ⟨h.hper, h.hlim, h.hrel, (by show P.mis + 1 = x.mis + 1; rw [h.hmis]), hlo, (by show x.rel ≤ t + 1; omega), (fun e => (by have e' : x.done = true := e; rw [hd] at e'; cases e')), (fun _ => ⟨a1, rfl, (by show (-1 : Int) = if 0 < lim ∧ (true = false) then _ else -1; rw [if_neg (fun e => by cases e.2)]), (fun e => (by cases e)), (fun _ => (by show x.rel + per ≤ t + 1; omega)), (fun _ e => (by cases e)), (fun _ _ => (by show x.rel + lim ≤ t + 1; omega))⟩)⟩
      · rw [if_neg (by simp [hr])]
        have hR : Jv (t + 1) per lim ((P.sMis (P.mis + 1)).sDl (-1)) { x with mis := x.mis + 1, over := true } := ⟨h.hper, h.hlim, h.hrel, (by show P.mis + 1 = x.mis + 1; rw [h.hmis]), hlo, (by show x.rel ≤ t + 1; omega), (fun e => (by have e' : x.done = true := e; rw [hd] at e'; cases e')), (fun _ => ⟨a1, a2, (by show (-1 : Int) = if 0 < lim ∧ (true = false) then _ else -1; rw [if_neg (fun e => by cases e.2)]), (fun e => (by have e' : x.late = false := e; have := a4 e'; have : ¬ t + 1 = x.rel + per := fun c => hr (hrel.2 ⟨e', c⟩); show t + 1 < x.rel + per; omega)), (fun e => (by have := a5 e; show x.rel + per ≤ t + 1; omega)), (fun _ e => (by cases e)), (fun _ _ => (by show x.rel + lim ≤ t + 1; omega))⟩)⟩
        by_cases hl3 : x.late = false
        · rw [if_neg (show ¬ (({ x with mis := x.mis + 1, over := true } : Xw).rel < t + 1 ∧ (t + 1 - ({ x with mis := x.mis + 1, over := true } : Xw).rel) % per = 0) from fun c => hr (hrel.2 ⟨hl3, (hmod hl3).1 c⟩))]
          exact hR
        · have hl4 : x.late = true := by cases hq : x.late with | true => rfl | false => exact (hl3 hq).elim
          by_cases hc : ({ x with mis := x.mis + 1, over := true } : Xw).rel < t + 1 ∧ (t + 1 - ({ x with mis := x.mis + 1, over := true } : Xw).rel) % per = 0
          · rw [if_pos hc, if_neg (show ¬ ({ x with mis := x.mis + 1, over := true } : Xw).done = true by show ¬ x.done = true; rw [hd]; decide)]
            have ex : ({ x with mis := x.mis + 1, over := true, late := true } : Xw) = { x with mis := x.mis + 1, over := true } := by rw [← hl4]
            show Jv _ _ _ _ { x with mis := x.mis + 1, over := true, late := true }
            rw [ex]
            exact hR
          · rw [if_neg hc]
            exact hR
    · have e1 : P.fm (t + 1) = P := by unfold Pr.fm; rw [dM, if_neg (by simp [hm])]
      have e2 : x.miss (t + 1) lim = x := if_neg (fun e => hm (hmiss.2 e.2))
      unfold Xw.at
      rw [e1, e2]
      unfold Pr.fr Xw.turn
      rw [e3 P rfl rfl rfl rfl rfl]
      by_cases hr : P.tkR = t + 1
      · obtain ⟨r1, r2⟩ := hrel.1 hr
        rw [if_pos (by simp [hr]), if_neg (hst _ rfl), if_pos ((hmod r1).2 r2), if_neg (by rw [hd]; decide)]
        exact ⟨h.hper, h.hlim, h.hrel, h.hmis, hlo, (by show x.rel ≤ t + 1; omega), (fun e => (by have e' : x.done = true := e; rw [hd] at e'; cases e')), (fun _ => ⟨a1, rfl, a3, (fun e => (by cases e)), (fun _ => (by show x.rel + per ≤ t + 1; omega)), (fun c1 c2 => (by have := a6 c1 c2; have : ¬ t + 1 = x.rel + lim := fun c => hm (hmiss.2 ⟨c1, c⟩); show t + 1 < x.rel + lim; omega)), (fun c1 c2 => (by have := a7 c1 c2; show x.rel + lim ≤ t + 1; omega))⟩)⟩
      · rw [if_neg (by simp [hr])]
        have hR : Jv (t + 1) per lim P x := ⟨h.hper, h.hlim, h.hrel, h.hmis, hlo, (by omega), (fun e => (by rw [hd] at e; cases e)), (fun _ => ⟨a1, a2, a3, (fun e => (by have := a4 e; have : ¬ t + 1 = x.rel + per := fun c => hr (hrel.2 ⟨e, c⟩); omega)), (fun e => (by have := a5 e; omega)), (fun c1 c2 => (by have := a6 c1 c2; have : ¬ t + 1 = x.rel + lim := fun c => hm (hmiss.2 ⟨c1, c⟩); omega)), (fun c1 c2 => (by have := a7 c1 c2; omega))⟩)⟩
        cases hl3 : x.late with
        | false =>
          rw [if_neg (fun c => hr (hrel.2 ⟨hl3, (hmod hl3).1 c⟩))]
          exact hR
        | true =>
          by_cases hc : x.rel < t + 1 ∧ (t + 1 - x.rel) % per = 0
          · rw [if_pos hc, if_neg (by rw [hd]; decide)]
            have ex : ({ x with late := true } : Xw) = x := by rw [← hl3]
            rw [ex]
            exact hR
          · rw [if_neg hc]
            exact hR
end
end Go.Proofs.Ytofkacfchkimiaa
