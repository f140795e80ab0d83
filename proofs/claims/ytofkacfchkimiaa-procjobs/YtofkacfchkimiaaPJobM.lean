/-
  ProcJobs: the table beside the world.
-/
import Derived.Test.YtofkacfchkimiaaPJobF
namespace Go.Proofs.Ytofkacfchkimiaa
open Go.RowKit Plain
set_option linter.unusedVariables false
set_option maxRecDepth 100000

/-- another block is written, and the processes have no words -/
theorem Tw.beside {w w' : World} {b g cap q : Nat} {T : Tt} (h : Tw w b g cap T) (k : Kept (fun j => j = q) w w') (hb : q ≠ b) (hg : q ≠ g) (hw : ∀ i, i < T.n → (T.ps i).ws = []) : Tw w' b g cap T := by
  have hl := h.low
  have nb : ¬ (b = q) := fun e => hb e.symm
  have ng : ¬ (g = q) := fun e => hg e.symm
  refine ⟨k.cell h.box nb, k.cell h.cd nb, k.cell h.hd nb, k.cell h.lk nb, k.cell h.pl nb, h.ne, h.one, h.hcap, h.hmax, fun i => ?_, fun i => ?_, fun i hi j hj => k.cell (h.at' i hi j hj) ng, fun i hi => ?_⟩
  · have := h.fb i
    simp only [World.frozen?, k.block b hl.1 nb] at this ⊢
    exact this
  · have := h.fg i
    simp only [World.frozen?, k.block g hl.2 ng] at this ⊢
    exact this
  · obtain ⟨a, m, c, e, z⟩ := h.da i hi
    have hm : m = 0 := by rw [← z.len, hw i hi]; rfl
    subst hm
    exact ⟨a, 0, c, e, z.len, z.cap, z.max, z.nil, fun j hj => by omega⟩
/-- the table and the world, at tick t -/
structure Jt (w W : World) (b g cap q : Nat) (T : Tt) (x : Xw) (t per lim K : Int) : Prop where
  tn : Tn w W b g cap T
  hq : W.heap[q]? = some (.cells x.cells 55)
  jv : Jv t per lim (T.ps 0) x
  n1 : T.n = 1
  lk : T.lk = 0
  ws : (T.ps 0).ws = []
  pl0 : 1 ≤ T.pl
  pl1 : T.pl ≤ 2 + K
  m0 : 0 ≤ x.mis
  m1 : x.mis ≤ K
  q1 : w.heap.size ≤ q
  qb : q ≠ b
  qg : q ≠ g
section
variable {w W W' : World} {b g cap q : Nat} {T : Tt} {x : Xw} {t per lim K : Int}
theorem Jt.keep (h : Jt w W b g cap q T x t per lim K) (k : Kept No W W') : Jt w W' b g cap q T x t per lim K :=
  ⟨h.tn.keep k, k.at' h.hq (fun h => h), h.jv, h.n1, h.lk, h.ws, h.pl0, h.pl1, h.m0, h.m1, h.q1, h.qb, h.qg⟩
theorem fm_ws (P : Pr) (n : Int) : (P.fm n).ws = P.ws := by
  unfold Pr.fm
  split <;> rfl
theorem fr_ws (P : Pr) (n p : Int) (h : P.ws = []) : (P.fr n p).ws = [] := by
  unfold Pr.fr
  split
  · split
    · rfl
    · exact h
  · exact h
theorem at_mis (x : Xw) (n per lim : Int) : (x.at n per lim).mis = x.mis ∨ (x.at n per lim).mis = x.mis + 1 := by
  have e : ∀ y : Xw, (y.turn n per).mis = y.mis := by
    intro y
    unfold Xw.turn
    split
    · split <;> rfl
    · rfl
  unfold Xw.at
  rw [e]
  unfold Xw.miss
  split
  · exact .inr rfl
  · exact .inl rfl
/-- the table has gone a tick on, the world not yet: what fired needs and leaves -/
theorem Jt.fire (h : Jt w W b g cap q T x t per lim K) (hK : K ≤ 1000000) (hp : 1 ≤ per) (hp2 : per ≤ 200) (hl : 0 ≤ lim) (hl2 : lim ≤ per) (ht : t ≤ 600000000000) (ht0 : 0 ≤ t) :
    (Calls Try.prog 18 #[.pointer (some ⟨b, 0, none⟩), .int .i64 (t + 1)] W fun e w' => e = .returned (.tuple #[.bool (((T.fm (t + 1)).ps 0).due 2 (t + 1)), .bool ((T.ps 0).due 1 (t + 1))]) ∧ Tn w w' b g cap ((T.fm (t + 1)).fr (t + 1)) ∧ Kept (Bg b g) W w') := by
  obtain ⟨p1, p2, p3, p4, p5⟩ := fm_ps T (t + 1)
  have hm := h.jv.hmis
  have h0 := h.m0
  have h1 := h.m1
  have h2 := h.pl0
  have h3 := h.pl1
  refine fired_any W h.tn h.n1 ⟨by omega, by omega⟩ ⟨by omega, by omega⟩ (t + 1) ?_
  rw [p1]
  have : ((T.ps 0).fm (t + 1)).mis = (T.ps 0).mis ∨ ((T.ps 0).fm (t + 1)).mis = (T.ps 0).mis + 1 := by
    unfold Pr.fm
    split
    · exact .inr rfl
    · exact .inl rfl
  exact ⟨by omega, by omega⟩
/-- what was fired is what Next told -/
theorem Jt.told (h : Jt w W b g cap q T x t per lim K) (hp : 1 ≤ per) (hp2 : per ≤ 200) (ht : t ≤ 600000000000) (ht0 : 0 ≤ t) : (nout t T.ps 1 == t + 1) = (((T.fm (t + 1)).ps 0).due 2 (t + 1) || (T.ps 0).due 1 (t + 1)) := by
  have hne : (t + 1 : Int) ≠ -1 := by omega
  have hN := h.jv.next hp hp2 ht ht0 T.ps rfl
  have d1 : (T.ps 0).due 1 (t + 1) = decide ((T.ps 0).tkD = t + 1) := by rw [due_is hne]; unfold Pr.tk; rw [if_pos rfl]
  have d2 : ((T.fm (t + 1)).ps 0).due 2 (t + 1) = decide ((T.ps 0).tkR = t + 1) := by
    rw [due_is hne, (fm_ps T (t + 1)).1]
    unfold Pr.tk
    rw [if_neg (by decide), if_pos rfl]
    have : ((T.ps 0).fm (t + 1)).tkR = (T.ps 0).tkR := by
      unfold Pr.fm
      split
      · rfl
      · rfl
    rw [this]
  rw [d1, d2]
  by_cases e1 : (T.ps 0).tkD = t + 1
  · have : nout t T.ps 1 = t + 1 := hN.2 (.inl e1)
    simp [e1, this]
  · by_cases e2 : (T.ps 0).tkR = t + 1
    · have : nout t T.ps 1 = t + 1 := hN.2 (.inr e2)
      simp [e2, this]
    · have : ¬ nout t T.ps 1 = t + 1 := fun e => by rcases hN.1 e with h | h; exact e1 h; exact e2 h
      simp [e1, e2, this]
/-- both have gone a tick on -/
theorem Jt.on (h : Jt w W b g cap q T x t per lim K) (hp : 1 ≤ per) (hp2 : per ≤ 200) (hl : 0 ≤ lim) (hl2 : lim ≤ per) (ht : t ≤ 600000000000) (ht0 : 0 ≤ t) {W1 W2 : World} (t1 : Tn w W1 b g cap ((T.fm (t + 1)).fr (t + 1))) (hq1 : W1.heap[q]? = some (.cells x.cells 55)) (hq2 : W2.heap[q]? = some (.cells (x.at (t + 1) per lim).cells 55)) (k : Kept (fun j => j = q) W1 W2) :
    Jt w W2 b g cap q ((T.fm (t + 1)).fr (t + 1)) (x.at (t + 1) per lim) (t + 1) per lim (K + 1) := by
  obtain ⟨p1, p2, p3, p4, p5⟩ := fm_ps T (t + 1)
  obtain ⟨r1, r2, r3, r4, r5⟩ := fr_ps (T.fm (t + 1)) (t + 1)
  have hn : ((T.fm (t + 1)).fr (t + 1)).n = 1 := by rw [r2, p2, h.n1]
  have e : ((T.fm (t + 1)).fr (t + 1)).ps 0 = ((T.ps 0).fm (t + 1)).fr (t + 1) T.pl := by rw [r1, p1, p5]
  have hw : (((T.fm (t + 1)).fr (t + 1)).ps 0).ws = [] := by rw [e]; exact fr_ws _ _ _ (by rw [fm_ws]; exact h.ws)
  have hm := at_mis x (t + 1) per lim
  have h0 := h.m0
  have h1 := h.m1
  have h2 := h.pl0
  have h3 := h.pl1
  rw [p5] at r5
  refine ⟨⟨t1.1.beside k h.qb h.qg (fun i hi => ?_), t1.2.1.trans k (fun j e => .inr (by rw [e]; exact h.q1)), t1.2.2⟩, hq2, ?_, hn, by rw [r3, p3, h.lk], hw, by omega, by omega, by omega, by omega, h.q1, h.qb, h.qg⟩
  · have hi0 : i = 0 := by rw [hn] at hi; omega
    subst hi0
    exact hw
  · rw [e]
    exact h.jv.step hp hp2 hl hl2 ht ht0 T.pl
end
end Go.Proofs.Ytofkacfchkimiaa
