/-
  ProcSound: what every call keeps (plain).
-/
import Derived.Test.YtofkacfchkimiaaPPlayA
namespace Go.Proofs.Ytofkacfchkimiaa
open Go.RowKit Plain
set_option linter.unusedVariables false
set_option maxRecDepth 100000

/-- what holds of one process (pl: the next place, q: how many calls there were, M: how many words are handed in at most) -/
structure Ln (p : Pr) (pl : Int) (q M : Nat) : Prop where
  st : 0 ≤ p.st ∧ p.st ≤ 10
  dorm : p.st = 0 → p.rel = -1 ∧ p.dl = -1 ∧ p.un = -1 ∧ p.pri = 0 ∧ p.pl = 0 ∧ p.pc = 0 ∧ p.late = false ∧ p.ob = 0 ∧ p.ad = 0 ∧ p.ws = [] ∧ ∀ j, j < 16 → p.rg j = 0
  idle : p.st = 1 ∨ p.st = 10 ∨ p.st = 3 → p.ob = 0 ∧ p.ad = 0 ∧ p.ws = [] ∧ (p.un = -1 ∨ p.st = 3)
  awake : p.st ≠ 0 → 1 ≤ p.pl ∧ p.pl < pl ∧ 0 ≤ p.pri ∧ p.pri ≤ 255
  ws : p.ws.length ≤ M
  mis : 0 ≤ p.mis ∧ p.mis ≤ q
  rel : -1 ≤ p.rel ∧ p.rel < 1099511627776
  pp : 0 ≤ p.pp ∧ p.pp ≤ 255
  per : 0 ≤ p.per ∧ p.per < 1099511627776
  un3 : p.st = 3 → -1 ≤ p.un ∧ p.un < 1099511627776
theorem Ln.up {p : Pr} {pl pl' : Int} {q q' M : Nat} (h : Ln p pl q M) (hp : pl ≤ pl') (hq : q ≤ q') : Ln p pl' q' M :=
  ⟨h.st, h.dorm, h.idle, fun e => by obtain ⟨a, b, c, d⟩ := h.awake e; exact ⟨a, by omega, c, d⟩, h.ws, by have := h.mis; omega, h.rel, h.pp, h.per, h.un3⟩
/-- what holds of the table -/
structure Sd (T : Tt) (q M : Nat) : Prop where
  each : ∀ i, i < T.n → Ln (T.ps i) T.pl q M
  apart : ∀ i j, i < T.n → j < T.n → i ≠ j → (T.ps i).st ≠ 0 → (T.ps j).st ≠ 0 → (T.ps i).pl ≠ (T.ps j).pl
  lock : T.lk = 0 ∨ ∃ i, i < T.n ∧ T.lk = (i : Int) + 1 ∧ (T.ps i).st = 1 ∧ T.hd ≠ (i : Int) + 1
  hd : 0 ≤ T.hd ∧ T.hd ≤ T.n
  pl : 1 ≤ T.pl ∧ T.pl ≤ 1 + q
theorem Sd.up {T : Tt} {q q' M : Nat} (h : Sd T q M) (hq : q ≤ q') : Sd T q' M :=
  ⟨fun i hi => (h.each i hi).up (by omega) hq, h.apart, h.lock, h.hd, by have := h.pl; omega⟩
/-- one process turned -/
def Tt.turn (T : Tt) (i : Nat) (p : Pr) (pl lk : Int) : Tt := { T with ps := fun x => if x = i then p else T.ps x, pl := pl, lk := lk }
theorem Sd.turn {T : Tt} {q M : Nat} (h : Sd T q M) {i : Nat} (hi : i < T.n) (p : Pr) (pl lk : Int) (hpl : T.pl ≤ pl ∧ pl ≤ T.pl + 1) (hp : Ln p pl (q + 1) M) (hplc : p.st ≠ 0 → (p.pl = T.pl ∧ pl = T.pl + 1) ∨ (p.pl = (T.ps i).pl ∧ (T.ps i).st ≠ 0)) (hlk : (lk = T.lk ∧ (T.lk = (i : Int) + 1 → p.st = 1)) ∨ lk = 0) : Sd (T.turn i p pl lk) (q + 1) M := by
  have hs : ∀ x, x ≠ i → (T.turn i p pl lk).ps x = T.ps x := fun x hx => if_neg hx
  have hs' : (T.turn i p pl lk).ps i = p := if_pos rfl
  have key : ∀ x, x < T.n → x ≠ i → p.st ≠ 0 → (T.ps x).st ≠ 0 → p.pl ≠ (T.ps x).pl := by
    intro x hx hxi hp0 hx0
    rcases hplc hp0 with ⟨e1, e2⟩ | ⟨e1, e2⟩
    · have := ((h.each x hx).awake hx0).2.1; omega
    · have := h.apart i x hi hx (Ne.symm hxi) e2 hx0; omega
  refine ⟨fun x hx => ?_, fun x y hx hy hxy hx0 hy0 => ?_, ?_, h.hd, by have := h.pl; show 1 ≤ pl ∧ pl ≤ _; omega⟩
  · by_cases e : x = i
    · subst e; rw [hs']; exact hp
    · rw [hs x e]; exact (h.each x hx).up hpl.1 (by omega)
  · by_cases ex : x = i
    · subst ex
      rw [hs'] at hx0 ⊢
      rw [hs y (Ne.symm hxy)] at hy0 ⊢
      exact key y hy (Ne.symm hxy) hx0 hy0
    · by_cases ey : y = i
      · subst ey
        rw [hs'] at hy0 ⊢
        rw [hs x ex] at hx0 ⊢
        exact Ne.symm (key x hx ex hy0 hx0)
      · rw [hs x ex] at hx0 ⊢
        rw [hs y ey] at hy0 ⊢
        exact h.apart x y hx hy hxy hx0 hy0
  · rcases hlk with ⟨e1, e2⟩ | e1
    · rcases h.lock with e | ⟨x, hx, e3, e4, e5⟩
      · exact .inl (by show lk = 0; omega)
      · refine .inr ⟨x, hx, by show lk = _; omega, ?_, e5⟩
        by_cases ex : x = i
        · subst ex; rw [hs']; exact e2 e3
        · rw [hs x ex]; exact e4
    · exact .inl e1
theorem Tt.ext' {T U : Tt} (h1 : ∀ x, T.ps x = U.ps x) (h2 : T.n = U.n) (h3 : T.cd = U.cd) (h4 : T.hd = U.hd) (h5 : T.lk = U.lk) (h6 : T.pl = U.pl) : T = U := by
  cases T; cases U; simp only at h1 h2 h3 h4 h5 h6; subst h2 h3 h4 h5 h6; congr; exact funext h1
theorem turn_of {T U : Tt} {i : Nat} (h1 : ∀ x, x ≠ i → U.ps x = T.ps x) (h2 : U.n = T.n) (h3 : U.cd = T.cd) (h4 : U.hd = T.hd) : U = T.turn i (U.ps i) U.pl U.lk :=
  Tt.ext' (fun x => by
    by_cases e : x = i
    · subst e; exact (if_pos rfl).symm
    · rw [h1 x e]; exact (if_neg e).symm) h2 h3 h4 rfl rfl
/-- a call that turns one process -/
theorem Sd.call {T U : Tt} {q M : Nat} (h : Sd T q M) {i : Nat} (hi : i < T.n) (h1 : ∀ x, x ≠ i → U.ps x = T.ps x) (h2 : U.n = T.n) (h3 : U.cd = T.cd) (h4 : U.hd = T.hd) (hpl : T.pl ≤ U.pl ∧ U.pl ≤ T.pl + 1) (hp : Ln (U.ps i) U.pl (q + 1) M) (hplc : (U.ps i).st ≠ 0 → ((U.ps i).pl = T.pl ∧ U.pl = T.pl + 1) ∨ ((U.ps i).pl = (T.ps i).pl ∧ (T.ps i).st ≠ 0)) (hlk : (U.lk = T.lk ∧ (T.lk = (i : Int) + 1 → (U.ps i).st = 1)) ∨ U.lk = 0) : Sd U (q + 1) M ∧ T.pl ≤ U.pl ∧ U.n = T.n ∧ U.hd = T.hd := by
  refine ⟨?_, hpl.1, h2, h4⟩
  rw [turn_of h1 h2 h3 h4]
  exact h.turn hi _ _ _ hpl hp hplc hlk
end Go.Proofs.Ytofkacfchkimiaa
