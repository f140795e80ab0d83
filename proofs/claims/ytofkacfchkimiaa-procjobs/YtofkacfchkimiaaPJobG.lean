/-
  ProcJobs: one tick, call by call.
-/
import Derived.Test.YtofkacfchkimiaaPJobL
import Derived.Test.YtofkacfchkimiaaPTimG
namespace Go.Proofs.Ytofkacfchkimiaa
open Go.RowKit Plain
set_option linter.unusedVariables false
set_option maxRecDepth 100000

/-- a state that was told -/
def GJ (A : Array Value) (P : Pr) : Prop := A.size = 28 ∧ A.all (·.oneCell') = true ∧ A[0]? = some (.int .i64 P.st) ∧ A[20]? = some (.int .i64 P.rel) ∧ A[21]? = some (.int .i64 P.dl) ∧ A[22]? = some (.int .i64 P.un) ∧ A[23]? = some (.bool P.late) ∧ A[27]? = some (.int .i64 P.mis)
section
variable {w W : World} {b g cap q : Nat} {T : Tt} {x : Xw} {t per lim K : Int}
theorem get_j (h : Jt w W b g cap q T x t per lim K) :
    Calls Try.prog 16 #[.pointer (some ⟨b, 0, none⟩), .int .i64 1] W fun e w' => ∃ A, e = .returned (.tuple #[.agg A, .bool true]) ∧ GJ A (T.ps 0) ∧ Kept No W w' := by
  have ge := get_yes (i := 0) W h.tn.1 (by rw [h.n1]; omega) (by rw [h.n1]; omega) (by rw [h.ws]; simp)
  refine ge.mono ?_
  rintro e w' ⟨ya, yc, rfl, _, k⟩
  exact ⟨_, rfl, ⟨rfl, val_one _, rfl, rfl, rfl, rfl, rfl, rfl⟩, k⟩
theorem fit_j (h : Jt w W b g cap q T x t per lim K) {A : Array Value} (ga : GJ A (T.ps 0)) (hl : 0 ≤ lim) (hl2 : lim ≤ 200) (ht : t ≤ 700000000000) :
    Calls Try.prog 20 #[.pointer (some ⟨q, 0, none⟩), .agg A, .int .i64 lim, .int .i64 t] W fun e w' => e = .returned (.bool true) ∧ Kept No W w' := by
  obtain ⟨g1, g2, g3, g4, g5, g6, g7, g8⟩ := ga
  have jv := h.jv
  have hq := h.hq
  rw [jv.hrel] at g4
  rw [jv.hmis] at g8
  obtain ⟨rel, mis, done, late, over⟩ := x
  cases done with
  | true =>
    obtain ⟨d1, d2, d3, d4, d5⟩ := jv.d rfl
    rw [d1] at g3
    rw [d2] at g5
    exact fits_done A g1 g3 g4 g5 _ g6 g8 t lim d4 W hq
  | false =>
    obtain ⟨a1, a2, a3, _⟩ := jv.a rfl
    rw [a1] at g3
    rw [a2] at g7
    have h0 : 0 ≤ rel := jv.lo
    have h1 : rel ≤ t := jv.hi
    have h2 : rel ≤ 700000000000 := by omega
    exact fits_not A g1 g3 g4 _ g5 g7 g8 t lim a3 h0 h2 hl hl2 W hq
theorem at_j (h : Jt w W b g cap q T x t per lim K) (hK : K ≤ 1000000) (hp : 1 ≤ per) (hp2 : per ≤ 200) (hl : 0 ≤ lim) (hl2 : lim ≤ per) (ht : t ≤ 600000000000) (ht0 : 0 ≤ t) {W1 : World} (t1 : Tn w W1 b g cap ((T.fm (t + 1)).fr (t + 1))) (k : Kept (Bg b g) W W1) :
    Calls Try.prog 19 #[.pointer (some ⟨q, 0, none⟩), .int .i64 (t + 1), .int .i64 per, .int .i64 lim] W1 fun e w' => (∃ v, e = .returned v) ∧ Jt w w' b g cap q ((T.fm (t + 1)).fr (t + 1)) (x.at (t + 1) per lim) (t + 1) per lim (K + 1) := by
  have hq1 := k.at' h.hq (fun e => by rcases e with e | e; exact h.qb e; exact h.qg e)
  have hi := h.jv.hi
  have h1 := h.m1
  refine (at_any q x (t + 1) per lim W1 hq1 hp hp2 hl (by omega) h.jv.lo (by omega) (by omega) ⟨h.m0, by omega⟩).mono ?_
  rintro e w' ⟨he, hq2, k2⟩
  exact ⟨he, h.on hp hp2 hl hl2 ht ht0 t1 hq1 hq2 k2⟩
theorem per_j (h : Jt w W b g cap q T x t per lim K) (hK : K ≤ 1000000) (hp : 1 ≤ per) (hp2 : per ≤ 200) (ht : t ≤ 600000000000) (ht0 : 0 ≤ t) :
    Calls Try.prog 21 #[.pointer (some ⟨b, 0, none⟩), .int .i64 1, .int .i64 t] W fun e w' => e = .returned (.bool (!x.done)) ∧ (x.done = true → w' = W) ∧ (x.done = false → Tw w' b g cap (T.period 0 t)) ∧ Kept (Bg b g) W w' := by
  have hn1 : (0 : Nat) < T.n := by rw [h.n1]; omega
  have hn2 : T.n ≤ 1048576 := by rw [h.n1]; omega
  have jv := h.jv
  cases hd : x.done with
  | true =>
    refine (period_free W (free_no W (ready_not (i := 0) W h.tn.1 hn1 hn2 (by rw [(jv.d hd).1]; decide))) t).mono ?_
    rintro e w' ⟨rfl, rfl⟩
    exact ⟨rfl, fun _ => rfl, (fun e => (by cases e)), Kept.refl _ _⟩
  | false =>
    have h2 := h.pl0
    have h3 := h.pl1
    have hlo := jv.lo
    have hhi := jv.hi
    refine (period_yes (i := 0) W h.tn.1 hn1 hn2 ⟨by omega, by omega⟩ (jv.a hd).1 (by rw [h.lk]; decide) t (by rw [jv.hper]; omega) (by simp [isT]; omega) (by rw [jv.hrel]; exact hhi) (by rw [jv.hrel]; unfold I64; omega) (by rw [jv.hper]; unfold I64; omega)).mono ?_
    rintro e w' ⟨rfl, t1, k1⟩
    exact ⟨rfl, (fun e => (by cases e)), fun _ => t1, k1⟩
/-- behind Period, and the world told so -/
def Nx (w : World) (b g cap q : Nat) (x : Xw) (t per lim K : Int) (W : World) : Prop := ∃ T3, ∀ W2, W2.heap[q]? = some (.cells ({ x with done := true } : Xw).cells 55) → Kept (fun j => j = q) W W2 → Jt w W2 b g cap q T3 { x with done := true } t per lim (K + 1)
theorem Nx.keep {w W W' : World} {b g cap q : Nat} {x : Xw} {t per lim K : Int} (h : Nx w b g cap q x t per lim K W) (k : Kept No W W') : Nx w b g cap q x t per lim K W' := by
  obtain ⟨T3, h⟩ := h
  exact ⟨T3, fun W2 h1 h2 => h W2 h1 (⟨h2.os.trans k.os, h2.tape.trans k.tape, h2.output.trans k.output, Nat.le_trans k.size h2.size, fun j hj hF => (h2.block j (Nat.lt_of_lt_of_le hj k.size) hF).trans (k.block j hj (fun e => e))⟩)⟩
theorem per_k (h : Jt w W b g cap q T x t per lim K) (hK : K ≤ 1000000) (hp : 1 ≤ per) (hp2 : per ≤ 200) (ht : t ≤ 600000000000) (ht0 : 0 ≤ t) :
    Calls Try.prog 21 #[.pointer (some ⟨b, 0, none⟩), .int .i64 1, .int .i64 t] W fun e w' => e = .returned (.bool (!x.done)) ∧ w'.heap[q]? = some (.cells x.cells 55) ∧ Nx w b g cap q x t per lim K w' := by
  refine (per_j h hK hp hp2 ht ht0).mono ?_
  rintro e w' ⟨he, h1, h2, k⟩
  refine ⟨he, k.at' h.hq (fun e => by rcases e with e | e; exact h.qb e; exact h.qg e), ?_⟩
  cases hd : x.done with
  | true =>
    have e1 := h1 hd
    subst e1
    refine ⟨T, fun W2 hq2 k2 => ?_⟩
    have ex : ({ x with done := true } : Xw) = x := by rw [← hd]
    rw [ex] at hq2 ⊢
    have h3 := h.pl1
    have h5 := h.m1
    refine ⟨⟨h.tn.1.beside k2 h.qb h.qg (fun i hi => ?_), h.tn.2.1.trans k2 (fun j e => .inr (by rw [e]; exact h.q1)), h.tn.2.2⟩, hq2, h.jv, h.n1, h.lk, h.ws, h.pl0, by omega, h.m0, by omega, h.q1, h.qb, h.qg⟩
    have hi0 : i = 0 := by rw [h.n1] at hi; omega
    subst hi0
    exact h.ws
  | false =>
    exact ⟨T.period 0 t, fun W2 hq2 k2 => h.rest hd hp hp2 ht (h2 hd) k hq2 k2⟩
end
end Go.Proofs.Ytofkacfchkimiaa
