/-
  What the walk of 'untold' carries: two Writers, two of the document's, the Shelf.
-/
import Derived.Test.YtakdfpenpodplaaPutAny
import Derived.Test.YtakdfpenpodplaaStandsP
namespace Go.Proofs.Ytakdfpenpodplaa
open Go.RowKit
set_option linter.unusedVariables false

/-- no block of one is a block of the other -/
def Dis (A B : Nat → Prop) : Prop := ∀ k, A k → ¬ B k
theorem Dis.symm {A B : Nat → Prop} (h : Dis A B) : Dis B A := fun k h1 h2 => h k h2 h1
/-- a footprint that has grown by new blocks alone -/
theorem Dis.grow {A A' B : Nat → Prop} {m : Nat} (h : Dis A B) (hA : ∀ k, A' k → A k ∨ m ≤ k) (hB : ∀ k, B k → k < m) : Dis A' B := fun k h1 h2 => (hA k h1).elim (fun h3 => h k h3 h2) (fun h3 => by have := hB k h2; omega)

structure Uw (w0 : World) (Fp Fv Fx Fy Fs : Nat → Prop) (p v x y s : Nat) (b1 : List Nat) (e1 : Int) (b2 : List Nat) (e2 : Int) (es : List En) (w : World) : Prop where
  p : Wr w Fp p b1 e1
  x : Ou w Fx x b1 e1
  v : Wr w Fv v b2 e2
  y : Ou w Fy y b2 e2
  s : Spf w Fs s es []
  px : Dis Fp Fx
  pv : Dis Fp Fv
  py : Dis Fp Fy
  ps : Dis Fp Fs
  xv : Dis Fx Fv
  xy : Dis Fx Fy
  xs : Dis Fx Fs
  vy : Dis Fv Fy
  vs : Dis Fv Fs
  ys : Dis Fy Fs
  hp : ∀ k, Fp k → w0.heap.size ≤ k
  hx : ∀ k, Fx k → w0.heap.size ≤ k
  hv : ∀ k, Fv k → w0.heap.size ≤ k
  hy : ∀ k, Fy k → w0.heap.size ≤ k
  hs : ∀ k, Fs k → w0.heap.size ≤ k
  bel : Below w0.heap.size w0 w
  l1 : es.length ≤ 400
  f1 : ∀ e ∈ es, e.xs.length ≤ 1000000000

namespace Uw
variable {w0 w w' : World} {Fp Fv Fx Fy Fs : Nat → Prop} {p v x y s : Nat} {b1 b2 b' : List Nat} {e1 e2 e' : Int} {es : List En}

theorem no (h : Uw w0 Fp Fv Fx Fy Fs p v x y s b1 e1 b2 e2 es w) (k : Kept No w w') : Uw w0 Fp Fv Fx Fy Fs p v x y s b1 e1 b2 e2 es w' :=
  ⟨h.p.kept k (fun _ _ h => h), h.x.kept k (fun _ _ h => h), h.v.kept k (fun _ _ h => h), h.y.kept k (fun _ _ h => h), h.s.kept k (fun _ _ h => h), h.px, h.pv, h.py, h.ps, h.xv, h.xy, h.xs, h.vy, h.vs, h.ys, h.hp, h.hx, h.hv, h.hy, h.hs, h.bel.trans (k.below (fun _ e => e.elim) h.bel.size), h.l1, h.f1⟩

/-- the first pair has done it -/
theorem one (h : Uw w0 Fp Fv Fx Fy Fs p v x y s b1 e1 b2 e2 es w) (b : Bw Fp Fx p x b' e' w w') : ∃ Fp' Fx', Uw w0 Fp' Fv Fx' Fy Fs p v x y s b' e' b2 e2 es w' := by
  obtain ⟨F', G', hw, ho, d, k, hF, hG⟩ := b
  have hsz := h.bel.size
  refine ⟨F', G', hw, ho, h.v.kept k (fun b hb e => e.elim (fun e => h.pv b e hb) (fun e => h.xv b e hb)), h.y.kept k (fun b hb e => e.elim (fun e => h.py b e hb) (fun e => h.xy b e hb)), h.s.kept k (fun b hb e => e.elim (fun e => h.ps b e hb) (fun e => h.xs b e hb)), d,
    h.pv.grow hF h.v.flt', h.py.grow hF h.y.flt, h.ps.grow hF h.s.flt, h.xv.grow hG h.v.flt', h.xy.grow hG h.y.flt, h.xs.grow hG h.s.flt, h.vy, h.vs, h.ys,
    fun j hj => (hF j hj).elim (h.hp j) (fun q => Nat.le_trans hsz q), fun j hj => (hG j hj).elim (h.hx j) (fun q => Nat.le_trans hsz q), h.hv, h.hy, h.hs, h.bel.trans (k.below (fun j q => q.elim (h.hp j) (h.hx j)) hsz), h.l1, h.f1⟩

/-- the second pair has done it -/
theorem two (h : Uw w0 Fp Fv Fx Fy Fs p v x y s b1 e1 b2 e2 es w) (b : Bw Fv Fy v y b' e' w w') : ∃ Fv' Fy', Uw w0 Fp Fv' Fx Fy' Fs p v x y s b1 e1 b' e' es w' := by
  obtain ⟨F', G', hw, ho, d, k, hF, hG⟩ := b
  have hsz := h.bel.size
  refine ⟨F', G', h.p.kept k (fun b hb e => e.elim (fun e => h.pv b hb e) (fun e => h.py b hb e)), h.x.kept k (fun b hb e => e.elim (fun e => h.xv b hb e) (fun e => h.xy b hb e)), hw, ho, h.s.kept k (fun b hb e => e.elim (fun e => h.vs b e hb) (fun e => h.ys b e hb)), h.px,
    (h.pv.symm.grow hF h.p.flt').symm, (h.py.symm.grow hG h.p.flt').symm, h.ps, (h.xv.symm.grow hF h.x.flt).symm, (h.xy.symm.grow hG h.x.flt).symm, h.xs, d, h.vs.grow hF h.s.flt, h.ys.grow hG h.s.flt,
    h.hp, h.hx, fun j hj => (hF j hj).elim (h.hv j) (fun q => Nat.le_trans hsz q), fun j hj => (hG j hj).elim (h.hy j) (fun q => Nat.le_trans hsz q), h.hs, h.bel.trans (k.below (fun j q => q.elim (h.hv j) (h.hy j)) hsz), h.l1, h.f1⟩

/-- the first Writer is asked: nothing of it turns -/
theorem askP (h : Uw w0 Fp Fv Fx Fy Fs p v x y s b1 e1 b2 e2 es w) (hw : Wr w' Fp p b1 e1) (k : Kept Fp w w') : Uw w0 Fp Fv Fx Fy Fs p v x y s b1 e1 b2 e2 es w' :=
  ⟨hw, h.x.kept k (fun b hb e => h.px b e hb), h.v.kept k (fun b hb e => h.pv b e hb), h.y.kept k (fun b hb e => h.py b e hb), h.s.kept k (fun b hb e => h.ps b e hb), h.px, h.pv, h.py, h.ps, h.xv, h.xy, h.xs, h.vy, h.vs, h.ys, h.hp, h.hx, h.hv, h.hy, h.hs, h.bel.trans (k.below h.hp h.bel.size), h.l1, h.f1⟩
theorem askV (h : Uw w0 Fp Fv Fx Fy Fs p v x y s b1 e1 b2 e2 es w) (hw : Wr w' Fv v b2 e2) (k : Kept Fv w w') : Uw w0 Fp Fv Fx Fy Fs p v x y s b1 e1 b2 e2 es w' :=
  ⟨h.p.kept k (fun b hb e => h.pv b hb e), h.x.kept k (fun b hb e => h.xv b hb e), hw, h.y.kept k (fun b hb e => h.vy b e hb), h.s.kept k (fun b hb e => h.vs b e hb), h.px, h.pv, h.py, h.ps, h.xv, h.xy, h.xs, h.vy, h.vs, h.ys, h.hp, h.hx, h.hv, h.hy, h.hs, h.bel.trans (k.below h.hv h.bel.size), h.l1, h.f1⟩

/-- 'keep' of a list told since B, full shelf or not -/
theorem keep (h : Uw w0 Fp Fv Fx Fy Fs p v x y s b1 e1 b2 e2 es w) {u : Value} {wa : Option Addr} {wn wc B : Nat} {zs : List Nat} {G : Nat → Prop} (hB : B ≤ w.heap.size) (h0 : w0.heap.size ≤ B)
    (hFs : ∀ k, B ≤ k → ¬ Fs k) (hFp : ∀ k, B ≤ k → ¬ Fp k) (hFx : ∀ k, B ≤ k → ¬ Fx k) (hFv : ∀ k, B ≤ k → ¬ Fv k) (hFy : ∀ k, B ≤ k → ¬ Fy k)
    (ov : w.ownsRow B 5 1 u zs.length (zs.map bv)) (ow : Bs w G wa wn wc zs) (hl : zs.length ≤ 1000000000) :
    Calls Try.prog 56 #[.pointer (some ⟨s, 0, none⟩), u, .slice wa wn wc] w fun ex w' => ex = .returned (.tuple #[]) ∧ ∃ Fs' es', Uw w0 Fp Fv Fx Fy Fs' p v x y s b1 e1 b2 e2 es' w' ∧ Kept Fs w w' ∧ ∀ k, Fs' k → Fs k ∨ B ≤ k := by
  by_cases h4 : es.length = 400
  · refine (keepFull_any Fs s es [] u _ w h.s h4).mono ?_
    rintro e w' ⟨rfl, rfl⟩
    exact ⟨rfl, Fs, es, h, Kept.refl _ _, fun _ q => .inl q⟩
  · obtain ⟨a, c, rfl⟩ := owns_shape ov
    refine (keepP_any Fs _ s es [] a wa zs.length c wn wc zs w h.s (by have := h.l1; omega) (owns_base ov (Nat.zero_le _)) ow ow.lt (fun k e => hFs k (ov.lt k e).1) (by have := ow.len; omega)).mono ?_
    rintro e w' ⟨rfl, F', g, sp, k, hF⟩
    have hF2 : ∀ k, F' k → Fs k ∨ B ≤ k := by
      intro k e
      rcases hF k e with e | e | e
      · exact .inl e
      · exact .inr (ov.lt k e).1
      · exact .inr (Nat.le_trans hB e)
    refine ⟨rfl, F', _, ⟨h.p.kept k (fun b hb e => h.ps b hb e), h.x.kept k (fun b hb e => h.xs b hb e), h.v.kept k (fun b hb e => h.vs b hb e), h.y.kept k (fun b hb e => h.ys b hb e), sp, h.px, h.pv, h.py, fun k q q2 => (hF2 k q2).elim (h.ps k q) (fun q3 => hFp k q3 q), h.xv, h.xy, fun k q q2 => (hF2 k q2).elim (h.xs k q) (fun q3 => hFx k q3 q), h.vy, fun k q q2 => (hF2 k q2).elim (h.vs k q) (fun q3 => hFv k q3 q), fun k q q2 => (hF2 k q2).elim (h.ys k q) (fun q3 => hFy k q3 q), h.hp, h.hx, h.hv, h.hy, fun k q => (hF2 k q).elim (h.hs k) (fun q => Nat.le_trans h0 q), h.bel.trans (k.below h.hs h.bel.size), by rw [List.length_append]; simp; have := h.l1; omega, ?_⟩, k, hF2⟩
    intro e he
    rcases List.mem_append.1 he with he | he
    · exact h.f1 e he
    · rw [List.mem_singleton] at he; rw [he]; exact hl
end Uw

end Go.Proofs.Ytakdfpenpodplaa
