/-
  What the walk of 'unread' carries: two Readers, two of the document's, the Shelf.
-/
import Derived.Test.YtakdfpenpodplaaStandsP
import Derived.Test.YtakdfpenpodplaaRead7
namespace Go.Proofs.Ytakdfpenpodplaa
open Go.RowKit
set_option linter.unusedVariables false

theorem Il.le {w : World} {F : Nat → Prop} {p : Nat} {xs : List Nat} {e : Int} (h : Il w F p xs e) : xs.length ≤ 140737488351232 := by
  obtain ⟨a, n, c, bs, m, hv, hx, hn⟩ := h
  have := hv.bs.len
  rw [hx, List.length_drop]; omega

structure UnP where
  Fr : Nat → Prop
  Fq : Nat → Prop
  Fx : Nat → Prop
  Fy : Nat → Prop
  pr : Nat
  pq : Nat
  px : Nat
  py : Nat
  s : Nat

structure Un (w0 : World) (P : UnP) (Fs : Nat → Prop) (xr : List Nat) (er : Int) (xq : List Nat) (eq : Int) (xx : List Nat) (ex : Int) (xy : List Nat) (ey : Int) (es : List En) (is : List Ei) (w : World) : Prop where
  r : Rd w P.Fr P.pr xr er
  q : Rd w P.Fq P.pq xq eq
  x : Il w P.Fx P.px xx ex
  y : Il w P.Fy P.py xy ey
  s : Spf w Fs P.s es is
  rq : ∀ k, P.Fr k → ¬ P.Fq k
  rx : ∀ k, P.Fr k → ¬ P.Fx k
  ry : ∀ k, P.Fr k → ¬ P.Fy k
  rs : ∀ k, P.Fr k → ¬ Fs k
  qx : ∀ k, P.Fq k → ¬ P.Fx k
  qy : ∀ k, P.Fq k → ¬ P.Fy k
  qs : ∀ k, P.Fq k → ¬ Fs k
  xs : ∀ k, P.Fx k → ¬ Fs k
  ys : ∀ k, P.Fy k → ¬ Fs k
  xy : ¬ P.Fx P.py
  yx : ¬ P.Fy P.px
  xl : ∀ k, P.Fx k → k < w.heap.size
  yl : ∀ k, P.Fy k → k < w.heap.size
  hr : ∀ k, P.Fr k → w0.heap.size ≤ k
  hq : ∀ k, P.Fq k → w0.heap.size ≤ k
  hx : w0.heap.size ≤ P.px
  hy : w0.heap.size ≤ P.py
  hs : ∀ k, Fs k → w0.heap.size ≤ k
  bel : Below w0.heap.size w0 w
  l1 : es.length ≤ 400
  l2 : is.length ≤ 400
  f1 : ∀ e ∈ es, e.xs.length ≤ 140737488351232
  f2 : ∀ e ∈ is, e.xs.length ≤ 10000000000

/-- blocks from B on belong to none of them -/
def Off (w0 : World) (P : UnP) (Fs : Nat → Prop) (B : Nat) : Prop := ∀ k, B ≤ k → ¬ P.Fr k ∧ ¬ P.Fq k ∧ ¬ P.Fx k ∧ ¬ P.Fy k ∧ ¬ Fs k ∧ w0.heap.size ≤ k

namespace Un
variable {w0 w w' : World} {P : UnP} {Fs : Nat → Prop} {xr xq xx xy : List Nat} {er eq ex ey : Int} {es : List En} {is : List Ei}

theorem off (h : Un w0 P Fs xr er xq eq xx ex xy ey es is w) : Off w0 P Fs w.heap.size := by
  intro k hk
  refine ⟨fun e => ?_, fun e => ?_, fun e => ?_, fun e => ?_, fun e => ?_, Nat.le_trans h.bel.size hk⟩
  · have := h.r.flt k e; omega
  · have := h.q.flt k e; omega
  · have := h.xl k e; omega
  · have := h.yl k e; omega
  · have := h.s.flt k e; omega

theorem no (h : Un w0 P Fs xr er xq eq xx ex xy ey es is w) (k : Kept No w w') : Un w0 P Fs xr er xq eq xx ex xy ey es is w' :=
  ⟨h.r.kept k (fun _ _ h => h), h.q.kept k (fun _ _ h => h), h.x.kept k (fun _ _ h => h), h.y.kept k (fun _ _ h => h), h.s.kept k (fun _ _ h => h), h.rq, h.rx, h.ry, h.rs, h.qx, h.qy, h.qs, h.xs, h.ys, h.xy, h.yx, fun j hj => Nat.lt_of_lt_of_le (h.xl j hj) k.size, fun j hj => Nat.lt_of_lt_of_le (h.yl j hj) k.size, h.hr, h.hq, h.hx, h.hy, h.hs, h.bel.trans (k.below (fun _ e => e.elim) h.bel.size), h.l1, h.l2, h.f1, h.f2⟩

theorem dx (h : Un w0 P Fs xr er xq eq xx ex xy ey es is w) {xx' : List Nat} {ex' : Int} (d : IlDid P.Fx P.px xx' ex' w w') : Un w0 P Fs xr er xq eq xx' ex' xy ey es is w' := by
  have hf := h.x.fp
  have k := d.2.1
  exact ⟨h.r.kept k (fun b hb e => h.rx b hb (e ▸ hf)), h.q.kept k (fun b hb e => h.qx b hb (e ▸ hf)), d.1, h.y.kept k (fun b hb e => h.yx (e ▸ hb)), h.s.kept k (fun b hb e => h.xs b (e ▸ hf) hb), h.rq, h.rx, h.ry, h.rs, h.qx, h.qy, h.qs, h.xs, h.ys, h.xy, h.yx, fun j hj => Nat.lt_of_lt_of_le (h.xl j hj) k.size, fun j hj => Nat.lt_of_lt_of_le (h.yl j hj) k.size, h.hr, h.hq, h.hx, h.hy, h.hs, h.bel.trans (k.below (fun _ e => e ▸ h.hx) h.bel.size), h.l1, h.l2, h.f1, h.f2⟩

theorem dy (h : Un w0 P Fs xr er xq eq xx ex xy ey es is w) {xy' : List Nat} {ey' : Int} (d : IlDid P.Fy P.py xy' ey' w w') : Un w0 P Fs xr er xq eq xx ex xy' ey' es is w' := by
  have hf := h.y.fp
  have k := d.2.1
  exact ⟨h.r.kept k (fun b hb e => h.ry b hb (e ▸ hf)), h.q.kept k (fun b hb e => h.qy b hb (e ▸ hf)), h.x.kept k (fun b hb e => h.xy (e ▸ hb)), d.1, h.s.kept k (fun b hb e => h.ys b (e ▸ hf) hb), h.rq, h.rx, h.ry, h.rs, h.qx, h.qy, h.qs, h.xs, h.ys, h.xy, h.yx, fun j hj => Nat.lt_of_lt_of_le (h.xl j hj) k.size, fun j hj => Nat.lt_of_lt_of_le (h.yl j hj) k.size, h.hr, h.hq, h.hx, h.hy, h.hs, h.bel.trans (k.below (fun _ e => e ▸ h.hy) h.bel.size), h.l1, h.l2, h.f1, h.f2⟩

theorem dr (h : Un w0 P Fs xr er xq eq xx ex xy ey es is w) {xr' : List Nat} {er' : Int} (d : RdDid P.Fr P.pr xr' er' w w') : Un w0 P Fs xr' er' xq eq xx ex xy ey es is w' := by
  have hf := h.r.fp
  have k := d.2
  exact ⟨d.1, h.q.kept k (fun b hb e => h.rq b (e ▸ hf) hb), h.x.kept k (fun b hb e => h.rx b (e ▸ hf) hb), h.y.kept k (fun b hb e => h.ry b (e ▸ hf) hb), h.s.kept k (fun b hb e => h.rs b (e ▸ hf) hb), h.rq, h.rx, h.ry, h.rs, h.qx, h.qy, h.qs, h.xs, h.ys, h.xy, h.yx, fun j hj => Nat.lt_of_lt_of_le (h.xl j hj) k.size, fun j hj => Nat.lt_of_lt_of_le (h.yl j hj) k.size, h.hr, h.hq, h.hx, h.hy, h.hs, h.bel.trans (k.below (fun j e => h.hr j (e ▸ hf)) h.bel.size), h.l1, h.l2, h.f1, h.f2⟩

theorem dq (h : Un w0 P Fs xr er xq eq xx ex xy ey es is w) {xq' : List Nat} {eq' : Int} (d : RdDid P.Fq P.pq xq' eq' w w') : Un w0 P Fs xr er xq' eq' xx ex xy ey es is w' := by
  have hf := h.q.fp
  have k := d.2
  exact ⟨h.r.kept k (fun b hb e => h.rq b hb (e ▸ hf)), d.1, h.x.kept k (fun b hb e => h.qx b (e ▸ hf) hb), h.y.kept k (fun b hb e => h.qy b (e ▸ hf) hb), h.s.kept k (fun b hb e => h.qs b (e ▸ hf) hb), h.rq, h.rx, h.ry, h.rs, h.qx, h.qy, h.qs, h.xs, h.ys, h.xy, h.yx, fun j hj => Nat.lt_of_lt_of_le (h.xl j hj) k.size, fun j hj => Nat.lt_of_lt_of_le (h.yl j hj) k.size, h.hr, h.hq, h.hx, h.hy, h.hs, h.bel.trans (k.below (fun j e => h.hq j (e ▸ hf)) h.bel.size), h.l1, h.l2, h.f1, h.f2⟩

theorem drx (h : Un w0 P Fs xr er xq eq xx ex xy ey es is w) {x' : List Nat} {e' : Int} (d : Both P.Fr P.Fx P.pr P.px x' e' w w') : Un w0 P Fs x' e' xq eq x' e' xy ey es is w' := by
  have hf := h.r.fp
  have hg := h.x.fp
  have k := d.2.2
  exact ⟨d.1, h.q.kept k (fun b hb e => e.elim (fun e => h.rq b (e ▸ hf) hb) (fun e => h.qx b hb (e ▸ hg))), d.2.1, h.y.kept k (fun b hb e => e.elim (fun e => h.ry b (e ▸ hf) hb) (fun e => h.yx (e ▸ hb))), h.s.kept k (fun b hb e => e.elim (fun e => h.rs b (e ▸ hf) hb) (fun e => h.xs b (e ▸ hg) hb)), h.rq, h.rx, h.ry, h.rs, h.qx, h.qy, h.qs, h.xs, h.ys, h.xy, h.yx, fun j hj => Nat.lt_of_lt_of_le (h.xl j hj) k.size, fun j hj => Nat.lt_of_lt_of_le (h.yl j hj) k.size, h.hr, h.hq, h.hx, h.hy, h.hs, h.bel.trans (k.below (fun j e => e.elim (fun e => h.hr j (e ▸ hf)) (fun e => e ▸ h.hx)) h.bel.size), h.l1, h.l2, h.f1, h.f2⟩

theorem dqy (h : Un w0 P Fs xr er xq eq xx ex xy ey es is w) {x' : List Nat} {e' : Int} (d : Both P.Fq P.Fy P.pq P.py x' e' w w') : Un w0 P Fs xr er x' e' xx ex x' e' es is w' := by
  have hf := h.q.fp
  have hg := h.y.fp
  have k := d.2.2
  exact ⟨h.r.kept k (fun b hb e => e.elim (fun e => h.rq b hb (e ▸ hf)) (fun e => h.ry b hb (e ▸ hg))), d.1, h.x.kept k (fun b hb e => e.elim (fun e => h.qx b (e ▸ hf) hb) (fun e => h.xy (e ▸ hb))), d.2.1, h.s.kept k (fun b hb e => e.elim (fun e => h.qs b (e ▸ hf) hb) (fun e => h.ys b (e ▸ hg) hb)), h.rq, h.rx, h.ry, h.rs, h.qx, h.qy, h.qs, h.xs, h.ys, h.xy, h.yx, fun j hj => Nat.lt_of_lt_of_le (h.xl j hj) k.size, fun j hj => Nat.lt_of_lt_of_le (h.yl j hj) k.size, h.hr, h.hq, h.hx, h.hy, h.hs, h.bel.trans (k.below (fun j e => e.elim (fun e => h.hq j (e ▸ hf)) (fun e => e ▸ h.hy)) h.bel.size), h.l1, h.l2, h.f1, h.f2⟩

theorem ds (h : Un w0 P Fs xr er xq eq xx ex xy ey es is w) {Fs' : Nat → Prop} {es' : List En} {is' : List Ei} {B : Nat} (sp : Spf w' Fs' P.s es' is') (k : Kept Fs w w') (ho : Off w0 P Fs B) (hF : ∀ k, Fs' k → Fs k ∨ B ≤ k) (l1 : es'.length ≤ 400) (l2 : is'.length ≤ 400) (f1 : ∀ e ∈ es', e.xs.length ≤ 140737488351232) (f2 : ∀ e ∈ is', e.xs.length ≤ 10000000000) : Un w0 P Fs' xr er xq eq xx ex xy ey es' is' w' :=
  ⟨h.r.kept k h.rs, h.q.kept k h.qs, h.x.kept k h.xs, h.y.kept k h.ys, sp, h.rq, h.rx, h.ry, fun k e e2 => (hF k e2).elim (h.rs k e) (fun e3 => (ho k e3).1 e), h.qx, h.qy, fun k e e2 => (hF k e2).elim (h.qs k e) (fun e3 => (ho k e3).2.1 e), fun k e e2 => (hF k e2).elim (h.xs k e) (fun e3 => (ho k e3).2.2.1 e), fun k e e2 => (hF k e2).elim (h.ys k e) (fun e3 => (ho k e3).2.2.2.1 e), h.xy, h.yx, fun j hj => Nat.lt_of_lt_of_le (h.xl j hj) k.size, fun j hj => Nat.lt_of_lt_of_le (h.yl j hj) k.size, h.hr, h.hq, h.hx, h.hy, fun k e => (hF k e).elim (h.hs k) (fun e => (ho k e).2.2.2.2.2), h.bel.trans (k.below h.hs h.bel.size), l1, l2, f1, f2⟩

/-- 'keep', full shelf or not -/
theorem keep (h : Un w0 P Fs xr er xq eq xx ex xy ey es is w) {v wv : Value} {B B' : Nat} {zs : List Nat} (ho : Off w0 P Fs B) (hB : B ≤ w.heap.size) (ov : w.ownsRow B 5 1 v zs.length (zs.map bv)) (ow : w.ownsRow B' 5 1 wv zs.length (zs.map bv)) (hz : ∀ z ∈ zs, z < 256) (hl : zs.length ≤ 140737488351232) :
    Calls Try.prog 56 #[.pointer (some ⟨P.s, 0, none⟩), v, wv] w fun ex' w' => ex' = .returned (.tuple #[]) ∧ ∃ Fs' es', Un w0 P Fs' xr er xq eq xx ex xy ey es' is w' ∧ Kept Fs w w' := by
  by_cases h4 : es.length = 400
  · refine (keepFull_any Fs P.s es is v wv w h.s h4).mono ?_
    rintro e w' ⟨rfl, rfl⟩
    exact ⟨rfl, Fs, es, h, Kept.refl _ _⟩
  · obtain ⟨a, c, rfl⟩ := owns_shape ov
    obtain ⟨a', c', rfl, hb⟩ := Bs.of_owns ow hz
    refine (keepP_any Fs _ P.s es is a a' zs.length c zs.length c' zs w h.s (by have := h.l1; omega) (owns_base ov (Nat.zero_le _)) hb hz (fun k e => (ho k (ov.lt k e).1).2.2.2.2.1) hl).mono ?_
    rintro e w' ⟨rfl, F', g, sp, k, hF⟩
    refine ⟨rfl, F', _, h.ds sp k ho (fun k e => ?_) (by rw [List.length_append]; simp; have := h.l1; omega) h.l2 ?_ h.f2, k⟩
    · rcases hF k e with e | e | e
      · exact .inl e
      · exact .inr (ov.lt k e).1
      · exact .inr (Nat.le_trans hB e)
    · intro e he
      rcases List.mem_append.1 he with he | he
      · exact h.f1 e he
      · rw [List.mem_singleton] at he; rw [he]; exact hl

/-- 'keepInts', full shelf or not -/
theorem keepInts (h : Un w0 P Fs xr er xq eq xx ex xy ey es is w) {v wv : Value} {B B' : Nat} {zs : List Int} (ho : Off w0 P Fs B) (hB : B ≤ w.heap.size) (ov : w.ownsRow B 3 1 v zs.length (zs.map iv)) (ow : w.ownsRow B' 3 1 wv zs.length (zs.map iv)) (hl : zs.length ≤ 10000000000) :
    Calls Try.prog 77 #[.pointer (some ⟨P.s, 0, none⟩), v, wv] w fun ex' w' => ex' = .returned (.tuple #[]) ∧ ∃ Fs' is', Un w0 P Fs' xr er xq eq xx ex xy ey es is' w' ∧ Kept Fs w w' := by
  by_cases h4 : is.length = 400
  · refine (keepIntsFull_any Fs P.s es is v wv w h.s h4).mono ?_
    rintro e w' ⟨rfl, rfl⟩
    exact ⟨rfl, Fs, is, h, Kept.refl _ _⟩
  · obtain ⟨a, c, rfl⟩ := owns_shape ov
    obtain ⟨a', c', rfl, hb⟩ := Zs.of_owns ow
    refine (keepQ_any Fs _ P.s es is a a' zs.length c zs.length c' zs w h.s (by have := h.l2; omega) (owns_base ov (Nat.zero_le _)) hb (fun k e => (ho k (ov.lt k e).1).2.2.2.2.1) hl).mono ?_
    rintro e w' ⟨rfl, F', g, sp, k, hF⟩
    refine ⟨rfl, F', _, h.ds sp k ho (fun k e => ?_) h.l1 (by rw [List.length_append]; simp; have := h.l2; omega) h.f1 ?_, k⟩
    · rcases hF k e with e | e | e
      · exact .inl e
      · exact .inr (ov.lt k e).1
      · exact .inr (Nat.le_trans hB e)
    · intro e he
      rcases List.mem_append.1 he with he | he
      · exact h.f2 e he
      · rw [List.mem_singleton] at he; rw [he]; exact hl
end Un

end Go.Proofs.Ytakdfpenpodplaa
