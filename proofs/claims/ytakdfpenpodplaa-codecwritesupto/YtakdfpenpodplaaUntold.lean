/-
  'untold'.
-/
import Derived.Test.YtakdfpenpodplaaLpWalk
import Derived.Test.YtakdfpenpodplaaOpenScript
namespace Go.Proofs.Ytakdfpenpodplaa
open Go.RowKit
set_option linter.unusedVariables false

/-- a script's operations, as they lie -/
def Ow (W : World) (a : Option Addr) (os : List OpD) : Prop := ∀ i d, os[i]? = some d → ∃ b o, a = some ⟨b, o, none⟩ ∧ OpOk W b (o + i * 7) d
theorem OpOk.below {w0 w : World} {b o : Nat} {d : OpD} (h : OpOk w0 b o d) (k : Below w0.heap.size w0 w) : OpOk w b o d := by
  obtain ⟨ba, bn, bc, la, ln, lc, h1, h2, h3, h4⟩ := h
  exact ⟨ba, bn, bc, la, ln, lc, h1.below k, h2.kept (Kept.of_below (F := No) k) (fun _ _ h => h), h3.kept (Kept.of_below (F := No) k) (fun _ _ h => h), h4⟩
theorem Ow.below {w0 w : World} {a : Option Addr} {os : List OpD} (h : Ow w0 a os) (k : Below w0.heap.size w0 w) : Ow w a os := by
  intro i d hd
  obtain ⟨b, o, h1, h2⟩ := h i d hd
  exact ⟨b, o, h1, h2.below k⟩

theorem Bs.inW {w : World} {F : Nat → Prop} {a : Option Addr} {n c : Nat} {xs : List Nat} (h : Bs w F a n c xs) : Bs w (fun k => k < w.heap.size) a n c xs :=
  ⟨h.len, h.cap, h.max, h.nil, fun i hi => by obtain ⟨b, o, e, _, hc⟩ := h.at' i hi; exact ⟨b, o, e, cell_lt hc, hc⟩, h.lt⟩
theorem Zs.inW {w : World} {F : Nat → Prop} {a : Option Addr} {n c : Nat} {xs : List Int} (h : Zs w F a n c xs) : Zs w (fun k => k < w.heap.size) a n c xs :=
  ⟨h.len, h.cap, h.max, h.nil, fun i hi => by obtain ⟨b, o, e, _, hc⟩ := h.at' i hi; exact ⟨b, o, e, cell_lt hc, hc⟩⟩

/-- what a script leaves -/
def wD (s : List Nat × Int) (d : OpD) : List Nat × Int := wOp s.1 s.2 d.K d.N d.Wd d.Fl d.xs d.zs d.M
def wSt (os : List OpD) (k : Nat) : List Nat × Int := (os.take k).foldl wD ([], 0)
def oSum (os : List OpD) : Nat := (os.map (fun d => d.xs.length + d.zs.length + 1)).sum
theorem wSt_next (os : List OpD) (k : Nat) (d : OpD) (h : os[k]? = some d) : wSt os (k + 1) = wD (wSt os k) d := by
  unfold wSt
  rw [List.take_add_one, h, List.foldl_append]; rfl
theorem wSt_end (os : List OpD) (k : Nat) (h : os.length ≤ k) : wSt os (k + 1) = wSt os k := by
  unfold wSt; rw [List.take_of_length_le (by omega), List.take_of_length_le h]
theorem oSum_next (os : List OpD) (k : Nat) (d : OpD) (h : os[k]? = some d) : oSum (os.take (k + 1)) = oSum (os.take k) + (d.xs.length + d.zs.length + 1) := by
  unfold oSum
  rw [List.take_add_one, h, List.map_append, List.sum_append]; simp
theorem oSum_le (os : List OpD) (k : Nat) : oSum (os.take k) ≤ oSum os := by
  have h : oSum os = oSum (os.take k) + oSum (os.drop k) := by
    conv => lhs; rw [← List.take_append_drop k os]
    unfold oSum
    rw [List.map_append, List.sum_append]
  omega
theorem oSum_get (os : List OpD) (k : Nat) (d : OpD) (h : os[k]? = some d) : d.xs.length + d.zs.length + 1 ≤ oSum os := by
  have := oSum_next os k d h; have := oSum_le os (k + 1); omega
theorem wOp_len (bs : List Nat) (e K N Wd : Int) (Fl : Bool) (xs : List Nat) (zs : List Int) (M : Int) : (wOp bs e K N Wd Fl xs zs M).1.length ≤ bs.length + 12 * (xs.length + zs.length + 1) := by
  have h8 : (be64 Wd).length = 8 := be_length _ _
  have h1 : (flagB Fl).length = 1 := rfl
  unfold wOp
  repeat' split
  · have := numBs_len bs e N 1; simp only; omega
  · have := numBs_len bs e N 2; simp only; omega
  · have := numBs_len bs e N 4; simp only; omega
  · have := layBs_len bs e (be64 Wd); simp only; omega
  · have := layBs_len bs e (flagB Fl); simp only; omega
  · have := layBs_len bs e xs; simp only; omega
  · have := pl_len bs e zs M; omega
  · simp only; omega
theorem wSt_len (os : List OpD) (k : Nat) : (wSt os k).1.length ≤ 12 * oSum (os.take k) := by
  induction k with
  | zero => simp [wSt]
  | succ k ih =>
    by_cases h : k < os.length
    · have hd : os[k]? = some os[k] := List.getElem?_eq_getElem h
      rw [wSt_next os k _ hd, oSum_next os k _ hd]
      have := wOp_len (wSt os k).1 (wSt os k).2 os[k].K os[k].N os[k].Wd os[k].Fl os[k].xs os[k].zs os[k].M
      unfold wD
      omega
    · rw [wSt_end os k (by omega), List.take_of_length_le (by omega)]
      rw [List.take_of_length_le (by omega)] at ih
      exact ih

namespace Uw
variable {w0 w w' : World} {Fp Fv Fx Fy Fs : Nat → Prop} {p v x y s : Nat} {b1 b2 b' : List Nat} {e1 e2 e' : Int} {es : List En}

/-- 'keep' of a list whose row is none of theirs -/
theorem keep2 (h : Uw w0 Fp Fv Fx Fy Fs p v x y s b1 e1 b2 e2 es w) {u : Value} {wa : Option Addr} {wn wc B : Nat} {zs : List Nat} {G : Nat → Prop}
    (ov : w.ownsRow B 5 1 u zs.length (zs.map bv)) (hu : ∀ k, u.ownBlock = some k → w0.heap.size ≤ k ∧ ¬ Fp k ∧ ¬ Fx k ∧ ¬ Fv k ∧ ¬ Fy k ∧ ¬ Fs k) (ow : Bs w G wa wn wc zs) (hl : zs.length ≤ 1000000000) :
    Calls Try.prog 56 #[.pointer (some ⟨s, 0, none⟩), u, .slice wa wn wc] w fun ex w' => ex = .returned (.tuple #[]) ∧ ∃ Fs' es', Uw w0 Fp Fv Fx Fy Fs' p v x y s b1 e1 b2 e2 es' w' ∧ Kept Fs w w' ∧ ∀ k, Fs' k → Fs k ∨ u.ownBlock = some k ∨ w.heap.size ≤ k := by
  by_cases h4 : es.length = 400
  · refine (keepFull_any Fs s es [] u _ w h.s h4).mono ?_
    rintro e w' ⟨rfl, rfl⟩
    exact ⟨rfl, Fs, es, h, Kept.refl _ _, fun _ q => .inl q⟩
  · obtain ⟨a, c, rfl⟩ := owns_shape ov
    refine (keepP_any Fs _ s es [] a wa zs.length c wn wc zs w h.s (by have := h.l1; omega) (owns_base ov (Nat.zero_le _)) ow ow.lt (fun k e => (hu k e).2.2.2.2.2) (by have := ow.len; omega)).mono ?_
    rintro e w' ⟨rfl, F', g, sp, k, hF⟩
    have off : ∀ {A : Nat → Prop}, (∀ j, A j → ¬ Fs j) → (∀ j, (Value.slice a zs.length c).ownBlock = some j → ¬ A j) → (∀ j, A j → j < w.heap.size) → Dis A F' := by
      intro A d1 d2 d3 j q q2
      rcases hF j q2 with q3 | q3 | q3
      · exact d1 j q q3
      · exact d2 j q3 q
      · have := d3 j q; omega
    refine ⟨rfl, F', _, ⟨h.p.kept k (fun b hb e => h.ps b hb e), h.x.kept k (fun b hb e => h.xs b hb e), h.v.kept k (fun b hb e => h.vs b hb e), h.y.kept k (fun b hb e => h.ys b hb e), sp, h.px, h.pv, h.py,
      off h.ps (fun j q => (hu j q).2.1) h.p.flt', h.xv, h.xy, off h.xs (fun j q => (hu j q).2.2.1) h.x.flt, h.vy, off h.vs (fun j q => (hu j q).2.2.2.1) h.v.flt', off h.ys (fun j q => (hu j q).2.2.2.2.1) h.y.flt, h.hp, h.hx, h.hv, h.hy, ?_, h.bel.trans (k.below h.hs h.bel.size), by rw [List.length_append]; simp; have := h.l1; omega, ?_⟩, k, hF⟩
    · intro j q
      rcases hF j q with q3 | q3 | q3
      · exact h.hs j q3
      · exact (hu j q3).1
      · exact Nat.le_trans h.bel.size q3
    · intro e he
      rcases List.mem_append.1 he with he | he
      · exact h.f1 e he
      · rw [List.mem_singleton] at he; rw [he]; exact hl
end Uw

theorem uw_new (w : World) : ∃ Fp Fv Fx Fy Fs, Uw w Fp Fv Fx Fy Fs w.heap.size (w.heap.size + 1) (w.heap.size + 1 + 1) (w.heap.size + 1 + 1 + 1) (w.heap.size + 1 + 1 + 1 + 1) [] 0 [] 0 []
    (((((w.alloc (.cells #[.slice none 0 0, .int .i64 0] 69)).alloc (.cells #[.slice none 0 0, .int .i64 0] 69)).alloc (.cells #[.slice none 0 0, .int .i64 0] 61)).alloc (.cells #[.slice none 0 0, .int .i64 0] 61)).alloc (.cells #[.slice none 0 0, .slice none 0 0, .slice none 0 0, .slice none 0 0] 78)) := by
  obtain ⟨W1, hW1⟩ : ∃ W1, W1 = w.alloc (.cells #[.slice none 0 0, .int .i64 0] 69) := ⟨_, rfl⟩
  obtain ⟨W2, hW2⟩ : ∃ W2, W2 = W1.alloc (.cells #[.slice none 0 0, .int .i64 0] 69) := ⟨_, rfl⟩
  obtain ⟨W3, hW3⟩ : ∃ W3, W3 = W2.alloc (.cells #[.slice none 0 0, .int .i64 0] 61) := ⟨_, rfl⟩
  obtain ⟨W4, hW4⟩ : ∃ W4, W4 = W3.alloc (.cells #[.slice none 0 0, .int .i64 0] 61) := ⟨_, rfl⟩
  obtain ⟨W5, hW5⟩ : ∃ W5, W5 = W4.alloc (.cells #[.slice none 0 0, .slice none 0 0, .slice none 0 0, .slice none 0 0] 78) := ⟨_, rfl⟩
  rw [← hW1, ← hW2, ← hW3, ← hW4, ← hW5]
  have z1 : W1.heap.size = w.heap.size + 1 := by rw [hW1]; exact size_alloc _ _
  have z2 : W2.heap.size = w.heap.size + 1 + 1 := by rw [hW2, size_alloc, z1]
  have z3 : W3.heap.size = w.heap.size + 1 + 1 + 1 := by rw [hW3, size_alloc, z2]
  have z4 : W4.heap.size = w.heap.size + 1 + 1 + 1 + 1 := by rw [hW4, size_alloc, z3]
  have z5 : W5.heap.size = w.heap.size + 1 + 1 + 1 + 1 + 1 := by rw [hW5, size_alloc, z4]
  have K1 : Kept No w W1 := by rw [hW1]; exact (Kept.refl No w).alloc _
  have K2 : Kept No W1 W2 := by rw [hW2]; exact (Kept.refl No W1).alloc _
  have K3 : Kept No W2 W3 := by rw [hW3]; exact (Kept.refl No W2).alloc _
  have K4 : Kept No W3 W4 := by rw [hW4]; exact (Kept.refl No W3).alloc _
  have K5 : Kept No W4 W5 := by rw [hW5]; exact (Kept.refl No W4).alloc _
  have K45 : Kept No W3 W5 := K4.trans K5 (fun _ h => h.elim)
  have K35 : Kept No W2 W5 := K3.trans K45 (fun _ h => h.elim)
  have K25 : Kept No W1 W5 := K2.trans K35 (fun _ h => h.elim)
  have K15 : Kept No w W5 := K1.trans K25 (fun _ h => h.elim)
  have hp : Wr W5 (fun k => k = w.heap.size) w.heap.size [] 0 := by
    have : Wr W1 (fun k => k = w.heap.size) w.heap.size [] 0 := by rw [hW1]; exact wr_new w (fun k => k = w.heap.size) rfl (fun k q => Nat.le_of_eq q)
    exact this.kept K25 (fun _ _ h => h)
  have hv : Wr W5 (fun k => k = w.heap.size + 1) (w.heap.size + 1) [] 0 := by
    have : Wr W2 (fun k => k = W1.heap.size) W1.heap.size [] 0 := by rw [hW2]; exact wr_new W1 (fun k => k = W1.heap.size) rfl (fun k q => Nat.le_of_eq q)
    rw [z1] at this
    exact this.kept K35 (fun _ _ h => h)
  have hx : Ou W5 (fun k => k = w.heap.size + 1 + 1) (w.heap.size + 1 + 1) [] 0 := by
    have : Ou W3 (fun k => k = W2.heap.size) W2.heap.size [] 0 := by rw [hW3]; exact ou_new W2 (fun k => k = W2.heap.size) rfl (fun k q => Nat.le_of_eq q)
    rw [z2] at this
    exact this.kept K45 (fun _ _ h => h)
  have hy : Ou W5 (fun k => k = w.heap.size + 1 + 1 + 1) (w.heap.size + 1 + 1 + 1) [] 0 := by
    have : Ou W4 (fun k => k = W3.heap.size) W3.heap.size [] 0 := by rw [hW4]; exact ou_new W3 (fun k => k = W3.heap.size) rfl (fun k q => Nat.le_of_eq q)
    rw [z3] at this
    exact this.kept K5 (fun _ _ h => h)
  have hs : Spf W5 (fun k => k = w.heap.size + 1 + 1 + 1 + 1) (w.heap.size + 1 + 1 + 1 + 1) [] [] := by rw [← z4, hW5]; exact spf_new W4
  refine ⟨_, _, _, _, _, hp, hx, hv, hy, hs, ?_, ?_, ?_, ?_, ?_, ?_, ?_, ?_, ?_, ?_, ?_, ?_, ?_, ?_, ?_, K15.below0, by simp, (fun e q => by cases q)⟩
  all_goals first
    | (intro k e e2; omega)
    | (intro k e; omega)
    | (intro k e e2; dsimp only at e e2; omega)
    | (intro k e; dsimp only at e; omega)

end Go.Proofs.Ytakdfpenpodplaa

namespace Go.Proofs.Ytakdfpenpodplaa
open Go.RowKit
set_option linter.unusedVariables false

/-- what stands in the operation's block ahead of the calls -/
structure Opk (w0 : World) (os : List OpD) (k q : Nat) (d : OpD) (ba : Option Addr) (bn bc : Nat) (la : Option Addr) (ln lc : Nat) (w : World) : Prop where
  blk : OpBlk w q d.K d.N d.Wd d.Fl ba bn bc la ln lc d.M
  bs : Bs w (fun k => k < w0.heap.size) ba bn bc d.xs
  zs : Zs w (fun k => k < w0.heap.size) la ln lc d.zs
  n : d.N ≤ 9223372036854775807
  zb : ∀ z ∈ d.zs, -9223372036854775808 ≤ z ∧ z ≤ 9223372036854775807
  bn : bn ≤ 1048576
  ln : ln ≤ 1048576
  st : wSt os (k + 1) = wD (wSt os k) d

theorem Opk.kept {w0 w w' : World} {os : List OpD} {k q : Nat} {d : OpD} {ba : Option Addr} {bn bc : Nat} {la : Option Addr} {ln lc : Nat} {F : Nat → Prop} (h : Opk w0 os k q d ba bn bc la ln lc w) (kp : Kept F w w') (hq : ¬ F q) (hF : ∀ j, F j → w0.heap.size ≤ j) : Opk w0 os k q d ba bn bc la ln lc w' :=
  ⟨kp.at' h.blk hq, h.bs.kept kp (fun b hb hf => by have := hF b hf; omega), h.zs.kept kp (fun b hb hf => by have := hF b hf; omega), h.n, h.zb, h.bn, h.ln, h.st⟩

theorem Uw.off {w0 w w' : World} {Fp Fv Fx Fy Fs : Nat → Prop} {p v x y s q : Nat} {b1 b2 : List Nat} {e1 e2 : Int} {es : List En} (h : Uw w0 Fp Fv Fx Fy Fs p v x y s b1 e1 b2 e2 es w) (k : Kept (fun j => j = q) w w') (hn : ¬ Fp q ∧ ¬ Fx q ∧ ¬ Fv q ∧ ¬ Fy q ∧ ¬ Fs q ∧ w0.heap.size ≤ q) : Uw w0 Fp Fv Fx Fy Fs p v x y s b1 e1 b2 e2 es w' :=
  ⟨h.p.kept k (fun b hb e => hn.1 (e ▸ hb)), h.x.kept k (fun b hb e => hn.2.1 (e ▸ hb)), h.v.kept k (fun b hb e => hn.2.2.1 (e ▸ hb)), h.y.kept k (fun b hb e => hn.2.2.2.1 (e ▸ hb)), h.s.kept k (fun b hb e => hn.2.2.2.2.1 (e ▸ hb)), h.px, h.pv, h.py, h.ps, h.xv, h.xy, h.xs, h.vy, h.vs, h.ys, h.hp, h.hx, h.hv, h.hy, h.hs, h.bel.trans (k.below (fun j e => e ▸ hn.2.2.2.2.2) h.bel.size), h.l1, h.f1⟩

theorem blk_set7 {W : World} {q : Nat} {K0 N0 W0 M0 : Int} {F0 : Bool} {ba0 la0 : Option Addr} {bn0 bc0 ln0 lc0 : Nat} (h : OpBlk W q K0 N0 W0 F0 ba0 bn0 bc0 la0 ln0 lc0 M0) (K N Wd : Int) (Fl : Bool) (ba : Option Addr) (bn bc : Nat) (la : Option Addr) (ln lc : Nat) (M : Int) :
    OpBlk (((((((W.setCell ⟨q, 0, none⟩ (.int .i64 K)).setCell ⟨q, 1, none⟩ (.int .i64 N)).setCell ⟨q, 2, none⟩ (.int .i64 Wd)).setCell ⟨q, 3, none⟩ (.bool Fl)).setCell ⟨q, 4, none⟩ (.slice ba bn bc)).setCell ⟨q, 5, none⟩ (.slice la ln lc)).setCell ⟨q, 6, none⟩ (.int .i64 M)) q K N Wd Fl ba bn bc la ln lc M ∧
    Kept (fun j => j = q) W (((((((W.setCell ⟨q, 0, none⟩ (.int .i64 K)).setCell ⟨q, 1, none⟩ (.int .i64 N)).setCell ⟨q, 2, none⟩ (.int .i64 Wd)).setCell ⟨q, 3, none⟩ (.bool Fl)).setCell ⟨q, 4, none⟩ (.slice ba bn bc)).setCell ⟨q, 5, none⟩ (.slice la ln lc)).setCell ⟨q, 6, none⟩ (.int .i64 M)) := by
  refine ⟨?_, (((((((Kept.refl (fun j => j = q) W).setCell (p := ⟨q, 0, none⟩) (.inl rfl) _).setCell (p := ⟨q, 1, none⟩) (.inl rfl) _).setCell (p := ⟨q, 2, none⟩) (.inl rfl) _).setCell (p := ⟨q, 3, none⟩) (.inl rfl) _).setCell (p := ⟨q, 4, none⟩) (.inl rfl) _).setCell (p := ⟨q, 5, none⟩) (.inl rfl) _).setCell (p := ⟨q, 6, none⟩) (.inl rfl) _⟩
  unfold OpBlk at h ⊢
  simp [World.setCell, Array.getElem?_modify, h]

theorem opk_one {w0 W' : World} {os : List OpD} {k q : Nat} {d : OpD} {ba : Option Addr} {bn bc : Nat} {la : Option Addr} {ln lc : Nat} (hd : os[k]? = some d) (hs : oSum os ≤ 1048576) (hB : Bs w0 (fun _ => True) ba bn bc d.xs) (hZ : Zs w0 (fun _ => True) la ln lc d.zs) (hN : d.N ≤ 9223372036854775807) (hzb : ∀ z ∈ d.zs, -9223372036854775808 ≤ z ∧ z ≤ 9223372036854775807)
    (b : Below w0.heap.size w0 W') (hq : OpBlk W' q d.K d.N d.Wd d.Fl ba bn bc la ln lc d.M) : Opk w0 os k q d ba bn bc la ln lc W' := by
  have h1 := oSum_get os k d hd
  have h2 := hB.len
  have h3 := hZ.len
  exact ⟨hq, hB.inW.kept (Kept.of_below (F := No) b) (fun _ _ h => h), hZ.inW.kept (Kept.of_below (F := No) b) (fun _ _ h => h), hN, hzb, by omega, by omega, wSt_next os k d hd⟩
theorem opk_end {w0 W : World} {os : List OpD} {k q : Nat} (hk : os.length ≤ k) (hq : OpBlk W q 8 0 0 false none 0 0 none 0 0 0) : Opk w0 os k q ⟨8, 0, 0, false, [], [], 0⟩ none 0 0 none 0 0 W := by
  refine ⟨hq, ⟨rfl, by omega, by omega, fun _ => rfl, fun i hi => by omega, (fun x hx => by cases hx)⟩, ⟨rfl, by omega, by omega, fun _ => rfl, fun i hi => by omega⟩, by decide, (fun z hz => by cases hz), by omega, by omega, ?_⟩
  rw [wSt_end os k hk]
  unfold wD wOp
  simp
theorem wD_eight (s : List Nat × Int) (N Wd : Int) (Fl : Bool) (xs : List Nat) (zs : List Int) (M : Int) : wD s ⟨8, N, Wd, Fl, xs, zs, M⟩ = s := by
  unfold wD wOp; simp

theorem Bw.kept {F G : Nat → Prop} {p q : Nat} {bs : List Nat} {e : Int} {w w' : World} (h : Bw F G p q bs e w w') : Kept (fun k => F k ∨ G k) w w' := by
  obtain ⟨_, _, _, _, _, k, _⟩ := h; exact k

set_option maxRecDepth 100000 in
set_option maxHeartbeats 4000000 in
theorem untold_any (a' : Option Addr) (m c' : Nat) (os : List OpD) (w : World) (hos : Ow w a' os) (hol : os.length = m) (hsum : oSum os ≤ 1048576) (hmc : m ≤ c') (hm : m ≤ 1048576) :
    Calls Try.prog 45 #[.slice a' m c'] w fun e w' => e = .returned (.bool true) ∧ Below w.heap.size w w' := by
  have q2 : ∀ (w : World) (a : Addr), (binOp .eql 39 (.pointer (some a)) (.pointer none)).run Try.prog w = .ok (.bool false) w := fun w a => by first | rfl | simp
  obtain ⟨Fp, Fv, Fx, Fy, Fs, huw⟩ := uw_new w
  have HUW : Hid (Uw w Fp Fv Fx Fy Fs w.heap.size (w.heap.size + 1) (w.heap.size + 1 + 1) (w.heap.size + 1 + 1 + 1) (w.heap.size + 1 + 1 + 1 + 1) [] 0 [] 0 []
    (((((w.alloc (.cells #[.slice none 0 0, .int .i64 0] 69)).alloc (.cells #[.slice none 0 0, .int .i64 0] 69)).alloc (.cells #[.slice none 0 0, .int .i64 0] 61)).alloc (.cells #[.slice none 0 0, .int .i64 0] 61)).alloc (.cells #[.slice none 0 0, .slice none 0 0, .slice none 0 0, .slice none 0 0] 78))) := huw
  have HOS : Hid (Ow w a' os) := hos
  have HOL : Hid (os.length = m) := hol
  have HSUM : Hid (oSum os ≤ 1048576) := hsum
  clear hos hol hsum huw
  go_enter Try.func45, Try.ntmps45
  go_upto_region 2 with (go_at_call 23; refine (newWriter_any w).mono ?_; rintro ex w1 ⟨rfl, rfl⟩)
  go_upto_region 3 with (go_at_call 23; refine (newWriter_any _).mono ?_; rintro ex w2 ⟨rfl, rfl⟩)
  go_upto_region 8 with fail
  generalize (((((w.alloc (.cells #[.slice none 0 0, .int .i64 0] 69)).alloc (.cells #[.slice none 0 0, .int .i64 0] 69)).alloc (.cells #[.slice none 0 0, .int .i64 0] 61)).alloc (.cells #[.slice none 0 0, .int .i64 0] 61)).alloc (.cells #[.slice none 0 0, .slice none 0 0, .slice none 0 0, .slice none 0 0] 78)) = W0 at HUW ⊢
  generalize w.heap.size + 1 + 1 + 1 + 1 = s at HUW ⊢
  generalize w.heap.size + 1 + 1 + 1 = y at HUW ⊢
  generalize w.heap.size + 1 + 1 = x at HUW ⊢
  generalize w.heap.size + 1 = v at HUW ⊢
  go_loopw [8] (fun i wr => ∃ k : Nat, k ≤ m + 1 ∧ i = .int .i64 k ∧ ∃ Fp Fv Fx Fy Fs es, Uw w Fp Fv Fx Fy Fs w.heap.size v x y s (wSt os k).1 (wSt os k).2 (wSt os k).1 (wSt os k).2 es wr) (fun i _ => m + 1 - (intOf i).toNat)
  case atStart => exact ⟨0, by omega, rfl, Fp, Fv, Fx, Fy, Fs, [], HUW.out⟩
  case round =>
    clear HUW
    obtain ⟨k, hk, rfl, Fp, Fv, Fx, Fy, Fs, es, huw⟩ := hrel
    have HU : Hid (Uw w Fp Fv Fx Fy Fs w.heap.size v x y s (wSt os k).1 (wSt os k).2 (wSt os k).1 (wSt os k).2 es wr) := huw
    by_cases hle : k ≤ m
    · clear huw
      go_upto_if 35 with fail
      have HQ1 : Hid (OpBlk (wr.alloc (.cells #[.int .i64 8, .int .i64 0, .int .i64 0, .bool false, .slice none 0 0, .slice none 0 0, .int .i64 0] 43)) wr.heap.size 8 0 0 false none 0 0 none 0 0 0) := heap_alloc_new _ _
      have HU1 : Hid (Uw w Fp Fv Fx Fy Fs w.heap.size v x y s (wSt os k).1 (wSt os k).2 (wSt os k).1 (wSt os k).2 es (wr.alloc (.cells #[.int .i64 8, .int .i64 0, .int .i64 0, .bool false, .slice none 0 0, .slice none 0 0, .int .i64 0] 43))) := HU.out.no ((Kept.refl No wr).alloc _)
      have HNE : Hid (¬ Fp wr.heap.size ∧ ¬ Fx wr.heap.size ∧ ¬ Fv wr.heap.size ∧ ¬ Fy wr.heap.size ∧ ¬ Fs wr.heap.size ∧ w.heap.size ≤ wr.heap.size) :=
        ⟨fun h => Nat.lt_irrefl _ (HU.out.p.flt' _ h), fun h => Nat.lt_irrefl _ (HU.out.x.flt _ h), fun h => Nat.lt_irrefl _ (HU.out.v.flt' _ h), fun h => Nat.lt_irrefl _ (HU.out.y.flt _ h), fun h => Nat.lt_irrefl _ (HU.out.s.flt _ h), HU.out.bel.size⟩
      generalize wr.alloc (.cells #[.int .i64 8, .int .i64 0, .int .i64 0, .bool false, .slice none 0 0, .slice none 0 0, .int .i64 0] 43) = W1 at HQ1 HU1 ⊢
      generalize wr.heap.size = q at HQ1 HNE ⊢
      clear HU
      go_cut [] (fun wx => (∃ d ba bn bc la ln lc, Opk w os k q d ba bn bc la ln lc wx) ∧ Uw w Fp Fv Fx Fy Fs w.heap.size v x y s (wSt os k).1 (wSt os k).2 (wSt os k).1 (wSt os k).2 es wx)
      case first =>
        by_cases hlt : k < m
        · obtain ⟨d, hd⟩ : ∃ d, os[k]? = some d := ⟨_, List.getElem?_eq_getElem (by rw [HOL.out]; exact hlt)⟩
          obtain ⟨sb, so, rfl, hok⟩ := HOS.out k d hd
          obtain ⟨ba, bn, bc, la, ln, lc, hat, hB, hZ, hN, hW, hM, hzb⟩ := hok
          obtain ⟨o0, o1, o2, o3, o4, o5, o6⟩ := hat.below HU1.out.bel
          obtain ⟨p0, p1, p2, p3, p4, p5, p6⟩ := HQ1.out.at'
          have f0 := HQ1.out.fz 0
          have f1 := HQ1.out.fz 1
          have f2 := HQ1.out.fz 2
          have f3 := HQ1.out.fz 3
          have f4 := HQ1.out.fz 4
          have f5 := HQ1.out.fz 5
          have f6 := HQ1.out.fz 6
          obtain ⟨K, N, Wd, Fl, xs, zs, M⟩ := d
          dsimp only at o0 o1 o2 o3 o4 o5 o6
          have HD : Hid (os[k]? = some ⟨K, N, Wd, Fl, xs, zs, M⟩) := hd
          have HBZ : Hid (Bs w (fun _ => True) ba bn bc xs ∧ Zs w (fun _ => True) la ln lc zs) := ⟨hB, hZ⟩
          have HN : Hid (N ≤ 9223372036854775807 ∧ ∀ z ∈ zs, -9223372036854775808 ≤ z ∧ z ≤ 9223372036854775807) := ⟨hN.2, hzb⟩
          clear hd hat hB hZ hN hW hM hzb
          go_wp2
          go_meet
          case rel =>
            have hb7 := blk_set7 HQ1.out K N Wd Fl ba bn bc la ln lc M
            have hu7 := HU1.out.off hb7.2 HNE.out
            exact ⟨⟨_, _, _, _, _, _, _, opk_one HD.out HSUM.out HBZ.out.1 HBZ.out.2 HN.out.1 HN.out.2 hu7.bel hb7.1⟩, hu7⟩
        · go_wp2
          go_meet
          case rel => exact ⟨⟨_, _, _, _, _, _, _, opk_end (by rw [HOL.out]; omega) HQ1.out⟩, HU1.out⟩
      case rest =>
      obtain ⟨⟨d, ba, bn, bc, la, ln, lc, hop⟩, huw⟩ := hcut
      obtain ⟨K, N, Wd, Fl, xs, zs, M⟩ := d
      have HU2 : Hid (Uw w Fp Fv Fx Fy Fs w.heap.size v x y s (wSt os k).1 (wSt os k).2 (wSt os k).1 (wSt os k).2 es wc) := huw
      have HQ2 : Hid (Opk w os k q ⟨K, N, Wd, Fl, xs, zs, M⟩ ba bn bc la ln lc wc) := hop
      obtain ⟨o0, o1, o2, o3, o4, o5, o6⟩ := hop.blk.at'
      dsimp only at o0 o1 o2 o3 o4 o5 o6
      have hbc := hop.bs.cap
      have hbm := hop.bs.max
      have hbn := hop.bn
      have hlc := hop.zs.cap
      have hlm := hop.zs.max
      have hln := hop.ln
      clear hop huw HQ1 HU1
      rename World => W2
      go_upto_region 13 with fail
      obtain ⟨T, hT⟩ : ∃ T : Bool, T = decide (K = 7 ∨ K = 6) := ⟨_, rfl⟩
      have HT : Hid (T = decide (K = 7 ∨ K = 6)) := hT
      clear hT
      go_cut [47] (fun t wx => t = .bool T ∧ wx = W2)
      case first =>
        by_cases h7 : K = 7
        · subst h7
          go_wp2
          go_meet
          case rel => exact ⟨by rw [HT.out]; simp, rfl⟩
        · have t7 : (K == 7) = false := by simpa using h7
          by_cases h6 : K = 6
          · subst h6
            go_wp2
            go_meet
            case rel => exact ⟨by rw [HT.out]; simp, rfl⟩
          · have t6 : (K == 6) = false := by simpa using h6
            have HT2 : Hid (decide (K = 7 ∨ K = 6) = false) := decide_eq_false (fun h => h.elim h7 h6)
            clear h7 h6
            go_wp2
            go_meet
            case rel => exact ⟨by rw [HT.out, HT2.out], rfl⟩
      case rest =>
      obtain ⟨rfl, hw⟩ := hcut
      obtain rfl := hw.symm
      clear hw
      go_upto_if 47 with fail
      go_cut [] (fun wx => Opk w os k q ⟨K, N, Wd, Fl, xs, zs, M⟩ ba bn bc la ln lc wx ∧ Uw w Fp Fv Fx Fy Fs w.heap.size v x y s (wSt os k).1 (wSt os k).2 (wSt os k).1 (wSt os k).2 es wx)
      case first =>
        cases hT : T with
        | true =>
          subst hT
          have c91 := listsPlaced_any la ba ln lc bn bc zs xs W2 HQ2.out.zs.inW HQ2.out.bs.inW HQ2.out.zb (by omega) (by omega)
          go_wp2_with (go_at_call 91; refine c91.mono ?_; rintro ex w3 ⟨rfl, b3⟩)
          go_meet
          case rel => exact ⟨HQ2.out.kept (Kept.of_below (F := No) b3) (fun h => h) (fun _ h => h.elim), HU2.out.no (Kept.of_below b3)⟩
        | false =>
          subst hT
          go_wp2
          go_meet
          case rel => exact ⟨HQ2.out, HU2.out⟩
      case rest =>
      obtain ⟨hop, huw⟩ := hcut
      clear HU2 HQ2 o0 o1 o2 o3 o4 o5 o6
      have HST : Hid (wSt os (k + 1) = wD (wSt os k) ⟨K, N, Wd, Fl, xs, zs, M⟩) := hop.st
      have HLN : Hid ((wSt os k).1.length ≤ 12582912) := (show (wSt os k).1.length ≤ 12582912 by have := wSt_len os k; have := oSum_le os k; have := HSUM.out; omega)
      have HU3 : Hid (Uw w Fp Fv Fx Fy Fs w.heap.size v x y s (wSt os k).1 (wSt os k).2 (wSt os k).1 (wSt os k).2 es wc) := huw
      have HQ3 : Hid (Opk w os k q ⟨K, N, Wd, Fl, xs, zs, M⟩ ba bn bc la ln lc wc) := hop
      obtain ⟨o0, o1, o2, o3, o4, o5, o6⟩ := hop.blk.at'
      dsimp only at o0 o1 o2 o3 o4 o5 o6
      clear hop huw
      rename World => W3
      by_cases h8 : K = 8
      · subst h8
        rw [wD_eight] at HST
        generalize wSt os k = S at HST HLN HU3 ⊢
        obtain ⟨S1, S2⟩ := S
        dsimp only at HLN HU3 ⊢
        go_upto_region 20 with fail
        clear o0 o1 o2 o3 o4 o5 o6
        go_loopw [10] (fun i wr => ∃ j : Nat, j ≤ 2 ∧ i = .int .i64 j ∧ ∃ Fs es, Uw w Fp Fv Fx Fy Fs w.heap.size v x y s S1 S2 S1 S2 es wr) (fun i _ => 2 - (intOf i).toNat)
        case atStart => exact ⟨0, by omega, rfl, Fs, es, HU3.out⟩
        case round =>
          clear HU3 HQ3 HNE
          obtain ⟨j, hj, rfl, Fs, es, hu⟩ := hrel
          have HU4 : Hid (Uw w Fp Fv Fx Fy Fs w.heap.size v x y s S1 S2 S1 S2 es wr) := hu
          by_cases hj2 : j < 2
          · have HTL : Hid ((tlX S1 S2).length ≤ 1000000000) := (show (tlX S1 S2).length ≤ 1000000000 by have := tlX_le S1 S2; have := HLN.out; omega)
            have HTB : Hid (∀ z ∈ tlX S1 S2, z < 256) := tlX_lt S2 hu.x.lt
            have c34 := done_any Fp w.heap.size S1 S2 wr hu.p (by have := HLN.out; omega)
            clear hu
            go_upto_region 23 with (go_at_call 34; refine c34.mono ?_; rintro ex w4 ⟨a1, n1, c1, rfl, hW4, k4, own4⟩)
            have hu5 := HU4.out.askP hW4 k4
            have HU5 : Hid (Uw w Fp Fv Fx Fy Fs w.heap.size v x y s S1 S2 S1 S2 es w4) := hu5
            have HS4 : Hid (wr.heap.size ≤ w4.heap.size) := k4.size
            have O4 : Hid (w4.ownsRow wr.heap.size 5 1 (.slice a1 n1 c1) (tlX S1 S2).length ((tlX S1 S2).map bv)) := own4
            have c34 := done_any Fv v S1 S2 w4 hu5.v (by have := HLN.out; omega)
            clear hW4 k4 own4 hu5
            go_upto_region 24 with (go_at_call_of 34 (Value.pointer (some ⟨v, 0, none⟩)); refine c34.mono ?_; rintro ex w5 ⟨a2, n2, c2, rfl, hW5, k5, own5⟩)
            have hu6 := HU5.out.askV hW5 k5
            have HU6 : Hid (Uw w Fp Fv Fx Fy Fs w.heap.size v x y s S1 S2 S1 S2 es w5) := hu6
            have O45 : Hid (w5.ownsRow wr.heap.size 5 1 (.slice a1 n1 c1) (tlX S1 S2).length ((tlX S1 S2).map bv)) := k5.owns O4.out (fun b hb hf => by have := (O4.out.lt b hb).1; have := HU4.out.v.flt' b hf; omega)
            have O5 : Hid (w5.ownsRow w4.heap.size 5 1 (.slice a2 n2 c2) (tlX S1 S2).length ((tlX S1 S2).map bv)) := own5
            have HS5 : Hid (w4.heap.size ≤ w5.heap.size) := k5.size
            obtain ⟨v9, hv9⟩ := hu6.x
            have c90 := doneOut_any Fx x v9 S1 S2 w5 hv9
            obtain ⟨va, vn, vc, hva, hBv⟩ := hv9.told
            rw [hva] at c90
            have HBV : Hid (Bs w5 Fx va vn vc (tlX S1 S2)) := hBv
            clear c34 hW5 k5 own5 hu6 hv9 hva hBv
            go_upto_region 25 with (go_at_call 90; refine c90.mono ?_; rintro ex w6 ⟨rfl, nd, hw6⟩; have HWQ : Hid (w6 = w5.drewN nd) := hw6; clear hw6)
            clear c90
            have k6 : Kept No w5 w6 := by rw [HWQ.out]; exact (Kept.refl No w5).drewN nd
            have HU7 : Hid (Uw w Fp Fv Fx Fy Fs w.heap.size v x y s S1 S2 S1 S2 es w6) := HU6.out.no k6
            have HS6 : Hid (w5.heap.size ≤ w6.heap.size) := k6.size
            have O46 : Hid (w6.ownsRow wr.heap.size 5 1 (.slice a1 n1 c1) (tlX S1 S2).length ((tlX S1 S2).map bv)) := k6.owns O45.out (fun _ _ h => h)
            have O56 : Hid (w6.ownsRow w4.heap.size 5 1 (.slice a2 n2 c2) (tlX S1 S2).length ((tlX S1 S2).map bv)) := k6.owns O5.out (fun _ _ h => h)
            have HBV6 : Hid (Bs w6 Fx va vn vc (tlX S1 S2)) := HBV.out.kept k6 (fun _ _ h => h)
            have HOFF : Hid (∀ b, wr.heap.size ≤ b → w.heap.size ≤ b ∧ ¬ Fp b ∧ ¬ Fx b ∧ ¬ Fv b ∧ ¬ Fy b ∧ ¬ Fs b) := fun b hb => ⟨Nat.le_trans HU4.out.bel.size hb, fun h => by have := HU4.out.p.flt' b h; omega, fun h => by have := HU4.out.x.flt b h; omega, fun h => by have := HU4.out.v.flt' b h; omega, fun h => by have := HU4.out.y.flt b h; omega, fun h => by have := HU4.out.s.flt b h; omega⟩
            have c56 := HU7.out.keep2 O46.out (fun b hb => HOFF.out b (O46.out.lt b hb).1) HBV6.out HTL.out
            clear k6 HWQ HU5 HU6 O45 O5 HBV
            go_upto_region 26 with (go_at_call 56; refine c56.mono ?_; rintro ex w7 ⟨rfl, Fs7, es7, hu8, kp7, hF7⟩)
            have HU8 : Hid (Uw w Fp Fv Fx Fy Fs7 w.heap.size v x y s S1 S2 S1 S2 es7 w7) := hu8
            have c57 := hu8.keep2 (kp7.owns O56.out (fun b hb hf => (HOFF.out b (by have := (O56.out.lt b hb).1; have := HS4.out; omega)).2.2.2.2.2 hf)) (fun b hb => by
              have h1 := O56.out.lt b hb
              have h2 := HOFF.out b (by have := HS4.out; omega)
              refine ⟨h2.1, h2.2.1, h2.2.2.1, h2.2.2.2.1, h2.2.2.2.2.1, fun hf => ?_⟩
              rcases hF7 b hf with q | q | q
              · exact h2.2.2.2.2.2 q
              · have := (O4.out.lt b q).2; omega
              · omega) (HBV6.out.kept kp7 (fun b hb hf => HU7.out.xs b hb hf)) HTL.out
            clear c56 hu8 kp7 hF7 HU7
            go_wp2_with (go_at_call 56; refine c57.mono ?_; rintro ex w8 ⟨rfl, Fs8, es8, hu9, kp8, hF8⟩)
            go_roundw
            case rel => exact ⟨j + 1, by omega, by go_num, Fs8, es8, hu9⟩
            case measure => simp [intOf]; omega
          · clear hu
            go_wp2
            go_roundw
            case rel =>
              refine ⟨k + 1, by omega, by go_num, Fp, Fv, Fx, Fy, Fs, es, ?_⟩
              rw [HST.out]
              exact HU4.out
            case measure => simp [intOf]; omega
      · have t8 : (K == 8) = false := by simpa using h8
        have t8' : (K != 8) = true := by simpa using h8
        have HBB : Hid (K = 6 → Bs W3 (fun k => k < w.heap.size) ba bn bc xs ∧ (∀ k, k < w.heap.size → ¬ Fp k) ∧ (∀ k, k < w.heap.size → ¬ Fx k) ∧ (∀ k, k < w.heap.size → k < W3.heap.size) ∧ bn ≤ 1000000000) := fun _ => ⟨HQ3.out.bs, fun k h h2 => by have := HU3.out.hp k h2; omega, fun k h h2 => by have := HU3.out.hx k h2; omega, fun k h => Nat.lt_of_lt_of_le h HU3.out.bel.size, by omega⟩
        have HZZ : Hid (K = 7 → Zs W3 (fun k => k < w.heap.size) la ln lc zs ∧ (∀ k, k < w.heap.size → ¬ Fp k) ∧ (∀ k, k < w.heap.size → ¬ Fx k) ∧ (∀ k, k < w.heap.size → k < W3.heap.size) ∧ (∀ z ∈ zs, z ≤ 9223372036854775807) ∧ ln ≤ 1000000000) := fun _ => ⟨HQ3.out.zs, fun k h h2 => by have := HU3.out.hp k h2; omega, fun k h h2 => by have := HU3.out.hx k h2; omega, fun k h => Nat.lt_of_lt_of_le h HU3.out.bel.size, fun z hz => (HQ3.out.zb z hz).2, by omega⟩
        have c1 := put_any Fp Fx _ _ w.heap.size x (wSt os k).1 (wSt os k).2 K N Wd Fl ba bn bc la ln lc M xs zs W3 HU3.out.p HU3.out.x HU3.out.px (by have := HLN.out; omega) HQ3.out.n HBB.out HZZ.out
        obtain ⟨S1, hS1⟩ : ∃ S1, S1 = (wSt os (k + 1)).1 := ⟨_, rfl⟩
        obtain ⟨S2, hS2⟩ : ∃ S2, S2 = (wSt os (k + 1)).2 := ⟨_, rfl⟩
        have HSS : Hid (S1 = (wSt os (k + 1)).1 ∧ S2 = (wSt os (k + 1)).2) := ⟨hS1, hS2⟩
        have hSS1 : (wOp (wSt os k).1 (wSt os k).2 K N Wd Fl xs zs M).1 = S1 := by rw [hS1, HST.out]; rfl
        have hSS2 : (wOp (wSt os k).1 (wSt os k).2 K N Wd Fl xs zs M).2 = S2 := by rw [hS2, HST.out]; rfl
        rw [hSS1, hSS2] at c1
        have c2 : ∀ w4, Bw Fp Fx w.heap.size x S1 S2 W3 w4 → Calls Try.prog 43 #[.pointer (some ⟨v, 0, none⟩), .pointer (some ⟨y, 0, none⟩), opV K N Wd Fl ba bn bc la ln lc M] w4 fun ex w' => ex = .returned (.bool true) ∧ Bw Fv Fy v y S1 S2 w4 w' := by
          intro w4 bo
          obtain ⟨Fp4, Fx4, hu⟩ := HU3.out.one bo
          obtain ⟨F', G', hw, ho, dd, kk, hF, hG⟩ := bo
          have hop4 := HQ3.out.kept kk (fun h => h.elim HNE.out.1 HNE.out.2.1) (fun j h => h.elim (HU3.out.hp j) (HU3.out.hx j))
          have := put_any Fv Fy (fun k => k < w.heap.size) (fun k => k < w.heap.size) v y (wSt os k).1 (wSt os k).2 K N Wd Fl ba bn bc la ln lc M xs zs w4 hu.v hu.y hu.vy (by have := HLN.out; omega) HQ3.out.n
            (fun _ => ⟨hop4.bs, fun k h h2 => by have := hu.hv k h2; omega, fun k h h2 => by have := hu.hy k h2; omega, fun k h => Nat.lt_of_lt_of_le h hu.bel.size, by omega⟩)
            (fun _ => ⟨hop4.zs, fun k h h2 => by have := hu.hv k h2; omega, fun k h h2 => by have := hu.hy k h2; omega, fun k h => Nat.lt_of_lt_of_le h hu.bel.size, fun z hz => (HQ3.out.zb z hz).2, by omega⟩)
          rw [hSS1, hSS2] at this
          exact this
        unfold opV at c1 c2
        clear hSS1 hSS2 hS1 hS2 h8
        go_wp2_with (first | (go_at_call_of 43 (Value.pointer (some ⟨w.heap.size, 0, none⟩)); refine c1.mono ?_; rintro ex w4 ⟨rfl, bo1⟩; obtain ⟨p0, p1, p2, p3, p4, p5, p6⟩ := (show OpBlk w4 q K N Wd Fl ba bn bc la ln lc M from bo1.kept.at' HQ3.out.blk (fun h => h.elim HNE.out.1 HNE.out.2.1)).at'; have c3 := c2 w4 bo1; have BO1 : Hid (Bw Fp Fx w.heap.size x S1 S2 W3 w4) := bo1; clear bo1) | (go_at_call_of 43 (Value.pointer (some ⟨v, 0, none⟩)); refine c3.mono ?_; rintro ex w5 ⟨rfl, bo2⟩))
        go_roundw
        case rel =>
          obtain ⟨Fp4, Fx4, hu4⟩ := HU3.out.one BO1.out
          obtain ⟨Fv5, Fy5, hu5⟩ := hu4.two bo2
          rw [HSS.out.1, HSS.out.2] at hu5
          exact ⟨k + 1, by omega, by go_num, Fp4, Fv5, Fx4, Fy5, Fs, es, hu5⟩
        case measure => simp [intOf]; omega
    · have c57 := standsP_any Fs s es [] wr huw.s huw.l1 (by simp) huw.f1 (fun e he => by cases he)
      clear huw
      go_wp2_with (go_at_call 57; refine c57.mono ?_; rintro ex w3 ⟨rfl, kp3⟩)
      go_ret
      exact ⟨rfl, HU.out.bel.trans (kp3.below HU.out.hs HU.out.bel.size)⟩

end Go.Proofs.Ytakdfpenpodplaa
