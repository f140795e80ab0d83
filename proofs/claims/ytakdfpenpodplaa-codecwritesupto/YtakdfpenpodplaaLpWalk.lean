/-
  'listsPlaced'.
-/
import Derived.Test.YtakdfpenpodplaaUwState
import Derived.Deep.DeepCutAuto
import Derived.Deep.CutBlock
namespace Go.Proofs.Ytakdfpenpodplaa
open Go.RowKit
set_option linter.unusedVariables false

structure Lp (w0 : World) (Fw Fx : Nat → Prop) (p x : Nat) (vg vn : Value) (bs : List Nat) (e : Int) (bx : List Nat) (ex : Int) (yg yn : List Int) (w : World) : Prop where
  wr : Wr w Fw p bs e
  ou : Ou w Fx x bx ex
  g : w.ownsRow w0.heap.size 3 1 vg yg.length (yg.map iv)
  n : w.ownsRow w0.heap.size 3 1 vn yn.length (yn.map iv)
  wx : Dis Fw Fx
  gw : ∀ k, vg.ownBlock = some k → ¬ Fw k
  gx : ∀ k, vg.ownBlock = some k → ¬ Fx k
  nw : ∀ k, vn.ownBlock = some k → ¬ Fw k
  nx : ∀ k, vn.ownBlock = some k → ¬ Fx k
  gn : ∀ k, vg.ownBlock = some k → vn.ownBlock ≠ some k
  hw : ∀ k, Fw k → w0.heap.size ≤ k
  hx : ∀ k, Fx k → w0.heap.size ≤ k
  bel : Below w0.heap.size w0 w

namespace Lp
variable {w0 w w' W w1 : World} {Fw Fx : Nat → Prop} {p x : Nat} {vg vn v1 : Value} {bs bx bs' : List Nat} {e ex e' z : Int} {yg yn : List Int}

theorem no (h : Lp w0 Fw Fx p x vg vn bs e bx ex yg yn w) (k : Kept No w w') : Lp w0 Fw Fx p x vg vn bs e bx ex yg yn w' :=
  ⟨h.wr.kept k (fun _ _ h => h), h.ou.kept k (fun _ _ h => h), k.owns h.g (fun _ _ h => h), k.owns h.n (fun _ _ h => h), h.wx, h.gw, h.gx, h.nw, h.nx, h.gn, h.hw, h.hx, h.bel.trans (k.below (fun _ e => e.elim) h.bel.size)⟩

theorem didW (h : Lp w0 Fw Fx p x vg vn bs e bx ex yg yn w) (d : WrDid Fw p bs' e' w w') : ∃ Fw', Lp w0 Fw' Fx p x vg vn bs' e' bx ex yg yn w' := by
  obtain ⟨F', hw, k, hF⟩ := d
  have hsz := h.bel.size
  refine ⟨F', hw, h.ou.kept k (fun b hb e => h.wx b e hb), k.owns h.g h.gw, k.owns h.n h.nw, h.wx.grow hF h.ou.flt, ?_, h.gx, ?_, h.nx, h.gn, fun j hj => (hF j hj).elim (h.hw j) (fun q => Nat.le_trans hsz q), h.hx, h.bel.trans (k.below h.hw hsz)⟩
  · intro j hj hf
    rcases hF j hf with q | q
    · exact h.gw j hj q
    · have := (h.g.lt j hj).2; omega
  · intro j hj hf
    rcases hF j hf with q | q
    · exact h.nw j hj q
    · have := (h.n.lt j hj).2; omega

theorem didX (h : Lp w0 Fw Fx p x vg vn bs e bx ex yg yn w) (d : OuDid Fx x bs' e' w w') : ∃ Fx', Lp w0 Fw Fx' p x vg vn bs e bs' e' yg yn w' := by
  obtain ⟨F', hw, k, hF⟩ := d
  have hsz := h.bel.size
  refine ⟨F', h.wr.kept k (fun b hb e => h.wx b hb e), hw, k.owns h.g h.gx, k.owns h.n h.nx, (h.wx.symm.grow hF h.wr.flt').symm, h.gw, ?_, h.nw, ?_, h.gn, h.hw, fun j hj => (hF j hj).elim (h.hx j) (fun q => Nat.le_trans hsz q), h.bel.trans (k.below h.hx hsz)⟩
  · intro j hj hf
    rcases hF j hf with q | q
    · exact h.gx j hj q
    · have := (h.g.lt j hj).2; omega
  · intro j hj hf
    rcases hF j hf with q | q
    · exact h.nx j hj q
    · have := (h.n.lt j hj).2; omega

theorem growG (h : Lp w0 Fw Fx p x vg vn bs e bx ex yg yn w) (hk : Kept No w W) (own1 : w1.ownsRow w0.heap.size 3 1 v1 (yg.length + 1) (yg.map iv ++ [.int .i64 z])) (gr : W.grownBy w1 vg.ownBlock) (at1 : v1.ownBlock = vg.ownBlock ∨ v1.ownBlock = some W.heap.size) :
    Lp w0 Fw Fx p x v1 vn bs e bx ex (yg ++ [z]) yn w1 := by
  have h := h.no hk
  have k : Kept (fun k => vg.ownBlock = some k) W w1 := (Kept.refl _ W).grown gr (fun k q => .inl q)
  have nb : ∀ k, v1.ownBlock = some k → vg.ownBlock = some k ∨ k = W.heap.size := by
    intro k q
    rcases at1 with a | a
    · exact .inl (a.symm.trans q)
    · rw [a] at q; injection q with q; exact .inr q.symm
  refine ⟨h.wr.kept k (fun b hb q => h.gw b q hb), h.ou.kept k (fun b hb q => h.gx b q hb), ?_, k.owns h.n (fun b hb q => h.gn b q hb), h.wx, ?_, ?_, h.nw, h.nx, ?_, h.hw, h.hx, h.bel.trans (k.below (fun j q => (h.g.lt j q).1) h.bel.size)⟩
  · rw [List.length_append, List.map_append]; exact own1
  · intro j q hf
    rcases nb j q with q | q
    · exact h.gw j q hf
    · have := h.wr.flt' j hf; omega
  · intro j q hf
    rcases nb j q with q | q
    · exact h.gx j q hf
    · have := h.ou.flt j hf; omega
  · intro j q hn
    rcases nb j q with q | q
    · exact h.gn j q hn
    · have := (h.n.lt j hn).2; omega

theorem growN (h : Lp w0 Fw Fx p x vg vn bs e bx ex yg yn w) (hk : Kept No w W) (own1 : w1.ownsRow w0.heap.size 3 1 v1 (yn.length + 1) (yn.map iv ++ [.int .i64 z])) (gr : W.grownBy w1 vn.ownBlock) (at1 : v1.ownBlock = vn.ownBlock ∨ v1.ownBlock = some W.heap.size) :
    Lp w0 Fw Fx p x vg v1 bs e bx ex yg (yn ++ [z]) w1 := by
  have h := h.no hk
  have k : Kept (fun k => vn.ownBlock = some k) W w1 := (Kept.refl _ W).grown gr (fun k q => .inl q)
  have nb : ∀ k, v1.ownBlock = some k → vn.ownBlock = some k ∨ k = W.heap.size := by
    intro k q
    rcases at1 with a | a
    · exact .inl (a.symm.trans q)
    · rw [a] at q; injection q with q; exact .inr q.symm
  refine ⟨h.wr.kept k (fun b hb q => h.nw b q hb), h.ou.kept k (fun b hb q => h.nx b q hb), k.owns h.g (fun b hb q => h.gn b hb q), ?_, h.wx, h.gw, h.gx, ?_, ?_, ?_, h.hw, h.hx, h.bel.trans (k.below (fun j q => (h.n.lt j q).1) h.bel.size)⟩
  · rw [List.length_append, List.map_append]; exact own1
  · intro j q hf
    rcases nb j q with q | q
    · exact h.nw j q hf
    · have := h.wr.flt' j hf; omega
  · intro j q hf
    rcases nb j q with q | q
    · exact h.nx j q hf
    · have := h.ou.flt j hf; omega
  · intro j q hn
    rcases nb j hn with q2 | q2
    · exact h.gn j q q2
    · have := (h.g.lt j q).2; omega

theorem setG (h : Lp w0 Fw Fx p x vg vn bs e bx ex yg yn w) {g j : Nat} (hg : vg.ownBlock = some g) (hj : j < yg.length) (z : Int) : Lp w0 Fw Fx p x vg vn bs e bx ex (yg.set j z) yn (w.setCell ⟨g, j, none⟩ (.int .i64 z)) := by
  have k : Kept (fun k => vg.ownBlock = some k) w (w.setCell ⟨g, j, none⟩ (.int .i64 z)) := (Kept.refl _ w).setCell (p := ⟨g, j, none⟩) (.inl hg) _
  exact ⟨h.wr.kept k (fun b hb q => h.gw b q hb), h.ou.kept k (fun b hb q => h.gx b q hb), by rw [List.length_set]; exact owns_seti h.g hg hj z, k.owns h.n (fun b hb q => h.gn b q hb), h.wx, h.gw, h.gx, h.nw, h.nx, h.gn, h.hw, h.hx, h.bel.trans (k.below (fun j q => (h.g.lt j q).1) h.bel.size)⟩
theorem setN (h : Lp w0 Fw Fx p x vg vn bs e bx ex yg yn w) {g j : Nat} (hg : vn.ownBlock = some g) (hj : j < yn.length) (z : Int) : Lp w0 Fw Fx p x vg vn bs e bx ex yg (yn.set j z) (w.setCell ⟨g, j, none⟩ (.int .i64 z)) := by
  have k : Kept (fun k => vn.ownBlock = some k) w (w.setCell ⟨g, j, none⟩ (.int .i64 z)) := (Kept.refl _ w).setCell (p := ⟨g, j, none⟩) (.inl hg) _
  exact ⟨h.wr.kept k (fun b hb q => h.nw b q hb), h.ou.kept k (fun b hb q => h.nx b q hb), k.owns h.g (fun b hb q => h.gn b hb q), by rw [List.length_set]; exact owns_seti h.n hg hj z, h.wx, h.gw, h.gx, h.nw, h.nx, h.gn, h.hw, h.hx, h.bel.trans (k.below (fun j q => (h.n.lt j q).1) h.bel.size)⟩
end Lp

theorem wr_new (w : World) (F : Nat → Prop) (hF : F w.heap.size) (hl : ∀ k, F k → k ≤ w.heap.size) : Wr (w.alloc (.cells #[.slice none 0 0, .int .i64 0] 69)) F w.heap.size [] 0 :=
  ⟨.slice none 0 0, heap_alloc_new _ _, World.ownsRow_nil _ _ _ _, hF, (fun g q => by cases q), (fun k q => by have := hl k q; have := size_alloc w (.cells #[.slice none 0 0, .int .i64 0] 69); omega), (fun x q => by cases q)⟩
theorem ou_new (w : World) (F : Nat → Prop) (hF : F w.heap.size) (hl : ∀ k, F k → k ≤ w.heap.size) : Ou (w.alloc (.cells #[.slice none 0 0, .int .i64 0] 61)) F w.heap.size [] 0 :=
  ⟨.slice none 0 0, heap_alloc_new _ _, World.ownsRow_nil _ _ _ _, hF, (fun g q => by cases q), (fun k q => by have := hl k q; have := size_alloc w (.cells #[.slice none 0 0, .int .i64 0] 61); omega), (fun x q => by cases q)⟩

theorem lp_new (w : World) : ∃ Fw Fx, Lp w Fw Fx w.heap.size (w.heap.size + 1) (.slice none 0 0) (.slice none 0 0) [] 0 [] 0 [] [] ((w.alloc (.cells #[.slice none 0 0, .int .i64 0] 69)).alloc (.cells #[.slice none 0 0, .int .i64 0] 61)) := by
  have z := size_alloc w (.cells #[.slice none 0 0, .int .i64 0] 69)
  refine ⟨fun k => k = w.heap.size, fun k => k = w.heap.size + 1, (wr_new w (fun k => k = w.heap.size) rfl (fun k q => Nat.le_of_eq q)).kept ((Kept.refl No _).alloc _) (fun _ _ h => h), ?_, World.ownsRow_nil _ _ _ _, World.ownsRow_nil _ _ _ _, (fun k q q2 => by have q : k = w.heap.size := q; have q2 : k = w.heap.size + 1 := q2; omega), (fun k q => by cases q), (fun k q => by cases q), (fun k q => by cases q), (fun k q => by cases q), (fun k q => by cases q), (fun k q => Nat.le_of_eq (show k = w.heap.size from q).symm), (fun k q => by have q : k = w.heap.size + 1 := q; omega), (((Kept.refl No w).alloc _).alloc _).below0⟩
  have := ou_new (w.alloc (.cells #[.slice none 0 0, .int .i64 0] 69)) (fun k => k = w.heap.size + 1) (by rw [z]) (fun k q => by have q : k = w.heap.size + 1 := q; omega)
  rw [z] at this
  exact this

/-- a row with something in it -/
theorem own_ints {w : World} {B : Nat} {v : Value} {ys : List Int} (h : w.ownsRow B 3 1 v ys.length (ys.map iv)) (h0 : 0 < ys.length) : ∃ g cap, v = .slice (some ⟨g, 0, none⟩) ys.length cap ∧ ys.length ≤ cap ∧ cap ≤ 9223372036854775807 := by
  rcases owns_cells h with ⟨_, h1⟩ | ⟨g, cap, rfl, _, _, h1, h2, _⟩
  · omega
  · exact ⟨g, cap, rfl, h1, h2⟩

end Go.Proofs.Ytakdfpenpodplaa

namespace Go.Proofs.Ytakdfpenpodplaa
open Go.RowKit
set_option linter.unusedVariables false

/-- half of a number, as Go has it -/
def hv (z : Int) : Int := wrap64 (z.tdiv 2)
theorem hv_in (z : Int) : -9223372036854775808 ≤ hv z ∧ hv z ≤ 9223372036854775807 := by
  unfold hv wrap64; omega
theorem hv_take (zs : List Int) (j : Nat) (h : j < zs.length) : (zs.take (j + 1)).map hv = (zs.take j).map hv ++ [hv (zs.getD j 0)] := by
  rw [List.take_add_one, List.getElem?_eq_getElem h, List.map_append]
  simp [List.getD, h]
theorem mem_getD {zs : List Int} {j : Nat} (h : j < zs.length) : zs.getD j 0 ∈ zs := by simp [List.getD, h]
theorem own_zs {w : World} {B : Nat} {a : Option Addr} {n c : Nat} {ys : List Int} (h : w.ownsRow B 3 1 (.slice a n c) ys.length (ys.map iv)) (hl : ys.length = n) : Zs w (fun j => (Value.slice a n c).ownBlock = some j) a n c ys := by
  obtain ⟨sa, sc, hv, hB⟩ := Zs.of_owns h
  injection hv with e1 e2 e3
  subst e1 e3
  have hB' : Zs w (fun j => (Value.slice a n c).ownBlock = some j) a ys.length c ys := hB
  rw [hl] at hB'
  exact hB'
theorem ol0_is (bs : List Nat) (e : Int) (zs : List Int) (m : Int) : olS bs e zs m 0 = ol0 bs e zs.length m := by
  unfold olS; rw [List.take_zero, List.foldl_nil]
theorem set_take (zs ys : List Int) (j : Nat) (h1 : j < zs.length) (h2 : j < ys.length) : (zs.take j ++ ys.drop j).set j (zs.getD j 0) = zs.take (j + 1) ++ ys.drop (j + 1) := by
  rw [List.set_append_right _ _ (by rw [List.length_take]; omega), List.length_take, Nat.min_eq_left (by omega), Nat.sub_self, List.drop_eq_getElem_cons h2, List.set_cons_zero, List.take_add_one, List.getElem?_eq_getElem h1, List.append_assoc]
  have e : zs.getD j 0 = zs[j] := by simp [List.getD, h1]
  rw [e]; rfl
theorem pl_len (bs : List Nat) (e : Int) (zs : List Int) (m : Int) : (pl bs e zs m).1.length ≤ bs.length + 4 + 2 * zs.length := by
  rw [← olS_end]; exact olS_len bs e zs m zs.length

/-- behind the lists: a Writer, the document's, a list of bytes -/
structure Lh (w0 : World) (Fw Fx : Nat → Prop) (p x : Nat) (vh : Value) (bs : List Nat) (e : Int) (bx : List Nat) (ex : Int) (yh : List Nat) (w : World) : Prop where
  wr : Wr w Fw p bs e
  ou : Ou w Fx x bx ex
  h : w.ownsRow w0.heap.size 5 1 vh yh.length (yh.map bv)
  wx : Dis Fw Fx
  gw : ∀ k, vh.ownBlock = some k → ¬ Fw k
  gx : ∀ k, vh.ownBlock = some k → ¬ Fx k
  hw : ∀ k, Fw k → w0.heap.size ≤ k
  hx : ∀ k, Fx k → w0.heap.size ≤ k
  bel : Below w0.heap.size w0 w

theorem Lp.toH {w0 w w' : World} {Fw Fx : Nat → Prop} {p x : Nat} {vg vn vh : Value} {bs bx yh : List Nat} {e ex : Int} {yg yn : List Int} (h : Lp w0 Fw Fx p x vg vn bs e bx ex yg yn w) (own : w'.ownsRow w.heap.size 5 1 vh yh.length (yh.map bv)) (b : Below w.heap.size w w') : Lh w0 Fw Fx p x vh bs e bx ex yh w' := by
  have k : Kept No w w' := Kept.of_below b
  refine ⟨h.wr.kept k (fun _ _ h => h), h.ou.kept k (fun _ _ h => h), owns_base own h.bel.size, h.wx, fun j hj hf => ?_, fun j hj hf => ?_, h.hw, h.hx, h.bel.trans (b.mono h.bel.size)⟩
  · have := (own.lt j hj).1; have := h.wr.flt' j hf; omega
  · have := (own.lt j hj).1; have := h.ou.flt j hf; omega

namespace Lh
variable {w0 w w' : World} {Fw Fx : Nat → Prop} {p x : Nat} {vh : Value} {bs bx bs' yh yh' : List Nat} {e ex e' : Int}

theorem no (h : Lh w0 Fw Fx p x vh bs e bx ex yh w) (k : Kept No w w') : Lh w0 Fw Fx p x vh bs e bx ex yh w' :=
  ⟨h.wr.kept k (fun _ _ h => h), h.ou.kept k (fun _ _ h => h), k.owns h.h (fun _ _ h => h), h.wx, h.gw, h.gx, h.hw, h.hx, h.bel.trans (k.below (fun _ e => e.elim) h.bel.size)⟩
theorem didW (h : Lh w0 Fw Fx p x vh bs e bx ex yh w) (d : WrDid Fw p bs' e' w w') : ∃ Fw', Lh w0 Fw' Fx p x vh bs' e' bx ex yh w' := by
  obtain ⟨F', hw, k, hF⟩ := d
  have hsz := h.bel.size
  refine ⟨F', hw, h.ou.kept k (fun b hb e => h.wx b e hb), k.owns h.h h.gw, h.wx.grow hF h.ou.flt, ?_, h.gx, fun j hj => (hF j hj).elim (h.hw j) (fun q => Nat.le_trans hsz q), h.hx, h.bel.trans (k.below h.hw hsz)⟩
  intro j hj hf
  rcases hF j hf with q | q
  · exact h.gw j hj q
  · have := (h.h.lt j hj).2; omega
theorem didX (h : Lh w0 Fw Fx p x vh bs e bx ex yh w) (d : OuDid Fx x bs' e' w w') : ∃ Fx', Lh w0 Fw Fx' p x vh bs e bs' e' yh w' := by
  obtain ⟨F', hw, k, hF⟩ := d
  have hsz := h.bel.size
  refine ⟨F', h.wr.kept k (fun b hb e => h.wx b hb e), hw, k.owns h.h h.gx, (h.wx.symm.grow hF h.wr.flt').symm, h.gw, ?_, h.hw, fun j hj => (hF j hj).elim (h.hx j) (fun q => Nat.le_trans hsz q), h.bel.trans (k.below h.hx hsz)⟩
  intro j hj hf
  rcases hF j hf with q | q
  · exact h.gx j hj q
  · have := (h.h.lt j hj).2; omega
theorem lay (h : Lh w0 Fw Fx p x vh bs e bx ex yh w) (own : w'.ownsRow w0.heap.size 5 1 vh yh'.length (yh'.map bv)) (k : Kept (fun j => vh.ownBlock = some j) w w') : Lh w0 Fw Fx p x vh bs e bx ex yh' w' :=
  ⟨h.wr.kept k (fun b hb q => h.gw b q hb), h.ou.kept k (fun b hb q => h.gx b q hb), own, h.wx, h.gw, h.gx, h.hw, h.hx, h.bel.trans (k.below (fun j q => (h.h.lt j q).1) h.bel.size)⟩
theorem ask (h : Lh w0 Fw Fx p x vh bs e bx ex yh w) (hw : Wr w' Fw p bs e) (k : Kept Fw w w') : Lh w0 Fw Fx p x vh bs e bx ex yh w' :=
  ⟨hw, h.ou.kept k (fun b hb q => h.wx b q hb), k.owns h.h h.gw, h.wx, h.gw, h.gx, h.hw, h.hx, h.bel.trans (k.below h.hw h.bel.size)⟩
end Lh

set_option maxRecDepth 100000 in
set_option maxHeartbeats 4000000 in
theorem listsPlaced_any (la ba : Option Addr) (ln lc bn bc : Nat) (zs : List Int) (xs : List Nat) (w : World) (hZ : Zs w (fun k => k < w.heap.size) la ln lc zs) (hB : Bs w (fun k => k < w.heap.size) ba bn bc xs) (hzb : ∀ z ∈ zs, -9223372036854775808 ≤ z ∧ z ≤ 9223372036854775807) (hln : ln ≤ 100000000) (hbn : bn ≤ 100000000) :
    Calls Try.prog 91 #[.slice la ln lc, .slice ba bn bc] w fun ex w' => ex = .returned (.bool true) ∧ Below w.heap.size w w' := by
  obtain ⟨i3, hi3, hy0, hy1, hy2⟩ := info_parts Try.info3
  have q2 : ∀ (w : World) (a : Addr), (binOp .eql 39 (.pointer (some a)) (.pointer none)).run Try.prog w = .ok (.bool false) w := fun w a => by first | rfl | simp
  have HZ : Hid (Zs w (fun k => k < w.heap.size) la ln lc zs) := hZ
  have HB : Hid (Bs w (fun k => k < w.heap.size) ba bn bc xs) := hB
  have HZB : Hid (∀ z ∈ zs, -9223372036854775808 ≤ z ∧ z ≤ 9223372036854775807) := hzb
  have HL : Hid (zs.length = ln) := hZ.len
  have HXL : Hid (xs.length = bn) := hB.len
  have HXT : Hid (∀ x ∈ xs, x < 256) := hB.lt
  have hlc := hZ.cap
  have hlm := hZ.max
  have c23 := newWriter_any w
  obtain ⟨Fw, Fx, hlp⟩ := lp_new w
  have HLP : Hid (Lp w Fw Fx w.heap.size (w.heap.size + 1) (.slice none 0 0) (.slice none 0 0) [] 0 [] 0 [] [] ((w.alloc (.cells #[.slice none 0 0, .int .i64 0] 69)).alloc (.cells #[.slice none 0 0, .int .i64 0] 61))) := hlp
  clear hZ hB hzb hlp
  go_enter Try.func91, Try.ntmps91
  go_upto_region 7 with (go_at_call 23; refine c23.mono ?_; rintro ex w1 ⟨rfl, rfl⟩)
  clear c23
  generalize (w.alloc (.cells #[.slice none 0 0, .int .i64 0] 69)).alloc (.cells #[.slice none 0 0, .int .i64 0] 61) = W0 at HLP ⊢
  go_loopw [7, 8, 9] (fun vg vn i wr => ∃ j : Nat, j ≤ ln ∧ i = .int .i64 j ∧ Lp w Fw Fx w.heap.size (w.heap.size + 1) vg vn [] 0 [] 0 ((zs.take j).map hv) ((zs.take j).map hv) wr) (fun _ _ i _ => ln - (intOf i).toNat)
  case atStart => exact ⟨0, by omega, rfl, HLP.out⟩
  case round =>
    clear HLP
    obtain ⟨j, hj, rfl, hlp⟩ := hrel
    have LP : Hid (Lp w Fw Fx w.heap.size (w.heap.size + 1) u7 u8 [] 0 [] 0 ((zs.take j).map hv) ((zs.take j).map hv) wr) := hlp
    have hs := hlp.bel.size
    by_cases hlt : j < ln
    · obtain ⟨b, o, rfl, hb, hc0⟩ := HZ.out.at' j hlt
      obtain ⟨z, hz⟩ : ∃ z, z = zs.getD j 0 := ⟨_, rfl⟩
      rw [← hz] at hc0
      have hcz : wr.cell? ⟨b, o + j, none⟩ = some (.int .i64 z) := (hlp.bel.cell hb).trans hc0
      have HLEN : Hid (((zs.take j).map hv).length = j) := (show ((zs.take j).map hv).length = j by rw [List.length_map, List.length_take, HL.out]; omega)
      have HG0 : Hid (wr.ownsRow w.heap.size 3 1 u7 j (((zs.take j).map hv).map iv)) := by have := hlp.g; rw [HLEN.out] at this; exact this
      have HT : Hid ((zs.take (j + 1)).map hv = (zs.take j).map hv ++ [hv z]) := by rw [hz]; exact hv_take zs j (by rw [HL.out]; exact hlt)
      have HBL : Hid (b < w.heap.size) := hb
      have HC0 : Hid (w.cell? ⟨b, o + j, none⟩ = some (.int .i64 z)) := hc0
      clear hlp hc0 hz hb
      go_upto_region 10 with (at_builtin; refine wpList_append_own_at _ rfl _ _ 41 rfl w.heap.size 3 i3 (.int .i64 0) 1 8 Try.underlying41 hi3 hy0 hy1 hy2 rfl (by decide) _ _ _ rfl (HG0.out.alloc _) ⟨wr.heap.size, 0, none⟩ 1 1 [_] rfl rfl (cell_one_new _ _ _) (one_one _ _) (by unfold maxLen; omega) (by omega) (by simp; omega) ?_; intro v1 w1 own1 grow1 _ at1)
      have own1' : w1.ownsRow w.heap.size 3 1 v1 (((zs.take j).map hv).length + 1) (((zs.take j).map hv).map iv ++ [.int .i64 (hv z)]) := by rw [HLEN.out]; exact own1
      have lp1 := LP.out.growG ((Kept.refl No wr).alloc _) own1' grow1 at1
      have LP1 : Hid (Lp w Fw Fx w.heap.size (w.heap.size + 1) v1 u8 [] 0 [] 0 ((zs.take j).map hv ++ [hv z]) ((zs.take j).map hv) w1) := lp1
      have hs1 := lp1.bel.size
      have hcz1 : w1.cell? ⟨b, o + j, none⟩ = some (.int .i64 z) := (lp1.bel.cell HBL.out).trans HC0.out
      have HN0 : Hid (w1.ownsRow w.heap.size 3 1 u8 j (((zs.take j).map hv).map iv)) := by have := lp1.n; rw [HLEN.out] at this; exact this
      clear own1 own1' grow1 at1 lp1 LP HG0 hcz
      go_wp2_with (at_builtin; refine wpList_append_own_at _ rfl _ _ 41 rfl w.heap.size 3 i3 (.int .i64 0) 1 8 Try.underlying41 hi3 hy0 hy1 hy2 rfl (by decide) _ _ _ rfl (HN0.out.alloc _) ⟨w1.heap.size, 0, none⟩ 1 1 [_] rfl rfl (cell_one_new _ _ _) (one_one _ _) (by unfold maxLen; omega) (by omega) (by simp; omega) ?_; intro v2 w2 own2 grow2 _ at2)
      have LP2 : Hid (Lp w Fw Fx w.heap.size (w.heap.size + 1) v1 v2 [] 0 [] 0 ((zs.take (j + 1)).map hv) ((zs.take (j + 1)).map hv) w2) := by
        rw [HT.out]
        exact LP1.out.growN ((Kept.refl No w1).alloc _) (by rw [HLEN.out]; exact own2) grow2 at2
      clear own2 grow2 at2
      go_wp2
      go_roundw
      case rel => exact ⟨j + 1, by omega, by go_num, LP2.out⟩
      case measure => simp [intOf]; omega
    · have hjn : j = ln := by omega
      have hl2 : (zs.take j).map hv = zs.map hv := by rw [List.take_of_length_le (by rw [HL.out]; omega)]
      rw [hl2] at hlp
      obtain ⟨ga, gc, rfl⟩ : ∃ ga gc, u7 = .slice ga ln gc := by
        obtain ⟨a, c, h⟩ := owns_shape hlp.g
        rw [List.length_map, HL.out] at h
        exact ⟨a, c, h⟩
      obtain ⟨na, nc, rfl⟩ : ∃ na nc, u8 = .slice na ln nc := by
        obtain ⟨a, c, h⟩ := owns_shape hlp.n
        rw [List.length_map, HL.out] at h
        exact ⟨a, c, h⟩
      have LP1 : Hid (∃ Fw Fx, Lp w Fw Fx w.heap.size (w.heap.size + 1) (.slice ga ln gc) (.slice na ln nc) [] 0 [] 0 (zs.map hv) (zs.map hv) wr) := ⟨Fw, Fx, hlp⟩
      have HA : Hid ((zs.map hv).length = ln ∧ ∀ z ∈ zs.map hv, z ≤ 9223372036854775807) := ⟨by rw [List.length_map]; exact HL.out, fun z hz => by rw [List.mem_map] at hz; obtain ⟨y, _, rfl⟩ := hz; exact (hv_in y).2⟩
      clear LP hlp hl2 hs hjn
      go_upto_region 12 with fail
      clear hlt hj
      rename World => W1
      go_loopw [10] (fun i wr => ∃ k : Nat, k ≤ 2 ∧ i = .int .i64 k ∧ ∃ Fw Fx bs e ys, Lp w Fw Fx w.heap.size (w.heap.size + 1) (.slice ga ln gc) (.slice na ln nc) bs e bs e ys ys wr ∧ ys.length = ln ∧ (∀ z ∈ ys, z ≤ 9223372036854775807) ∧ bs.length ≤ k * 200000100) (fun i _ => 2 - (intOf i).toNat)
      case atStart =>
        obtain ⟨F1, F2, h⟩ := LP1.out
        exact ⟨0, by omega, rfl, F1, F2, [], 0, zs.map hv, h, HA.out.1, HA.out.2, Nat.zero_le _⟩
      case round =>
        clear LP1 HA
        obtain ⟨k, hk, rfl, Fw, Fx, bs, e, ys, hlp, hyl, hyz, hbl⟩ := hrel
        have LP1 : Hid (Lp w Fw Fx w.heap.size (w.heap.size + 1) (.slice ga ln gc) (.slice na ln nc) bs e bs e ys ys wr) := hlp
        have HY : Hid (ys.length = ln ∧ ∀ z ∈ ys, z ≤ 9223372036854775807) := ⟨hyl, hyz⟩
        clear hyl hyz
        by_cases hk2 : k < 2
        · have zg := own_zs hlp.g HY.out.1
          have hgc := zg.cap
          have hgm := zg.max
          have zn := own_zs hlp.n HY.out.1
          have hnc := zn.cap
          have hnm := zn.max
          have c62 := putList103_any Fw _ w.heap.size bs e ga ln gc ys ln wr hlp.wr zg hlp.gw HY.out.2 (by omega)
          obtain ⟨X, hX⟩ : ∃ X, X = (pl bs e ys ln).1 := ⟨_, rfl⟩
          obtain ⟨E, hE⟩ : ∃ E, E = (pl bs e ys ln).2 := ⟨_, rfl⟩
          have HXE : Hid (X = (pl bs e ys ln).1 ∧ E = (pl bs e ys ln).2) := ⟨hX, hE⟩
          rw [← hX, ← hE] at c62
          clear hX hE hlp zg zn
          go_upto_if 54 with (go_at_call 62; refine c62.mono ?_; rintro ex w2 ⟨rfl, hd2⟩; obtain ⟨Fw2, hlp2⟩ := LP1.out.didW hd2; have LP2 : Hid (Lp w Fw2 Fx w.heap.size (w.heap.size + 1) (.slice ga ln gc) (.slice na ln nc) X E bs e ys ys w2) := hlp2; obtain ⟨v2, hv2⟩ := hlp2.ou; have d1 := hv2.c1; clear hd2 hlp2 hv2)
          clear c62 LP1
          go_cut [] (fun wx => ∃ Fx', Lp w Fw2 Fx' w.heap.size (w.heap.size + 1) (.slice ga ln gc) (.slice na ln nc) X E (olS bs e ys ln 0).1 (olS bs e ys ln 0).2 ys ys wx)
          case first =>
            by_cases he : e = 0
            · have c89 := countOut_any Fx (w.heap.size + 1) bs e ln ln w2 LP2.out.ou (by omega) (by omega)
              have HOL : Hid (olS bs e ys ln 0 = (ctBs bs e ln ln, ctE e ln ln)) := (show olS bs e ys ln 0 = (ctBs bs e ln ln, ctE e ln ln) by rw [ol0_is]; unfold ol0; rw [if_neg (by simpa using he), HY.out.1])
              subst he
              go_wp2_with (go_at_call 89; refine c89.mono ?_; rintro ex w3 ⟨rfl, hd3⟩)
              go_meet
              case rel =>
                rw [HOL.out]
                exact LP2.out.didX hd3
            · have t0 : (e == 0) = false := by simpa using he
              have HOL : Hid (olS bs e ys ln 0 = (bs, e)) := (show olS bs e ys ln 0 = (bs, e) by rw [ol0_is]; unfold ol0; rw [if_pos he])
              clear he
              go_wp2
              go_meet
              case rel =>
                rw [HOL.out]
                exact ⟨Fx, LP2.out⟩
          case rest =>
          obtain ⟨Fx2, hlp3⟩ := hcut
          have LP3 : Hid (Lp w Fw2 Fx2 w.heap.size (w.heap.size + 1) (.slice ga ln gc) (.slice na ln nc) X E (olS bs e ys ln 0).1 (olS bs e ys ln 0).2 ys ys wc) := hlp3
          clear hlp3 LP2 d1
          rename World => w3
          go_upto_block 4 with fail
          go_cut [] (fun wx => ∃ Fx', Lp w Fw2 Fx' w.heap.size (w.heap.size + 1) (.slice ga ln gc) (.slice na ln nc) X E X E ys ys wx)
          case first =>
            go_upto_region 18 with fail
            go_loopw [11] (fun i wr => ∃ j : Nat, j ≤ ln ∧ i = .int .i64 j ∧ ∃ Fx', Lp w Fw2 Fx' w.heap.size (w.heap.size + 1) (.slice ga ln gc) (.slice na ln nc) X E (olS bs e ys ln j).1 (olS bs e ys ln j).2 ys ys wr) (fun i _ => ln - (intOf i).toNat)
            case atStart => exact ⟨0, by omega, rfl, Fx2, LP3.out⟩
            case round =>
              obtain ⟨j, hj, rfl, Fx3, hlp4⟩ := hrel
              have HLN : Hid ((olS bs e ys ln j).1.length ≤ bs.length + 4 + 2 * j) := olS_len bs e ys ln j
              have HFIN : Hid (olS bs e ys ln j = pl bs e ys ln → ∃ Fx', Lp w Fw2 Fx' w.heap.size (w.heap.size + 1) (.slice ga ln gc) (.slice na ln nc) X E X E ys ys wr) := fun h => by
                refine ⟨Fx3, ?_⟩
                have h2 := hlp4
                rw [h, ← HXE.out.1, ← HXE.out.2] at h2
                exact h2
              obtain ⟨S, hS⟩ : ∃ S, S = olS bs e ys ln j := ⟨_, rfl⟩
              rw [← hS] at hlp4
              have HSS : Hid (S = olS bs e ys ln j) := hS
              obtain ⟨S1, S2⟩ := S
              have LP4 : Hid (Lp w Fw2 Fx3 w.heap.size (w.heap.size + 1) (.slice ga ln gc) (.slice na ln nc) X E S1 S2 ys ys wr) := hlp4
              obtain ⟨v, hv⟩ := hlp4.ou
              have d1 := hv.c1
              clear hv hS LP3
              by_cases hlt : j < ln
              · by_cases hs : S2 = 0
                · subst hs
                  have zn := own_zs hlp4.n HY.out.1
                  obtain ⟨b, o, rfl, _, hcell⟩ := zn.at' j hlt
                  obtain ⟨z, hz⟩ : ∃ z, z = ys.getD j 0 := ⟨_, rfl⟩
                  rw [← hz] at hcell
                  unfold iv at hcell
                  have HZJ : Hid (z = ys.getD j 0) := hz
                  have c81 := u16Out_any Fx3 (w.heap.size + 1) S1 0 z wr hlp4.ou (by have := HLN.out; rw [← HSS.out] at this; simp only at this; omega) (by rw [hz]; exact HY.out.2 _ (mem_getD (by rw [HY.out.1]; exact hlt)))
                  clear hz hlp4 zn
                  go_wp2_with (go_at_call 81; refine c81.mono ?_; rintro ex w5 ⟨rfl, hd5⟩)
                  go_roundw
                  case rel =>
                    refine ⟨j + 1, by omega, by go_num, ?_⟩
                    rw [olS_next bs e ys ln j (by rw [HY.out.1]; exact hlt), ← HSS.out, ← HZJ.out]
                    exact LP4.out.didX hd5
                  case measure => simp [intOf]; omega
                · have t0 : (S2 == 0) = false := by simpa using hs
                  have HE2 : Hid (olS bs e ys ln j = pl bs e ys ln) := olS_stop bs e ys ln j (by rw [← HSS.out]; exact hs)
                  clear hs hlp4
                  go_wp2
                  go_meet
                  case rel => exact HFIN.out HE2.out
              · have HE2 : Hid (olS bs e ys ln j = pl bs e ys ln) := (show olS bs e ys ln j = pl bs e ys ln by
                  have hjl : j = ys.length := by rw [HY.out.1]; omega
                  rw [hjl]; exact olS_end bs e ys ln)
                clear hlp4
                go_wp2
                go_meet
                case rel => exact HFIN.out HE2.out
          case rest =>
          obtain ⟨Fx4, hlp5⟩ := hcut
          have LP5 : Hid (Lp w Fw2 Fx4 w.heap.size (w.heap.size + 1) (.slice ga ln gc) (.slice na ln nc) X E X E ys ys wc) := hlp5
          clear hlp5 LP3
          go_upto_region 22 with fail
          rename World => w6
          go_loopw [12] (fun i wr => ∃ j : Nat, j ≤ ln ∧ i = .int .i64 j ∧ Lp w Fw2 Fx4 w.heap.size (w.heap.size + 1) (.slice ga ln gc) (.slice na ln nc) X E X E (zs.take j ++ ys.drop j) (zs.take j ++ ys.drop j) wr) (fun i _ => ln - (intOf i).toNat)
          case atStart => exact ⟨0, by omega, rfl, by simpa using LP5.out⟩
          case round =>
            obtain ⟨j, hj, rfl, hlp6⟩ := hrel
            have LP6 : Hid (Lp w Fw2 Fx4 w.heap.size (w.heap.size + 1) (.slice ga ln gc) (.slice na ln nc) X E X E (zs.take j ++ ys.drop j) (zs.take j ++ ys.drop j) wr) := hlp6
            clear LP5
            have HJL : Hid ((zs.take j ++ ys.drop j).length = ln) := (show (zs.take j ++ ys.drop j).length = ln by rw [List.length_append, List.length_take, List.length_drop, HL.out, HY.out.1]; omega)
            by_cases hlt : j < ln
            · obtain ⟨gg, rfl⟩ : ∃ gg, ga = some ⟨gg, 0, none⟩ := by
                rcases owns_cells hlp6.g with ⟨_, h0⟩ | ⟨g, cap, hv, _⟩
                · rw [HJL.out] at h0; omega
                · injection hv with h1 _ _; exact ⟨g, h1⟩
              obtain ⟨gn, rfl⟩ : ∃ gn, na = some ⟨gn, 0, none⟩ := by
                rcases owns_cells hlp6.n with ⟨_, h0⟩ | ⟨g, cap, hv, _⟩
                · rw [HJL.out] at h0; omega
                · injection hv with h1 _ _; exact ⟨g, h1⟩
              obtain ⟨b, o, rfl, hb, hc0⟩ := HZ.out.at' j hlt
              obtain ⟨z, hz⟩ : ∃ z, z = zs.getD j 0 := ⟨_, rfl⟩
              rw [← hz] at hc0
              have HBL : Hid (b < w.heap.size) := hb
              have HC0 : Hid (w.cell? ⟨b, o + j, none⟩ = some (.int .i64 z)) := hc0
              have hcz : wr.cell? ⟨b, o + j, none⟩ = some (.int .i64 z) := (hlp6.bel.cell hb).trans hc0
              obtain ⟨hg1, hg2⟩ := owns_ati hlp6.g (g := gg) rfl (i := j) (by rw [HJL.out]; exact hlt)
              have HSET : Hid ((zs.take j ++ ys.drop j).set j z = zs.take (j + 1) ++ ys.drop (j + 1)) := (show (zs.take j ++ ys.drop j).set j z = zs.take (j + 1) ++ ys.drop (j + 1) by rw [hz]; exact set_take zs ys j (by rw [HL.out]; exact hlt) (by rw [HY.out.1]; exact hlt))
              have lp7 := hlp6.setG (g := gg) rfl (j := j) (by rw [HJL.out]; exact hlt) z
              rw [HSET.out] at lp7
              have LP7 : Hid (Lp w Fw2 Fx4 w.heap.size (w.heap.size + 1) (.slice (some ⟨gg, 0, none⟩) ln gc) (.slice (some ⟨gn, 0, none⟩) ln nc) X E X E (zs.take (j + 1) ++ ys.drop (j + 1)) (zs.take j ++ ys.drop j) (wr.setCell ⟨gg, j, none⟩ (.int .i64 z))) := lp7
              clear hz hc0 hb hlp6 lp7
              go_upto_region 25 with fail
              generalize wr.setCell ⟨gg, j, none⟩ (.int .i64 z) = w7 at LP7 ⊢
              clear hcz hg1 hg2 LP6
              have hcz : w7.cell? ⟨b, o + j, none⟩ = some (.int .i64 z) := (LP7.out.bel.cell HBL.out).trans HC0.out
              obtain ⟨hg1, hg2⟩ := owns_ati LP7.out.n (g := gn) rfl (i := j) (by rw [HJL.out]; exact hlt)
              have LP8 : Hid (Lp w Fw2 Fx4 w.heap.size (w.heap.size + 1) (.slice (some ⟨gg, 0, none⟩) ln gc) (.slice (some ⟨gn, 0, none⟩) ln nc) X E X E (zs.take (j + 1) ++ ys.drop (j + 1)) (zs.take (j + 1) ++ ys.drop (j + 1)) (w7.setCell ⟨gn, j, none⟩ (.int .i64 z))) := by
                have := LP7.out.setN (g := gn) rfl (j := j) (by rw [HJL.out]; exact hlt) z
                rw [HSET.out] at this
                exact this
              go_wp2
              go_roundw
              case rel => exact ⟨j + 1, by omega, by go_num, LP8.out⟩
              case measure => simp [intOf]; omega
            · have LP9 : Hid (Lp w Fw2 Fx4 w.heap.size (w.heap.size + 1) (.slice ga ln gc) (.slice na ln nc) X E X E zs zs wr) := by
                rw [List.take_of_length_le (by rw [HL.out]; omega), List.drop_eq_nil_of_le (by rw [HY.out.1]; omega), List.append_nil] at hlp6
                exact hlp6
              clear hlp6 LP6
              go_wp2
              go_roundw
              case rel => exact ⟨k + 1, by omega, by go_num, Fw2, Fx4, X, E, zs, LP9.out, HL.out, fun z hz => (HZB.out z hz).2, by rw [HXE.out.1]; have := pl_len bs e ys ln; rw [HY.out.1] at this; omega⟩
              case measure => simp [intOf]; omega
        · have HBK : Hid (∀ W, Below w.heap.size w W → Bs W (fun k => k < w.heap.size) ba bn bc xs) := fun W h => HB.out.kept (Kept.of_below (F := No) h) (fun _ _ h => h)
          have c54 := turned_any _ ba bn bc xs wr (HBK.out wr hlp.bel) (by omega)
          have hbl2 : bs.length ≤ 400000200 := by omega
          have hbc := HB.out.cap
          have hbm := HB.out.max
          clear hlp hbl
          go_upto_region 27 with (go_at_call 54; refine c54.mono ?_; rintro ex w2 ⟨vh, rfl, own2, bel2⟩)
          clear c54 hk hk2
          obtain ⟨ha, hc, rfl⟩ := owns_shape own2
          have lh := LP1.out.toH (yh := trn xs) (by rw [trn_len, HXL.out]; exact own2) bel2
          have LH2 : Hid (Lh w Fw Fx w.heap.size (w.heap.size + 1) (.slice ha bn hc) bs e bs e (trn xs) w2) := lh
          have bh := own_bs' lh.h (trn_lt xs)
          have hhc := bh.2.cap
          have hhm := bh.2.max
          have c46 := bytes_any Fw _ w.heap.size bs e ha bn hc (trn xs) w2 lh.wr bh.2 (by omega)
          obtain ⟨T, hT⟩ : ∃ T, T = layBs bs e (trn xs) := ⟨_, rfl⟩
          have hTL : T.length ≤ bs.length + bn := by rw [hT]; have := layBs_len bs e (trn xs); rw [trn_len, HXL.out] at this; exact this
          have HT : Hid (T = layBs bs e (trn xs)) := hT
          rw [← hT] at c46
          clear own2 bel2 lh bh hT LP1
          go_upto_region 28 with (go_at_call 46; refine c46.mono ?_; rintro ex w3 ⟨rfl, hd3⟩)
          obtain ⟨Fw3, lh3⟩ := LH2.out.didW hd3
          have LH3 : Hid (Lh w Fw3 Fx w.heap.size (w.heap.size + 1) (.slice ha bn hc) T e bs e (trn xs) w3) := lh3
          have c54 := turned_any _ ba bn bc xs w3 (HBK.out w3 lh3.bel) (by omega)
          clear c46 hd3 lh3 LH2
          go_upto_region 29 with (first | (go_at_call 54; refine c54.mono ?_; rintro ex w4 ⟨vt, rfl, own4, bel4⟩; obtain ⟨ta, tc, rfl⟩ := owns_shape own4; have LH4 : Hid (Lh w Fw3 Fx w.heap.size (w.heap.size + 1) (.slice ha bn hc) T e bs e (trn xs) w4) := LH3.out.no (Kept.of_below bel4); have c85 := putOut_any Fx _ (w.heap.size + 1) bs e ta bn tc (trn xs) w4 LH4.out.ou (own_bs' (by rw [trn_len, HXL.out]; exact own4) (trn_lt xs)).2 (by omega); rw [← HT.out] at c85; clear own4 bel4) | (go_at_call 85; refine c85.mono ?_; rintro ex w5 ⟨rfl, hd5⟩))
          obtain ⟨Fx5, lh5⟩ := LH4.out.didX hd5
          have LH5 : Hid (Lh w Fw3 Fx5 w.heap.size (w.heap.size + 1) (.slice ha bn hc) T e T e (trn xs) w5) := lh5
          have c55 := layB_any (fun k => k < w.heap.size) w.heap.size ha ba bn hc bc (trn xs) xs w5 (by have := lh5.h; rw [trn_len, HXL.out] at this; exact this) (by rw [trn_len, HXL.out]) (HBK.out w5 lh5.bel) (fun g hg h => by have := (lh5.h.lt g hg).1; omega) (by omega)
          clear c54 c85 hd5 lh5 LH3 LH4
          go_upto_region 30 with (go_at_call 55; refine c55.mono ?_; rintro ex w6 ⟨rfl, own6, k6⟩)
          have lh6 := LH5.out.lay (yh' := xs) (by rw [HXL.out]; exact own6) k6
          have LH6 : Hid (Lh w Fw3 Fx5 w.heap.size (w.heap.size + 1) (.slice ha bn hc) T e T e xs w6) := lh6
          have c46 := bytes_any Fw3 _ w.heap.size T e ha bn hc xs w6 lh6.wr (own_bs' lh6.h HXT.out).2 (by omega)
          obtain ⟨U, hU⟩ : ∃ U, U = layBs T e xs := ⟨_, rfl⟩
          have hUL : U.length ≤ T.length + bn := by rw [hU]; have := layBs_len T e xs; rw [HXL.out] at this; exact this
          have HU : Hid (U = layBs T e xs) := hU
          rw [← hU] at c46
          clear c55 own6 k6 lh6 hU LH5
          go_upto_region 31 with (go_at_call 46; refine c46.mono ?_; rintro ex w7 ⟨rfl, hd7⟩)
          obtain ⟨Fw7, lh7⟩ := LH6.out.didW hd7
          have LH7 : Hid (Lh w Fw7 Fx5 w.heap.size (w.heap.size + 1) (.slice ha bn hc) U e T e xs w7) := lh7
          have c85 := putOut_any Fx5 _ (w.heap.size + 1) T e ba bn bc xs w7 lh7.ou (HBK.out w7 lh7.bel) (by omega)
          rw [← HU.out] at c85
          clear c46 hd7 lh7 LH6
          go_upto_region 32 with (go_at_call 85; refine c85.mono ?_; rintro ex w8 ⟨rfl, hd8⟩)
          obtain ⟨Fx8, lh8⟩ := LH7.out.didX hd8
          have LH8 : Hid (Lh w Fw7 Fx8 w.heap.size (w.heap.size + 1) (.slice ha bn hc) U e U e xs w8) := lh8
          have c34 := done_any Fw7 w.heap.size U e w8 lh8.wr (by omega)
          clear c85 hd8 lh8 LH7
          go_upto_region 33 with (go_at_call 34; refine c34.mono ?_; rintro ex w9 ⟨a9, n9, c9, rfl, hW9, k9, own9⟩)
          have lh9 := LH8.out.ask hW9 k9
          have LH9 : Hid (Lh w Fw7 Fx8 w.heap.size (w.heap.size + 1) (.slice ha bn hc) U e U e xs w9) := lh9
          have HUT : Hid (∀ x ∈ U, x < 256) := lh9.ou.lt
          have o9 := own_bs' (ys := tlX U e) own9 (tlX_lt e HUT.out)
          have HB9 : Hid (Bs w9 (fun j => (Value.slice a9 n9 c9).ownBlock = some j) a9 n9 c9 (tlX U e)) := o9.2
          obtain ⟨v9, hv9⟩ := lh9.ou
          have c90 := doneOut_any Fx8 (w.heap.size + 1) v9 U e w9 hv9
          obtain ⟨va, vn, vc, hva, hBv⟩ := hv9.told
          rw [hva] at c90
          have HBV : Hid (Bs w9 Fx8 va vn vc (tlX U e)) := hBv
          clear c34 hW9 k9 own9 lh9 o9 hv9 hva hBv LH8
          go_upto_region 34 with (go_at_call 90; refine c90.mono ?_; rintro ex w10 ⟨rfl, nd, hw10⟩; have HWQ : Hid (w10 = w9.drewN nd) := hw10; clear hw10)
          clear c90
          have k10 : Kept No w9 w10 := by rw [HWQ.out]; exact (Kept.refl No w9).drewN nd
          have LH10 : Hid (Lh w Fw7 Fx8 w.heap.size (w.heap.size + 1) (.slice ha bn hc) U e U e xs w10) := LH9.out.no k10
          have c12a := same_any _ _ _ _ _ _ _ _ _ _ w10 (HB9.out.kept k10 (fun _ _ h => h)) (HBV.out.kept k10 (fun _ _ h => h))
          rw [decide_eq_true rfl] at c12a
          have c12b : ∀ n, Calls Try.prog 12 #[.slice ha bn hc, .slice ba bn bc] (w10.drewN n) fun ex w' => ex = .returned (.bool true) ∧ ∃ k, w' = (w10.drewN n).drewN k := by
            intro n
            have lh := LH10.out.no ((Kept.refl No w10).drewN n)
            have := same_any _ _ _ _ _ _ _ _ _ _ (w10.drewN n) (own_bs' lh.h HXT.out).2 (HBK.out _ lh.bel)
            rw [decide_eq_true rfl] at this
            exact this
          clear k10 HWQ LH9 HBV HB9
          go_wp2_with (first | (go_at_call_of 12 a9; refine c12a.mono ?_; rintro ex w11 ⟨rfl, n11, hw11⟩; obtain rfl := hw11) | (go_at_call_of 12 ha; refine (c12b _).mono ?_; rintro ex w12 ⟨rfl, n12, hw12⟩; have HW12 : Hid (w12 = (w10.drewN n11).drewN n12) := hw12; clear hw12))
          go_ret
          refine ⟨rfl, ?_⟩
          rw [HW12.out]
          exact (LH10.out.no (((Kept.refl No w10).drewN n11).drewN n12)).bel

end Go.Proofs.Ytakdfpenpodplaa
