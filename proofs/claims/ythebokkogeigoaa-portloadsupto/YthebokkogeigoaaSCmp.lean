/-
  PortLoads: what its last loop keeps; laws of its operations.
-/
import Derived.Test.YthebokkogeigoaaSGiv
namespace Go.Proofs.Ythebokkogeigoaa
open Go.RowKit
set_option linter.unusedVariables false
set_option linter.unusedSimpArgs false
set_option maxRecDepth 100000

theorem Zs.low {w : World} {F : Nat → Prop} {a : Option Addr} {n c : Nat} {xs : List Int} (h : Zs w F a n c xs) : Zs w (fun k => F k ∧ k < w.heap.size) a n c xs :=
  ⟨h.len, h.cap, h.max, h.nil, fun i hi => by obtain ⟨b, o, e, hb, hc⟩ := h.at' i hi; exact ⟨b, o, e, ⟨hb, cell_lt hc⟩, hc⟩⟩
theorem Mr.low {w : World} {F : Nat → Prop} {a : Option Addr} {n c : Nat} {xs : List (List Int)} (h : Mr w F a n c xs) : Mr w (fun k => F k ∧ k < w.heap.size) a n c xs :=
  ⟨h.len, h.cap, h.max, h.nil, h.sm, fun i hi => by obtain ⟨b, o, da, dn, dc, e, hb, hc, hz, hs⟩ := h.at' i hi; exact ⟨b, o, da, dn, dc, e, ⟨hb, cell_lt hc⟩, hc, hz.low, hs⟩⟩
theorem Vr.low {w : World} {F : Nat → Prop} {A : Array Value} {s : Ps} (h : Vr w F A s) : Vr w (fun k => F k ∧ k < w.heap.size) A s := by
  obtain ⟨qa, qn, qc, da, dn, dc, e, hm, hz, hs⟩ := h
  exact ⟨qa, qn, qc, da, dn, dc, e, hm.low, hz.low, hs⟩
theorem Sr.low {w : World} {F : Nat → Prop} {a : Option Addr} {n c : Nat} {ss : Nat → Ps} (h : Sr w F a n c ss) : Sr w (fun k => F k ∧ k < w.heap.size) a n c ss :=
  ⟨h.cap, h.max, h.sm, fun i hi => by
    obtain ⟨b, o, A, e, hb, hc, hv⟩ := h.at' i hi
    have hA : A[0]? = some (A[0]'(by rw [hv.size.1]; omega)) := Array.getElem?_eq_getElem _
    exact ⟨b, o, A, e, ⟨hb, cell_lt ((hc 0 (by omega)).trans hA)⟩, hc, hv.low⟩⟩
/-- messages: of those from j on the marks stand -/
structure Mz (w : World) (B : Nat) (v : Value) (k j : Nat) (ms : Nat → Nat × Nat) (xs : List (List Int)) : Prop where
  own : w.ownsRow B 22 1 v k (cat (fun i => [msv ms xs i]) k)
  mks : ∀ i, j ≤ i → i < k → Mks w B (ms i).1 (xs.getD i []).length (ms i).2 (xs.getD i [])
  ord : ∀ i j, i < j → j < k → (ms i).1 < (ms j).1
theorem Mq.mz {w : World} {B : Nat} {v : Value} {k : Nat} {ms : Nat → Nat × Nat} {xs : List (List Int)} (h : Mq w B v k ms xs) : Mz w B v k 0 ms xs := ⟨h.own, fun i _ hi => h.mks i hi, h.ord⟩
theorem own_tag {w : World} {B t g : Nat} {v : Value} {z n : Nat} {ys : List Value} {B0 n0 c0 : Nat} {xs : List Int} (h : w.ownsRow B t z v n ys) (hm : Mks w B0 g n0 c0 xs) (ht : t ≠ 2) : v.ownBlock ≠ some g := fun e => by
  obtain ⟨_, _, cs, h2⟩ := hm.blk
  obtain ⟨_, cs', h3⟩ := owns_blk h e
  exact ht (two_tags h3 h2)
theorem Mz.keep {w w' : World} {B : Nat} {v : Value} {k j : Nat} {ms : Nat → Nat × Nat} {xs : List (List Int)} (h : Mz w B v k j ms xs) (K : Kept No w w') : Mz w' B v k j ms xs :=
  ⟨K.owns h.own (fun _ _ e => e), fun i h1 h2 => (h.mks i h1 h2).kept K (fun e => e), h.ord⟩
theorem Mz.next {w w' : World} {B : Nat} {v : Value} {k j : Nat} {ms : Nat → Nat × Nat} {xs : List (List Int)} (h : Mz w B v k j ms xs) (hj : j < k) (K : Kept (fun x => x = (ms j).1) w w') : Mz w' B v k (j + 1) ms xs := by
  have hm := h.mks j (Nat.le_refl _) hj
  refine ⟨K.owns h.own (fun g hg e => own_tag h.own hm (by decide) (by have e' : g = _ := e; rw [← e']; exact hg)), fun i h1 h2 => (h.mks i (by omega) h2).kept K (fun e => ?_), h.ord⟩
  have := h.ord j i (by omega) h2
  have e' : (ms i).1 = (ms j).1 := e
  omega
theorem Mz.cell {w : World} {B g c : Nat} {k j : Nat} {ms : Nat → Nat × Nat} {xs : List (List Int)} (h : Mz w B (.slice (some ⟨g, 0, none⟩) k c) k j ms xs) {i : Nat} (hi : i < k) : w.cell? ⟨g, i, none⟩ = some (.slice (some ⟨(ms i).1, 0, none⟩) (xs.getD i []).length (ms i).2) := by
  refine own_cell h.own ?_
  have := cat_at (f := fun i => [msv ms xs i]) (s := 1) (fun _ => rfl) k i 0 hi (by omega)
  rw [Nat.mul_one, Nat.add_zero] at this
  rw [this]; rfl
/-- a mark of state i is written over: those behind it stand -/
theorem Gv.left {w w' : World} {B : Nat} {v : Value} {k e j j' i g B0 n0 c0 : Nat} {xs : List Int} {tail : List Value} {ss : Nat → Ps} {gd : Nat → Gd} (h : Gv w B v k e j tail ss gd) (hm : Mks w B0 g n0 c0 xs) (hj : j ≤ j') (hi : i < j') (hg : g < (gd i).hi) (K : Kept (fun x => x = g) w w') : Gv w' B v k e j' tail ss gd := by
  refine ⟨K.owns h.own (fun x hx e => own_tag h.own hm (by decide) (by have e' : x = g := e; rw [← e']; exact hx)), fun l h1 h2 => ?_, h.lo, h.ord⟩
  have h3 := h.ord i l (by omega) h2
  have h4 := h.one l (by omega) h2
  have h5 := h4.dm.blk.1
  refine ⟨h4.dm.kept K (fun e => by have e' : (gd l).dg = g := e; omega), h4.q.kept K (fun x hx e => ?_) (fun a ha e => ?_), h4.hd, h4.hq, Nat.le_trans h4.hw K.size⟩
  · have := (owns_blk h4.q.own hx).1
    have e' : x = g := e
    omega
  · have := (h4.q.mks a ha).blk.1
    have e' : ((gd l).ms a).1 = g := e
    omega
theorem Gv.five {w : World} {B gv cv k e j : Nat} {tail : List Value} {ss : Nat → Ps} {gd : Nat → Gd} (h : Gv w B (.slice (some ⟨gv, 0, none⟩) (k + e) cv) k e j tail ss gd) {i : Nat} (hi : i < k) : w.cell? ⟨gv, i * 5, none⟩ = some (.slice (gd i).qa (ss i).q.length (gd i).qc) ∧ w.cell? ⟨gv, i * 5 + 1, none⟩ = some (.bool (ss i).has) ∧ w.cell? ⟨gv, i * 5 + 2, none⟩ = some (.int .i64 (ss i).tk) ∧ w.cell? ⟨gv, i * 5 + 3, none⟩ = some (.slice (some ⟨(gd i).dg, 0, none⟩) (ss i).d.length (gd i).dc) ∧ w.cell? ⟨gv, i * 5 + 4, none⟩ = some (.int .i64 (ss i).lost) :=
  ⟨h.cell hi (l := 0) (by omega), h.cell hi (l := 1) (by omega), h.cell hi (l := 2) (by omega), h.cell hi (l := 3) (by omega), h.cell hi (l := 4) (by omega)⟩
section
variable {w : World} {a : Act} {o : Oper}
theorem er_ixT (x y : Operand) (ho : o.op = .indexAddr 55 x y) (g q i n c : Nat) (hx : a.eval x = .slice (some ⟨g, q, none⟩) n c) (hy : a.eval y = .int .i64 (i : Int)) (hi : i < n) : (execOp a.eval o).run Try.prog w = .ok (.value (.pointer (some ⟨g, q + i * 5, none⟩))) w := by
  simp only [execOp, ho, hx, hy]
  simp [go_sem, add_none, hi]
theorem er_ixLL (x y : Operand) (ho : o.op = .indexAddr 47 x y) (g q i n c : Nat) (hx : a.eval x = .slice (some ⟨g, q, none⟩) n c) (hy : a.eval y = .int .i64 (i : Int)) (hi : i < n) : (execOp a.eval o).run Try.prog w = .ok (.value (.pointer (some ⟨g, q + i, none⟩))) w := by
  simp only [execOp, ho, hx, hy]
  simp [go_sem, add_none, hi]
theorem er_fM0 (x : Operand) (ho : o.op = .fieldAddr 59 x 0) (g off : Nat) (hx : a.eval x = .pointer (some ⟨g, off, none⟩)) : (execOp a.eval o).run Try.prog w = .ok (.value (.pointer (some ⟨g, off, none⟩))) w := by simp only [execOp, ho, hx]; simp [go_sem, add_none]
theorem er_fM1 (x : Operand) (ho : o.op = .fieldAddr 59 x 1) (g off : Nat) (hx : a.eval x = .pointer (some ⟨g, off, none⟩)) : (execOp a.eval o).run Try.prog w = .ok (.value (.pointer (some ⟨g, off + 1, none⟩))) w := by simp only [execOp, ho, hx]; simp [go_sem, add_none]
theorem er_fM2 (x : Operand) (ho : o.op = .fieldAddr 59 x 2) (g off : Nat) (hx : a.eval x = .pointer (some ⟨g, off, none⟩)) : (execOp a.eval o).run Try.prog w = .ok (.value (.pointer (some ⟨g, off + 2, none⟩))) w := by simp only [execOp, ho, hx]; simp [go_sem, add_none]
theorem er_eqI (x y : Operand) (ho : o.op = .binOp .eql 3 x y 3) (u : Int) (hx : a.eval x = .int .i64 u) (hy : a.eval y = .int .i64 u) : (execOp a.eval o).run Try.prog w = .ok (.value (.bool true)) w := by
  simp only [execOp, ho, hx, hy]; simp [go_sem]
theorem er_eqB (x y : Operand) (ho : o.op = .binOp .eql 4 x y 4) (u : Bool) (hx : a.eval x = .bool u) (hy : a.eval y = .bool u) : (execOp a.eval o).run Try.prog w = .ok (.value (.bool true)) w := by
  simp only [execOp, ho, hx, hy]; cases u <;> simp [go_sem]
theorem er_neI (x y : Operand) (ho : o.op = .binOp .neq 3 x y 3) (u : Int) (hx : a.eval x = .int .i64 u) (hy : a.eval y = .int .i64 u) : (execOp a.eval o).run Try.prog w = .ok (.value (.bool false)) w := by
  simp only [execOp, ho, hx, hy]; simp [go_sem]
theorem er_not (x : Operand) (ho : o.op = .unOp .not 4 x) (u : Bool) (hx : a.eval x = .bool u) : (execOp a.eval o).run Try.prog w = .ok (.value (.bool (!u))) w := by
  simp only [execOp, ho, hx]; simp [go_sem]
theorem er_cLeft (x y : Operand) (t s : TypeId) (ho : o.op = .call { callee := .value (.func 20), args := #[x, y], argTypes := #[t, s] }) (u v : Value) (hx : a.eval x = u) (hy : a.eval y = v) : (execOp a.eval o).run Try.prog w = .ok (.enter 20 #[u, v]) w := by
  subst hx hy
  simp [execOp, ho, go_sem, Act.eval]
end
theorem Pd.ss_want {n : Nat} {ps : Nat → Pr} {part : Int} {S : Pd} {ss : Nat → Ps} (h : Stn n ps part S (fun i => wantS (ps i) part (ss i))) {i : Nat} (hi : i < n) : S.ss i = wantS (ps i) part (ss i) := by
  unfold Pd.ss
  by_cases ho : S.own i = true
  · rw [if_pos ho]; exact h.sp i hi ho
  · rw [if_neg ho]
    have h1 := h.own i hi
    unfold wantS
    rw [if_neg (fun e => ho (by rw [h1]; exact decide_eq_true e))]
theorem allS_at {ps : Nat → Pr} {part : Int} {ss : Nat → Ps} : ∀ {n : Nat}, allS ps part ss n = true → ∀ i, i < n → (ps i).pt = part → fitS (ps i) (ss i) = true
  | 0, _, i, hi, _ => by omega
  | n + 1, h, i, hi, hp => by
    unfold allS at h
    rw [Bool.and_eq_true] at h
    by_cases e : i = n
    · subst e
      have h2 := h.2
      rw [Bool.or_eq_true] at h2
      rcases h2 with h2 | h2
      · exact absurd hp (of_decide_eq_true h2)
      · exact h2
    · exact allS_at h.1 i (by omega) hp
theorem want_small {p : Pr} {part : Int} {s : Ps} (hk : p.kd = 0 ∨ p.kd = 1 ∧ 0 ≤ p.dp) (hd : p.dp ≤ 64) (hf : p.pt = part → fitS p s = true) (h1 : s.d.length ≤ 1048576) (h2 : ∀ x ∈ s.q, x.length ≤ 1048576) : (wantS p part s).q.length ≤ 64 ∧ (wantS p part s).d.length ≤ 1048576 ∧ ∀ x, x ∈ (wantS p part s).q → x.length ≤ 1048576 := by
  unfold wantS
  by_cases hp : p.pt = part
  · have hf := hf hp
    rw [if_pos hp]
    unfold fitS at hf
    refine ⟨?_, ?_, ?_⟩
    · show (if p.kd = 0 then [] else s.q).length ≤ 64
      by_cases e : p.kd = 0
      · rw [if_pos e]; simp
      · rw [if_neg e] at hf ⊢
        rw [Bool.and_eq_true] at hf
        have := of_decide_eq_true hf.2
        omega
    · show (if p.kd = 1 ∨ s.has = false then [] else s.d).length ≤ 1048576
      by_cases e : p.kd = 1 ∨ s.has = false
      · rw [if_pos e]; simp
      · rw [if_neg e]; exact h1
    · intro x hx
      change x ∈ (if p.kd = 0 then [] else s.q) at hx
      by_cases e : p.kd = 0
      · rw [if_pos e] at hx; cases hx
      · rw [if_neg e] at hx; exact h2 x hx
  · rw [if_neg hp]
    exact ⟨by simp [Ps.zero], by simp [Ps.zero], fun x hx => by simp [Ps.zero] at hx⟩
theorem fit_dp (p : Pr) : (fitP p).dp ≤ 64 := by
  unfold fitP
  by_cases h : p.kd % 2 = 1
  · simp only [h, if_true]; omega
  · simp only [h, if_false]; omega
end Go.Proofs.Ythebokkogeigoaa
