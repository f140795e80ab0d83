/-
  One text: VRn.
-/
import Derived.Test.YtnmhcnppdhdhfaaGreatDoorG40
import Derived.Test.YtnmhcnppdhdhfaaGreatDoorHRHand
import Derived.Test.YtnmhcnppdhdhfaaGreatDoorG45
import Derived.Deep.RegionWith
import Derived.Deep.CutBlock
namespace Go.Proofs.YtnmhcnppdhdhfaaGreatDoor
open Go.RowKit Plain Rp
set_option linter.unusedVariables false
set_option linter.unusedSimpArgs false
set_option maxRecDepth 100000

section
variable {P : Program} {md : Region.Mode} {ops : Array Oper} {Q : Exit → Act → World → Prop} {S : World → Prop} {fuel : Nat} {listed : Array Bool} {a : Act} {w : World}
/-- a call and a read may come up: both orders -/
theorem d_rcT (T : World → Prop) (i k j l : Nat) {oi oj : Oper} {f : FuncId} {args : Array Value} {v u : Value} (hr : Region.ready md ops listed = [i, j]) (hi : ops[i]? = some oi) (hj : ops[j]? = some oj) (hd : oi.dst = some k) (hdj : oj.dst = some l) (hw : Region.wanted oi (yielded ops a.tmps) = true) (hwj : Region.wanted oj (yielded ops a.tmps) = true) (hrun : (execOp a.eval oi).run P w = .ok (.enter f args) w) (hrunj : (execOp a.eval oj).run P w = .ok (.value u) w)
    (hc : Calls P f args w fun e w'' => e = .returned v ∧ S w'' ∧ T w'') (hS : S w) (h : ∀ w'', S w'' → T w'' → wpAnyH P md ops Q S fuel (listed.setIfInBounds i true) (a.put (some k) v) w'') (h' : wpAnyH P md ops Q S fuel (listed.setIfInBounds j true) (a.put (some l) u) w) : wpAnyH P md ops Q S (fuel + 1) listed a w :=
  d_two T i k j l hr hi hj hd hdj hw hwj hrun hrunj hc hS h h'
end
section
variable {o : Oper} {a : Act} {w : World}
theorem er_lenPrc (x : Operand) (ho : o.op = .call { callee := .builtin .len, args := #[x], argTypes := #[42] }) (p : Option Addr) (n c : Nat) (hx : a.eval x = .slice p n c) : (execOp a.eval o).run Tryz.prog w = .ok (.value (.int .i64 n)) w := by
  generalize a.eval = ev at hx ⊢
  simp [execOp, ho, go_sem, hx]
theorem er_mkJ (x y : Operand) (ho : o.op = .makeSlice 78 x y) (n : Nat) (hn : n ≤ 70000) (hx : a.eval x = .int .i64 n) (hy : a.eval y = .int .i64 n) : (execOp a.eval o).run Tryz.prog w = .ok (.value (.slice (some ⟨w.heap.size, 0, none⟩) n n)) (mkJ n w) := by
  simp only [execOp, ho, hx, hy, Sem.run_bind, mkJ_run n hn w, Result.andThen_ok]
  rfl
theorem er_ixJ (x y : Operand) (ho : o.op = .indexAddr 78 x y) (g n c d : Nat) (hd : d < n) (hn : n ≤ 9223372036854775807) (hx : a.eval x = .slice (some ⟨g, 0, none⟩) n c) (hy : a.eval y = .int .i64 d) : (execOp a.eval o).run Tryz.prog w = .ok (.value (.pointer (some ⟨g, d * 3, none⟩))) w := by
  simp only [execOp, ho, hx, hy]
  simp [go_sem, add_none]
  omega
theorem er_ixIs (x y : Operand) (ho : o.op = .indexAddr 27 x y) (b off n c d : Nat) (hd : d < n) (hn : n ≤ 9223372036854775807) (hx : a.eval x = .slice (some ⟨b, off, none⟩) n c) (hy : a.eval y = .int .i64 d) : (execOp a.eval o).run Tryz.prog w = .ok (.value (.pointer (some ⟨b, off + d, none⟩))) w := by
  simp only [execOp, ho, hx, hy]
  simp [go_sem, add_none]
  omega
theorem er_gtN (x y : Operand) (ho : o.op = .binOp .gtr 3 x y 3) (k l : Int) (b : Bool) (hx : a.eval x = .int .i64 k) (hy : a.eval y = .int .i64 l) (hb : decide (l < k) = b) : (execOp a.eval o).run Tryz.prog w = .ok (.value (.bool b)) w := by
  subst hb; simp only [execOp, ho, hx, hy]; simp [go_sem]
theorem er_neN (x y : Operand) (ho : o.op = .binOp .neq 3 x y 3) (k l : Int) (b : Bool) (hx : a.eval x = .int .i64 k) (hy : a.eval y = .int .i64 l) (hb : (k != l) = b) : (execOp a.eval o).run Tryz.prog w = .ok (.value (.bool b)) w := by
  subst hb; simp only [execOp, ho, hx, hy]; simp [go_sem, bne]
theorem er_pkT (c x y : Operand) (ho : o.op = .pick c x y) (v : Value) (hc : a.eval c = .bool true) (hx : a.eval x = v) : (execOp a.eval o).run Tryz.prog w = .ok (.value v) w := by
  simp only [execOp, ho, hc, hx]; simp [go_sem]
theorem er_pkF (c x y : Operand) (ho : o.op = .pick c x y) (v : Value) (hc : a.eval c = .bool false) (hx : a.eval y = v) : (execOp a.eval o).run Tryz.prog w = .ok (.value v) w := by
  simp only [execOp, ho, hc, hx]; simp [go_sem]
theorem er_eqN (x y : Operand) (ho : o.op = .binOp .eql 3 x y 3) (k l : Int) (b : Bool) (hx : a.eval x = .int .i64 k) (hy : a.eval y = .int .i64 l) (hb : (k == l) = b) : (execOp a.eval o).run Tryz.prog w = .ok (.value (.bool b)) w := by
  subst hb
  simp only [execOp, ho, hx, hy]; simp [go_sem]
theorem er_fJ0 (x : Operand) (ho : o.op = .fieldAddr 80 x 0) (g k : Nat) (hx : a.eval x = .pointer (some ⟨g, k, none⟩)) : (execOp a.eval o).run Tryz.prog w = .ok (.value (.pointer (some ⟨g, k, none⟩))) w := by
  simp only [execOp, ho, hx]; simp [go_sem, add_none]
theorem er_fJ1 (x : Operand) (ho : o.op = .fieldAddr 80 x 1) (g k : Nat) (hx : a.eval x = .pointer (some ⟨g, k, none⟩)) : (execOp a.eval o).run Tryz.prog w = .ok (.value (.pointer (some ⟨g, k + 1, none⟩))) w := by
  simp only [execOp, ho, hx]; simp [go_sem, add_none]
theorem er_fJ2 (x : Operand) (ho : o.op = .fieldAddr 80 x 2) (g k : Nat) (hx : a.eval x = .pointer (some ⟨g, k, none⟩)) : (execOp a.eval o).run Tryz.prog w = .ok (.value (.pointer (some ⟨g, k + 2, none⟩))) w := by
  simp only [execOp, ho, hx]; simp [go_sem, add_none]
theorem er_bJ (x y z : Operand) (ho : o.op = .build 80 #[(0, x), (1, y), (2, z)]) (u v t : Int) (hx : a.eval x = .int .i64 u) (hy : a.eval y = .int .i64 v) (hz : a.eval z = .int .i64 t) : (execOp a.eval o).run Tryz.prog w = .ok (.value (.agg #[.int .i64 u, .int .i64 v, .int .i64 t])) w := by
  have e : (Instr.build 80 #[(0, .int .i64 u), (1, .int .i64 v), (2, .int .i64 t)]).run Tryz.prog w = .ok (.agg #[.int .i64 u, .int .i64 v, .int .i64 t]) w := by kernel_rfl
  simp only [execOp, ho, List.map_toArray, List.map_cons, List.map_nil, hx, hy, hz]; rw [Sem.run_bind, e]; rfl
theorem er_stJ (x y : Operand) (ho : o.op = .store 80 x y) (g k : Nat) (u v t : Int) (u0 u1 u2 : Value) (hx : a.eval x = .pointer (some ⟨g, k, none⟩)) (hy : a.eval y = .agg #[.int .i64 u, .int .i64 v, .int .i64 t]) (h0 : w.cell? ⟨g, k, none⟩ = some u0) (h1 : w.cell? ⟨g, k + 1, none⟩ = some u1) (h2 : w.cell? ⟨g, k + 2, none⟩ = some u2) (hf : ∀ x, w.frozen? ⟨g, x, none⟩ = false) :
    (execOp a.eval o).run Tryz.prog w = .ok .skip (((w.setCell ⟨g, k, none⟩ (.int .i64 u)).setCell ⟨g, k + 1, none⟩ (.int .i64 v)).setCell ⟨g, k + 2, none⟩ (.int .i64 t)) := by
  simp only [execOp, ho, hx, hy]
  simp [go_sem, h0, h1, h2, hf, add_none]
theorem er_cTk (x0 x1 x2 x3 : Operand) (ts : Array TypeId) (ho : o.op = .call { callee := .value (.func 23), args := #[x0, x1, x2, x3], argTypes := ts }) (v0 v1 v2 v3 : Value) (h0 : a.eval x0 = v0) (h1 : a.eval x1 = v1) (h2 : a.eval x2 = v2) (h3 : a.eval x3 = v3) : (execOp a.eval o).run Tryz.prog w = .ok (.enter 23 #[v0, v1, v2, v3]) w := by
  subst h0; subst h1; subst h2; subst h3
  simp [execOp, ho, go_sem, Act.eval]
end
theorem ld_prc {W : World} {b o : Nat} {v0 v1 v2 v3 v4 v5 : Value} (h0 : W.cell? ⟨b, o, none⟩ = some v0) (h1 : W.cell? ⟨b, o + 1, none⟩ = some v1) (h2 : W.cell? ⟨b, o + 2, none⟩ = some v2) (h3 : W.cell? ⟨b, o + 3, none⟩ = some v3) (h4 : W.cell? ⟨b, o + 4, none⟩ = some v4) (h5 : W.cell? ⟨b, o + 5, none⟩ = some v5) :
    (Instr.loadAt 54 (.pointer (some ⟨b, o, none⟩))).run Tryz.prog W = .ok (.agg #[v0, v1, v2, v3, v4, v5]) W :=
  run_loadAt_mid W b o _ [v0, v1, v2, v3, v4, v5] _ (fun j v hv => by
      match j, hv with
      | 0, hv => cases hv; exact h0
      | 1, hv => cases hv; exact h1
      | 2, hv => cases hv; exact h2
      | 3, hv => cases hv; exact h3
      | 4, hv => cases hv; exact h4
      | 5, hv => cases hv; exact h5
      | j + 6, hv => simp at hv) Tryz.underlying54 rfl sizeEPrc

/-- what a run answers -/
def RunR (o : Nat → Bool) (T : Nat → Nat) (C : Nat → Nat → Nat) (N s : Nat) (q : Nat → Nat) (v : Nat → Int) (w : World) (e : Ending) (w' : World) : Prop :=
  ∃ b : Bool, e = .returned (.bool b) ∧ Kept No w w' ∧ (b = true → ∀ t, t < N → ∀ j, j < s → ends (lvR o T C j) (C j) (T j) t = true → ((t % T j + 1 : Nat) : Int) ≤ v (q j)) ∧ (b = false → ∃ t, t < N ∧ ∃ j, j < s ∧ ends (lvR o T C j) (C j) (T j) t = true ∧ v (q j) < ((t % T j + 1 : Nat) : Int))
/-- the numbers stay small -/
def Bdj (n : Nat) (t c : Int) (f : Nat → Jb) : Prop := ∀ i, i < n → 0 ≤ (f i).rl ∧ (f i).rl ≤ t ∧ 0 ≤ (f i).lf ∧ (f i).lf ≤ 2199023255552 ∧ 0 ≤ (f i).ct ∧ (f i).ct ≤ c
/-- how a run stands ahead of tick t -/
structure Rst (o : Nat → Bool) (T : Nat → Nat) (C : Nat → Nat → Nat) (n s : Nat) (q : Nat → Nat) (v : Nat → Int) (g : Nat) (w W : World) (t : Nat) (f : Nat → Jb) : Prop where
  jm : Jm W g n f
  kp : Kept No w W
  rel : ∀ j, j < s → f (q j) = jb0 o T C j t
  bd : Bdj n t t f
  nov : ∀ u, u < t → ∀ j, j < s → ends (lvR o T C j) (C j) (T j) u = true → ((u % T j + 1 : Nat) : Int) ≤ v (q j)
def part (per : Nat → Int) (tk : Nat → Nat → Int) (t i : Nat) (f : Nat → Jb) : Nat → Jb := fun a => if a < i then relS per tk t a (f a) else f a
theorem part_at (per : Nat → Int) (tk : Nat → Nat → Int) (t i : Nat) (f : Nat → Jb) : part per tk t i f i = f i := if_neg (Nat.lt_irrefl _)
theorem part_next (per : Nat → Int) (tk : Nat → Nat → Int) (t i : Nat) (f : Nat → Jb) (a : Nat) : updJ (part per tk t i f) i (relS per tk t i (f i)) a = part per tk t (i + 1) f a := by
  unfold updJ part
  by_cases e : a = i
  · subst e; rw [if_pos rfl, if_pos (Nat.lt_succ_self _)]
  · rw [if_neg e]
    by_cases h : a < i
    · rw [if_pos h, if_pos (by omega)]
    · rw [if_neg h, if_neg (by omega)]
theorem part_stay (per : Nat → Int) (tk : Nat → Nat → Int) (t i : Nat) (f : Nat → Jb) (h : ¬ ((t : Int) % per i = 0 ∧ (f i).lf = 0)) (a : Nat) : part per tk t i f a = part per tk t (i + 1) f a := by
  unfold part
  by_cases e : a = i
  · subst e
    rw [if_neg (Nat.lt_irrefl _), if_pos (Nat.lt_succ_self _)]
    unfold relS; rw [if_neg h]
  · by_cases h2 : a < i
    · rw [if_pos h2, if_pos (by omega)]
    · rw [if_neg h2, if_neg (by omega)]
theorem bd_rel {n t : Nat} {per : Nat → Int} {tk : Nat → Nat → Int} {f : Nat → Jb} (h : Bdj n t t f) (hk : ∀ c i, i < n → 1 ≤ tk c i ∧ tk c i ≤ 2199023255552) : Bdj n t (t + 1) (part per tk t n f) := fun i hi => by
  obtain ⟨h1, h2, h3, h4, h5, h6⟩ := h i hi
  unfold part
  rw [if_pos hi]
  unfold relS
  split
  · obtain ⟨k1, k2⟩ := hk (f i).ct.toNat i hi
    exact ⟨by show (0 : Int) ≤ t; omega, Int.le_refl _, by show 0 ≤ tk _ _; omega, k2, by show 0 ≤ (f i).ct + 1; omega, by show (f i).ct + 1 ≤ _; omega⟩
  · exact ⟨h1, h2, h3, h4, h5, by omega⟩
theorem bd_same {n t : Nat} {f : Nat → Jb} (h : Bdj n t (t + 1) f) : Bdj n ((t + 1 : Nat) : Int) ((t + 1 : Nat) : Int) f := fun i hi => by
  obtain ⟨h1, h2, h3, h4, h5, h6⟩ := h i hi
  exact ⟨h1, by omega, h3, h4, h5, by omega⟩
theorem bd_work {n t k : Nat} {f : Nat → Jb} (h : Bdj n t (t + 1) f) (hp : 0 < (f k).lf) : Bdj n ((t + 1 : Nat) : Int) ((t + 1 : Nat) : Int) (fun i => if i = k then wkS (f i) else f i) := fun i hi => by
  obtain ⟨h1, h2, h3, h4, h5, h6⟩ := h i hi
  show 0 ≤ (if i = k then wkS (f i) else f i).rl ∧ _
  by_cases e : i = k
  · subst e
    simp only [if_true, wkS]
    exact ⟨h1, by omega, by omega, by omega, h5, by omega⟩
  · simp only [if_neg e]
    exact ⟨h1, by omega, h3, h4, h5, by omega⟩

attribute [local irreducible] wpQuiet
set_option maxHeartbeats 32000000 in
theorem run_any {F F2 F3 : Nat → Prop} {a : Option Addr} {n c : Nat} {xs : List Prc} {ta : Option Addr} {tn tc : Nat} {R : List (Nat × Nat)} {b : Option Addr} {l d : Nat} {zs : List Int} {gl cw : Nat} (fo : Nat → Nat) (p N : Nat) (T : Nat → Nat) (C : Nat → Nat → Nat) (s : Nat) (q : Nat → Nat) (v : Nat → Int) (w : World)
    (hP : Ls 6 elPrc w F a n c xs) (hR : Tn w F2 ta tn tc R) (hTi : Rule.Tile fo 0 N R) (hZ : Ls 1 elI w F3 b l d zs) (hW : RdN w gl n v) (hcw : n ≤ cw) (hcw2 : cw ≤ 9223372036854775807) (hn : n ≤ 70000) (hN : N ≤ 20000)
    (hT : ∀ i, i < n → 1 ≤ (xs.getD i dPrc).pe ∧ (xs.getD i dPrc).pe ≤ 2199023255552 ∧ 1 ≤ (xs.getD i dPrc).ca ∧ (xs.getD i dPrc).ca ≤ 2199023255552) (hv : ∀ i, i < n → -1 ≤ v i ∧ v i ≤ 4398046511104)
    (hS : Sch (occB fo p) T C n s q (prs xs) v (fun i => (xs.getD i dPrc).pe) (fun ct i => tkV zs (xs.getD i dPrc).ca ct i)) :
    Calls Tryz.prog 10 #[.slice a n c, .int .i64 (p : Int), .slice ta tn tc, .slice b l d, .slice (some ⟨gl, 0, none⟩) n cw] w (RunR (occB fo p) T C N s q v w) := by
  have hlR := hR.len
  have hmR : tn ≤ 9223372036854775807 := Nat.le_trans hR.cap hR.max
  have hcP := hP.cap
  have hmP := hP.max
  have HP : Hid (∀ W, Kept No w W → Ls 6 elPrc W F a n c xs) := fun W k => hP.kept k (fun _ _ h => h) (elPrc_kept k (fun _ _ h => h))
  have HR : Hid (∀ W, Kept No w W → Tn W F2 ta tn tc R) := fun W k => hR.kept k (fun _ _ h => h)
  have HZ : Hid (∀ W, Kept No w W → Ls 1 elI W F3 b l d zs) := fun W k => hZ.kept k (fun _ _ h => h) (elI_kept k (fun _ _ h => h))
  have HWo : Hid (∀ W, Kept No w W → RdN W gl n v) := fun W k => hW.kept k
  have HTi := hid hTi
  have HT := hid hT
  have HV := hid hv
  have HS := hid hS
  obtain ⟨g, hg⟩ : ∃ g, g = w.heap.size := ⟨_, rfl⟩
  have HJ0 : Hid (Jm (mkJ n w) g n (fun _ => zeroJ)) := by rw [hg]; exact mkJ_jm n w
  have HK0 : Hid (Kept No w (mkJ n w)) := (Kept.refl No w).alloc _
  have HGE : Hid (w.heap.size ≤ g) := by rw [hg]; exact Nat.le_refl _
  have HST : Hid (∀ W (k : Nat) (u x y : Value), Kept No w W → Kept No w (((W.setCell ⟨g, k, none⟩ u).setCell ⟨g, k + 1, none⟩ x).setCell ⟨g, k + 2, none⟩ y)) := fun W k u x y h => ((h.setCell (p := ⟨g, k, none⟩) (.inr HGE.out) _).setCell (p := ⟨g, k + 1, none⟩) (.inr HGE.out) _).setCell (p := ⟨g, k + 2, none⟩) (.inr HGE.out) _
  clear hP hR hZ hW hTi hT hv hS
  go_enter Tryz.func10, Tryz.ntmps10
  go_upto_region 1 with fail
  refine wp_region_lit ?_
  refine l_take 17 rfl rfl (er_mv _ rfl (.slice a n c) rfl) ?_
  simp only [Act.put, List.setIfInBounds_toArray, List.set_cons_zero, List.set_cons_succ]
  refine l_take 18 rfl rfl (er_lenPrc _ rfl a n c rfl) ?_
  simp only [Act.put, List.setIfInBounds_toArray, List.set_cons_zero, List.set_cons_succ]
  refine l_make 19 rfl rfl (er_mkJ _ _ rfl n hn rfl rfl) ?_
  simp only [Act.put, List.setIfInBounds_toArray, List.set_cons_zero, List.set_cons_succ]
  rw [← hg]
  clear hg
  generalize mkJ n w = w1 at *
  go_wp2
  go_loopw [12, 13] (fun tv sv wr => ∃ (i : Nat) (f : Nat → Jb), sv = .int .i64 (i : Int) ∧ tv = .int .i64 ((Rule.pre R i : Nat) : Int) ∧ i ≤ tn ∧ Rst (occB fo p) T C n s q v g w wr (Rule.pre R i) f) (fun _ sv _ => tn - (intOf sv).toNat)
  case atStart => exact ⟨0, fun _ => zeroJ, rfl, rfl, Nat.zero_le _, HJ0.out, HK0.out, fun j _ => rfl, fun i _ => ⟨Int.le_refl _, by simp [zeroJ], Int.le_refl _, by simp [zeroJ], Int.le_refl _, by simp [zeroJ]⟩, fun u hu => absurd hu (by rw [Rule.pre_zero]; exact Nat.not_lt_zero _)⟩
  case round =>
    obtain ⟨i, f0, rfl, rfl, hi, hst0⟩ := hrel
    have HST0 := hid hst0
    clear hst0
    by_cases hit : i < tn
    · have hx : R[i]? = some (R.getD i (0, 0)) := by rw [List.getD, List.getElem?_eq_getElem (by omega)]; rfl
      obtain ⟨x1, hx1⟩ : ∃ x, x = R.getD i (0, 0) := ⟨_, rfl⟩
      rw [← hx1] at hx
      clear hx1
      have HPS := hid (Rule.pre_succ hx)
      have HIT := hid hit
      have hpN : Rule.pre R i + x1.1 ≤ N := by
        have := pre_bd HTi.out (i := i + 1) (by omega)
        rw [Rule.pre_succ hx] at this
        exact this
      have HSL : Hid (∀ W, Kept No w W → ∃ sb so, ta = some ⟨sb, so, none⟩ ∧ W.cell? ⟨sb, so + i * 2, none⟩ = some (.int .i64 (x1.1 : Int)) ∧ W.cell? ⟨sb, so + i * 2 + 1, none⟩ = some (.int .i64 (x1.2 : Int))) := fun W k => by
        obtain ⟨sb, so, e, _, h0, h1⟩ := (HR.out W k).at' i _ hx
        exact ⟨sb, so, e, h0, h1⟩
      have HOC : Hid (∀ u, u < x1.1 → fo (Rule.pre R i + u) = x1.2) := fun u hu => by
        have := HTi.out.at' i _ hx (Rule.pre R i + u) (by omega) (by omega)
        rwa [Nat.zero_add] at this
      obtain ⟨sb, so, rfl, _, _⟩ := HSL.out _ HST0.out.kp
      have HSL2 : Hid (∀ W, Kept No w W → W.cell? ⟨sb, so + i * 2, none⟩ = some (.int .i64 (x1.1 : Int)) ∧ W.cell? ⟨sb, so + i * 2 + 1, none⟩ = some (.int .i64 (x1.2 : Int))) := fun W k => by
        obtain ⟨sb', so', e, h0, h1⟩ := HSL.out W k
        injection e with e
        injection e with e1 e2 _
        subst e1 e2
        exact ⟨h0, h1⟩
      have hi2 : (i : Int) < (tn : Int) := by omega
      obtain ⟨t0, ht0⟩ : ∃ t0, t0 = Rule.pre R i := ⟨_, rfl⟩
      rw [← ht0] at HST0 HPS hpN HOC ⊢
      have HT0 := hid ht0
      clear hx hi hit HSL ht0
      generalize wr = wo at *
      go_wp2
      go_loopw [12, 14] (fun tv kv wr => ∃ (k : Nat) (f : Nat → Jb), kv = .int .i64 (k : Int) ∧ tv = .int .i64 ((t0 + k : Nat) : Int) ∧ k ≤ x1.1 ∧ Rst (occB fo p) T C n s q v g w wr (t0 + k) f) (fun _ kv _ => x1.1 - (intOf kv).toNat)
      case atStart => exact ⟨0, f0, rfl, rfl, Nat.zero_le _, HST0.out⟩
      case round =>
        obtain ⟨k, f, rfl, rfl, hk, hst⟩ := hrel
        have HSt := hid hst
        obtain ⟨sc0, sc1⟩ := HSL2.out wr hst.kp
        clear hst
        by_cases hkl : k < x1.1
        · have hkl2 : (k : Int) < (x1.1 : Int) := by omega
          have HKL := hid hkl
          obtain ⟨tt, htt⟩ : ∃ tt, tt = t0 + k := ⟨_, rfl⟩
          rw [← htt] at HSt ⊢
          have htN : tt < N := by omega
          have HTT := hid htt
          clear hk hkl htt
          generalize wr = wk at *
          go_wp2
          clear sc0 sc1
          go_loopw [15] (fun iv wr => ∃ ii : Nat, iv = .int .i64 (ii : Int) ∧ ii ≤ n ∧ Jm wr g n (part (fun i => (xs.getD i dPrc).pe) (fun ct i => tkV zs (xs.getD i dPrc).ca ct i) tt ii f) ∧ Kept No w wr) (fun iv _ => n - (intOf iv).toNat)
          case atStart => exact ⟨0, rfl, Nat.zero_le _, HSt.out.jm.congr (fun a _ => by unfold part; rw [if_neg (Nat.not_lt_zero _)]), HSt.out.kp⟩
          case round =>
            obtain ⟨ii, rfl, hii, hJ, hK⟩ := hrel
            have HKr := hid hK
            have HJr := hid hJ
            clear hJ hK
            by_cases hin : ii < n
            · have hin2 : (ii : Int) < (n : Int) := by omega
              have HIN := hid hin
              obtain ⟨pb, po, rfl, _, _, p0, p1, p2, p3, p4, p5⟩ := jproc (HP.out wr HKr.out) hin
              have j1 := HJr.out.c1 hin
              rw [part_at] at j1
              obtain ⟨per, hper⟩ : ∃ per, per = (xs.getD ii dPrc).pe := ⟨_, rfl⟩
              have hpb : 1 ≤ per ∧ per ≤ 2199023255552 := by rw [hper]; obtain ⟨a1, a2, _⟩ := HT.out ii hin; exact ⟨a1, a2⟩
              have p2' := p2
              rw [← hper] at p2'
              obtain ⟨lf, hlf⟩ : ∃ lf, lf = (f ii).lf := ⟨_, rfl⟩
              rw [← hlf] at j1
              have hv1 : RdN wr gl n v := HWo.out wr HKr.out
              have vc := hv1 ii hin
              have hpz : (per == 0) = false := by simp; omega
              have hpz2 : ¬ per = 0 := by omega
              have HPER := hid hper
              have HLF := hid hlf
              have hb := HSt.out.bd ii hin
              have HBD := hid hb
              clear hii hper hlf hv1 hb
              by_cases hm : (tt : Int) % per = 0
              · have hmb : ((tt : Int) % per == 0) = true := by simpa using hm
                have HM := hid hm
                clear hm
                by_cases hz : lf = 0
                · have hzb : (lf == 0) = true := by simpa using hz
                  have HZ0 := hid hz
                  clear hz p0 p1 p2 p3 p4 p5 vc
                  go_upto_region 13 with fail
                  clear p2' j1 hmb hzb
                  obtain ⟨z, hz⟩ : ∃ z, z = xs.getD ii dPrc := ⟨_, rfl⟩
                  have HLD : Hid (∀ W, Kept No w W → (Instr.loadAt 54 (.pointer (some ⟨pb, po + ii * 6, none⟩))).run Tryz.prog W = .ok (.agg #[.int .i64 z.en, .int .i64 z.pr, .int .i64 z.pe, .int .i64 z.li, .int .i64 z.ca, .bool z.auto]) W) := fun W kW => by
                    obtain ⟨pb', po', e, _, _, p0, p1, p2, p3, p4, p5⟩ := jproc (HP.out W kW) HIN.out
                    injection e with e
                    injection e with e1 e2 _
                    subst e1 e2
                    rw [hz]
                    exact ld_prc p0 p1 p2 p3 p4 p5
                  obtain ⟨cc, hcc⟩ : ∃ cc, cc = (f ii).ct := ⟨_, rfl⟩
                  obtain ⟨cn, rfl⟩ : ∃ cn : Nat, cc = cn := ⟨cc.toNat, by have := HBD.out; omega⟩
                  obtain ⟨tk, htk⟩ : ∃ tk, tk = tkV zs z.ca cn ii := ⟨_, rfl⟩
                  have hcnb : cn ≤ 100000 := by have := HBD.out; omega
                  have HTK : Hid (∀ W, Kept No w W → Calls Tryz.prog 23 #[.agg #[.int .i64 z.en, .int .i64 z.pr, .int .i64 z.pe, .int .i64 z.li, .int .i64 z.ca, .bool z.auto], .int .i64 (cn : Int), .slice b l d, .int .i64 (ii : Int)] W fun e w' => e = .returned (.int .i64 tk) ∧ Kept No W w') := fun W kW => by
                    rw [htk]
                    exact taken_any z cn ii W (HZ.out W kW) hcnb (by omega) (by rw [hz]; exact (HT.out ii HIN.out).2.2.1) (by rw [hz]; exact (HT.out ii HIN.out).2.2.2)
                  have HREL : Hid (relS (fun i => (xs.getD i dPrc).pe) (fun ct i => tkV zs (xs.getD i dPrc).ca ct i) tt ii (f ii) = ⟨tt, tk, (cn : Int) + 1⟩) := by
                    show _ = _
                    unfold relS
                    rw [if_pos ⟨by show (tt : Int) % (xs.getD ii dPrc).pe = 0; rw [← HPER.out]; exact HM.out, by rw [← HLF.out]; exact HZ0.out⟩, ← hcc, htk, hz, Int.toNat_natCast]
                  have HW1 : Hid (wrap64 ((cn : Int) + 1) = (cn : Int) + 1) := by show _ = _; unfold wrap64; omega
                  have HQ : Hid (ii < n ∧ n ≤ 9223372036854775807) := ⟨HIN.out, by omega⟩
                  have HJN : Hid (Jm wr g n (part (fun i => (xs.getD i dPrc).pe) (fun ct i => tkV zs (xs.getD i dPrc).ca ct i) tt ii f) ∧ wr.cell? ⟨g, ii * 3 + 2, none⟩ = some (.int .i64 (cn : Int))) := ⟨HJr.out, by
                    have := HJr.out.c2 HIN.out
                    rw [part_at, ← hcc] at this
                    exact this⟩
                  clear hcc htk hcnb hz HBD
                  have HRL : Hid (∀ W, Jm W g n (updJ (part (fun i => (xs.getD i dPrc).pe) (fun ct i => tkV zs (xs.getD i dPrc).ca ct i) tt ii f) ii ⟨tt, tk, (cn : Int) + 1⟩) → Jm W g n (part (fun i => (xs.getD i dPrc).pe) (fun ct i => tkV zs (xs.getD i dPrc).ca ct i) tt (ii + 1) f)) := fun W h => h.congr (fun a ha => by rw [← HREL.out]; exact part_next _ _ _ _ _ a)
                  generalize part (fun i => (xs.getD i dPrc).pe) (fun ct i => tkV zs (xs.getD i dPrc).ca ct i) tt ii f = fp at *
                  generalize (cn : Int) = cc at *
                  refine wp_region_held_drew (S := fun W => Kept No w W) (by kernel_rfl) (HKr.out.drew) (fun hS => ?_)
                  refine d_take 0 57 rfl rfl (by kernel_rfl) (by kernel_rfl) (by kernel_rfl) (fun _ _ _ h => h) rfl (fun w5 hw5 => er_mv _ rfl (.slice (some ⟨g, 0, none⟩) n n) rfl) hS ?_
                  simp only [Act.put, List.setIfInBounds_toArray, List.set_cons_zero, List.set_cons_succ]
                  refine d_take 1 58 rfl rfl (by kernel_rfl) (by kernel_rfl) (by kernel_rfl) (fun _ _ _ h => h) rfl (fun w5 hw5 => er_mv _ rfl (.int .i64 (ii : Int)) rfl) hS ?_
                  simp only [Act.put, List.setIfInBounds_toArray, List.set_cons_zero, List.set_cons_succ]
                  refine d_take 2 59 rfl rfl (by kernel_rfl) (by kernel_rfl) (by kernel_rfl) (fun _ _ _ h => h) rfl (fun w5 hw5 => er_mv _ rfl (.int .i64 (tt : Int)) rfl) hS ?_
                  simp only [Act.put, List.setIfInBounds_toArray, List.set_cons_zero, List.set_cons_succ]
                  refine d_take 3 60 rfl rfl (by kernel_rfl) (by kernel_rfl) (by kernel_rfl) (fun _ _ _ h => h) rfl (fun w5 hw5 => er_mv _ rfl (.slice (some ⟨pb, po, none⟩) n c) rfl) hS ?_
                  simp only [Act.put, List.setIfInBounds_toArray, List.set_cons_zero, List.set_cons_succ]
                  refine d_take 4 61 rfl rfl (by kernel_rfl) (by kernel_rfl) (by kernel_rfl) (fun _ _ _ h => h) rfl (fun w5 hw5 => er_mv _ rfl (.int .i64 (ii : Int)) rfl) hS ?_
                  simp only [Act.put, List.setIfInBounds_toArray, List.set_cons_zero, List.set_cons_succ]
                  refine d_take 5 62 rfl rfl (by kernel_rfl) (by kernel_rfl) (by kernel_rfl) (fun _ _ _ h => h) rfl (fun w5 hw5 => er_idxPrc _ _ rfl pb po n c ii HQ.out.1 HQ.out.2 rfl rfl) hS ?_
                  simp only [Act.put, List.setIfInBounds_toArray, List.set_cons_zero, List.set_cons_succ]
                  refine d_take 6 63 rfl rfl (by kernel_rfl) (by kernel_rfl) (by kernel_rfl) (fun _ _ _ h => h) rfl (fun w5 hw5 => er_ld _ _ rfl _ _ rfl (HLD.out w5 hw5)) hS ?_
                  simp only [Act.put, List.setIfInBounds_toArray, List.set_cons_zero, List.set_cons_succ]
                  refine d_take 7 64 rfl rfl (by kernel_rfl) (by kernel_rfl) (by kernel_rfl) (fun _ _ _ h => h) rfl (fun w5 hw5 => er_mv _ rfl (.slice (some ⟨g, 0, none⟩) n n) rfl) hS ?_
                  simp only [Act.put, List.setIfInBounds_toArray, List.set_cons_zero, List.set_cons_succ]
                  refine d_take 8 65 rfl rfl (by kernel_rfl) (by kernel_rfl) (by kernel_rfl) (fun _ _ _ h => h) rfl (fun w5 hw5 => er_mv _ rfl (.int .i64 (ii : Int)) rfl) hS ?_
                  simp only [Act.put, List.setIfInBounds_toArray, List.set_cons_zero, List.set_cons_succ]
                  refine d_take 9 66 rfl rfl (by kernel_rfl) (by kernel_rfl) (by kernel_rfl) (fun _ _ _ h => h) rfl (fun w5 hw5 => er_ixJ _ _ rfl g n n ii HQ.out.1 HQ.out.2 rfl rfl) hS ?_
                  simp only [Act.put, List.setIfInBounds_toArray, List.set_cons_zero, List.set_cons_succ]
                  refine d_take 10 67 rfl rfl (by kernel_rfl) (by kernel_rfl) (by kernel_rfl) (fun _ _ _ h => h) rfl (fun w5 hw5 => er_fJ2 _ rfl g (ii * 3) rfl) hS ?_
                  simp only [Act.put, List.setIfInBounds_toArray, List.set_cons_zero, List.set_cons_succ]
                  refine d_take 12 69 rfl rfl (by kernel_rfl) (by kernel_rfl) (by kernel_rfl) (fun _ _ _ h => h) rfl (fun w5 hw5 => er_mv _ rfl (.slice b l d) rfl) hS ?_
                  simp only [Act.put, List.setIfInBounds_toArray, List.set_cons_zero, List.set_cons_succ]
                  refine d_take 13 70 rfl rfl (by kernel_rfl) (by kernel_rfl) (by kernel_rfl) (fun _ _ _ h => h) rfl (fun w5 hw5 => er_mv _ rfl (.int .i64 (ii : Int)) rfl) hS ?_
                  simp only [Act.put, List.setIfInBounds_toArray, List.set_cons_zero, List.set_cons_succ]
                  refine d_take 15 72 rfl rfl (by kernel_rfl) (by kernel_rfl) (by kernel_rfl) (fun _ _ _ h => h) rfl (fun w5 hw5 => er_mv _ rfl (.slice (some ⟨g, 0, none⟩) n n) rfl) hS ?_
                  simp only [Act.put, List.setIfInBounds_toArray, List.set_cons_zero, List.set_cons_succ]
                  refine d_take 16 73 rfl rfl (by kernel_rfl) (by kernel_rfl) (by kernel_rfl) (fun _ _ _ h => h) rfl (fun w5 hw5 => er_mv _ rfl (.int .i64 (ii : Int)) rfl) hS ?_
                  simp only [Act.put, List.setIfInBounds_toArray, List.set_cons_zero, List.set_cons_succ]
                  refine d_take 17 74 rfl rfl (by kernel_rfl) (by kernel_rfl) (by kernel_rfl) (fun _ _ _ h => h) rfl (fun w5 hw5 => er_ixJ _ _ rfl g n n ii HQ.out.1 HQ.out.2 rfl rfl) hS ?_
                  simp only [Act.put, List.setIfInBounds_toArray, List.set_cons_zero, List.set_cons_succ]
                  refine d_take 18 75 rfl rfl (by kernel_rfl) (by kernel_rfl) (by kernel_rfl) (fun _ _ _ h => h) rfl (fun w5 hw5 => er_fJ2 _ rfl g (ii * 3) rfl) hS ?_
                  simp only [Act.put, List.setIfInBounds_toArray, List.set_cons_zero, List.set_cons_succ]
                  refine d_pair 11 68 19 76 (by kernel_rfl) rfl rfl rfl rfl rfl rfl (er_ld3 _ rfl g (ii * 3 + 2) (.int .i64 cc) rfl HJN.out.2) (er_ld3 _ rfl g (ii * 3 + 2) (.int .i64 cc) rfl HJN.out.2) hS hS ?_ ?_
                  · simp only [Act.put, List.setIfInBounds_toArray, List.set_cons_zero, List.set_cons_succ]
                    refine d_rcT (fun W => Jm W g n fp ∧ W.cell? ⟨g, ii * 3 + 2, none⟩ = some (.int .i64 cc)) 14 71 19 76 (by kernel_rfl) rfl rfl rfl rfl rfl rfl (er_cTk _ _ _ _ _ rfl (.agg #[.int .i64 z.en, .int .i64 z.pr, .int .i64 z.pe, .int .i64 z.li, .int .i64 z.ca, .bool z.auto]) (.int .i64 cc) (.slice b l d) (.int .i64 (ii : Int)) rfl rfl rfl rfl) (er_ld3 _ rfl g (ii * 3 + 2) (.int .i64 cc) rfl HJN.out.2) ((HTK.out _ hS).mono (fun e w6 he => ⟨he.1, hS.trans he.2 (fun _ (hx : No _) => hx.elim), HJN.out.1.kept (((Kept.refl No wr).drew).trans he.2 (fun _ (hx : No _) => hx.elim)) (fun (hx : No g) => hx), (((Kept.refl No wr).drew).trans he.2 (fun _ (hx : No _) => hx.elim)).cell HJN.out.2 (fun (hx : No g) => hx)⟩)) hS (fun w6 hS hT6 => ?_) ?_
                    · simp only [Act.put, List.setIfInBounds_toArray, List.set_cons_zero, List.set_cons_succ]
                      refine d_read 19 76 (by kernel_rfl) rfl rfl rfl (er_ld3 _ rfl g (ii * 3 + 2) (.int .i64 cc) rfl hT6.2) hS ?_
                      simp only [Act.put, List.setIfInBounds_toArray, List.set_cons_zero, List.set_cons_succ]
                      refine d_take 20 77 rfl rfl (by kernel_rfl) (by kernel_rfl) (by kernel_rfl) (fun _ _ _ h => h) rfl (fun w5 hw5 => er_add _ _ rfl cc 1 (cc + 1) rfl rfl HW1.out) hS ?_
                      simp only [Act.put, List.setIfInBounds_toArray, List.set_cons_zero, List.set_cons_succ]
                      refine d_take 21 78 rfl rfl (by kernel_rfl) (by kernel_rfl) (by kernel_rfl) (fun _ _ _ h => h) rfl (fun w5 hw5 => er_bJ _ _ _ rfl (tt : Int) tk (cc + 1) rfl rfl rfl) hS ?_
                      simp only [Act.put, List.setIfInBounds_toArray, List.set_cons_zero, List.set_cons_succ]
                      refine d_take 22 79 rfl rfl (by kernel_rfl) (by kernel_rfl) (by kernel_rfl) (fun _ _ _ h => h) rfl (fun w5 hw5 => er_ixJ _ _ rfl g n n ii HQ.out.1 HQ.out.2 rfl rfl) hS ?_
                      simp only [Act.put, List.setIfInBounds_toArray, List.set_cons_zero, List.set_cons_succ]
                      refine d_turn 23 (by kernel_rfl) rfl rfl rfl (er_stJ _ _ rfl g (ii * 3) (tt : Int) tk (cc + 1) _ _ _ rfl rfl (hT6.1.c0 HQ.out.1) (hT6.1.c1 HQ.out.1) (hT6.1.c2 HQ.out.1) hT6.1.fz) (HST.out w6 _ _ _ _ hS) ?_
                      refine wpAnyH_done (by kernel_rfl) ?_ _
                      generalize hWN : (((World.setCell w6 ⟨g, ii * 3, none⟩ (.int .i64 (tt : Int))).setCell ⟨g, ii * 3 + 1, none⟩ (.int .i64 tk)).setCell ⟨g, ii * 3 + 2, none⟩ (.int .i64 (cc + 1))) = WN
                      have HN : Hid (Jm WN g n (part (fun i => (xs.getD i dPrc).pe) (fun ct i => tkV zs (xs.getD i dPrc).ca ct i) tt (ii + 1) f) ∧ Kept No w WN) := by rw [← hWN]; exact ⟨HRL.out _ (hT6.1.put ii ⟨tt, tk, cc + 1⟩), HST.out w6 _ _ _ _ hS⟩
                      clear hWN hS hT6
                      go_wp2
                      go_roundw
                      case rel => exact ⟨ii + 1, by go_num, HIN.out, HN.out.1, HN.out.2⟩
                      case measure => have := HIN.out; simp [intOf]; omega
                    · simp only [Act.put, List.setIfInBounds_toArray, List.set_cons_zero, List.set_cons_succ]
                      refine d_take 20 77 rfl rfl (by kernel_rfl) (by kernel_rfl) (by kernel_rfl) (fun _ _ _ h => h) rfl (fun w5 hw5 => er_add _ _ rfl cc 1 (cc + 1) rfl rfl HW1.out) hS ?_
                      simp only [Act.put, List.setIfInBounds_toArray, List.set_cons_zero, List.set_cons_succ]
                      refine d_callT (fun W => Jm W g n fp ∧ W.cell? ⟨g, ii * 3 + 2, none⟩ = some (.int .i64 cc)) 14 71 (by kernel_rfl) rfl rfl rfl (er_cTk _ _ _ _ _ rfl (.agg #[.int .i64 z.en, .int .i64 z.pr, .int .i64 z.pe, .int .i64 z.li, .int .i64 z.ca, .bool z.auto]) (.int .i64 cc) (.slice b l d) (.int .i64 (ii : Int)) rfl rfl rfl rfl) ((HTK.out _ hS).mono (fun e w6 he => ⟨he.1, hS.trans he.2 (fun _ (hx : No _) => hx.elim), HJN.out.1.kept (((Kept.refl No wr).drew).trans he.2 (fun _ (hx : No _) => hx.elim)) (fun (hx : No g) => hx), (((Kept.refl No wr).drew).trans he.2 (fun _ (hx : No _) => hx.elim)).cell HJN.out.2 (fun (hx : No g) => hx)⟩)) (fun w6 hS hT6 => ?_)
                      simp only [Act.put, List.setIfInBounds_toArray, List.set_cons_zero, List.set_cons_succ]
                      refine d_take 21 78 rfl rfl (by kernel_rfl) (by kernel_rfl) (by kernel_rfl) (fun _ _ _ h => h) rfl (fun w5 hw5 => er_bJ _ _ _ rfl (tt : Int) tk (cc + 1) rfl rfl rfl) hS ?_
                      simp only [Act.put, List.setIfInBounds_toArray, List.set_cons_zero, List.set_cons_succ]
                      refine d_take 22 79 rfl rfl (by kernel_rfl) (by kernel_rfl) (by kernel_rfl) (fun _ _ _ h => h) rfl (fun w5 hw5 => er_ixJ _ _ rfl g n n ii HQ.out.1 HQ.out.2 rfl rfl) hS ?_
                      simp only [Act.put, List.setIfInBounds_toArray, List.set_cons_zero, List.set_cons_succ]
                      refine d_turn 23 (by kernel_rfl) rfl rfl rfl (er_stJ _ _ rfl g (ii * 3) (tt : Int) tk (cc + 1) _ _ _ rfl rfl (hT6.1.c0 HQ.out.1) (hT6.1.c1 HQ.out.1) (hT6.1.c2 HQ.out.1) hT6.1.fz) (HST.out w6 _ _ _ _ hS) ?_
                      refine wpAnyH_done (by kernel_rfl) ?_ _
                      generalize hWN : (((World.setCell w6 ⟨g, ii * 3, none⟩ (.int .i64 (tt : Int))).setCell ⟨g, ii * 3 + 1, none⟩ (.int .i64 tk)).setCell ⟨g, ii * 3 + 2, none⟩ (.int .i64 (cc + 1))) = WN
                      have HN : Hid (Jm WN g n (part (fun i => (xs.getD i dPrc).pe) (fun ct i => tkV zs (xs.getD i dPrc).ca ct i) tt (ii + 1) f) ∧ Kept No w WN) := by rw [← hWN]; exact ⟨HRL.out _ (hT6.1.put ii ⟨tt, tk, cc + 1⟩), HST.out w6 _ _ _ _ hS⟩
                      clear hWN hS hT6
                      go_wp2
                      go_roundw
                      case rel => exact ⟨ii + 1, by go_num, HIN.out, HN.out.1, HN.out.2⟩
                      case measure => have := HIN.out; simp [intOf]; omega
                  · simp only [Act.put, List.setIfInBounds_toArray, List.set_cons_zero, List.set_cons_succ]
                    refine d_take 20 77 rfl rfl (by kernel_rfl) (by kernel_rfl) (by kernel_rfl) (fun _ _ _ h => h) rfl (fun w5 hw5 => er_add _ _ rfl cc 1 (cc + 1) rfl rfl HW1.out) hS ?_
                    simp only [Act.put, List.setIfInBounds_toArray, List.set_cons_zero, List.set_cons_succ]
                    refine d_read 11 68 (by kernel_rfl) rfl rfl rfl (er_ld3 _ rfl g (ii * 3 + 2) (.int .i64 cc) rfl HJN.out.2) hS ?_
                    simp only [Act.put, List.setIfInBounds_toArray, List.set_cons_zero, List.set_cons_succ]
                    refine d_callT (fun W => Jm W g n fp ∧ W.cell? ⟨g, ii * 3 + 2, none⟩ = some (.int .i64 cc)) 14 71 (by kernel_rfl) rfl rfl rfl (er_cTk _ _ _ _ _ rfl (.agg #[.int .i64 z.en, .int .i64 z.pr, .int .i64 z.pe, .int .i64 z.li, .int .i64 z.ca, .bool z.auto]) (.int .i64 cc) (.slice b l d) (.int .i64 (ii : Int)) rfl rfl rfl rfl) ((HTK.out _ hS).mono (fun e w6 he => ⟨he.1, hS.trans he.2 (fun _ (hx : No _) => hx.elim), HJN.out.1.kept (((Kept.refl No wr).drew).trans he.2 (fun _ (hx : No _) => hx.elim)) (fun (hx : No g) => hx), (((Kept.refl No wr).drew).trans he.2 (fun _ (hx : No _) => hx.elim)).cell HJN.out.2 (fun (hx : No g) => hx)⟩)) (fun w6 hS hT6 => ?_)
                    simp only [Act.put, List.setIfInBounds_toArray, List.set_cons_zero, List.set_cons_succ]
                    refine d_take 21 78 rfl rfl (by kernel_rfl) (by kernel_rfl) (by kernel_rfl) (fun _ _ _ h => h) rfl (fun w5 hw5 => er_bJ _ _ _ rfl (tt : Int) tk (cc + 1) rfl rfl rfl) hS ?_
                    simp only [Act.put, List.setIfInBounds_toArray, List.set_cons_zero, List.set_cons_succ]
                    refine d_take 22 79 rfl rfl (by kernel_rfl) (by kernel_rfl) (by kernel_rfl) (fun _ _ _ h => h) rfl (fun w5 hw5 => er_ixJ _ _ rfl g n n ii HQ.out.1 HQ.out.2 rfl rfl) hS ?_
                    simp only [Act.put, List.setIfInBounds_toArray, List.set_cons_zero, List.set_cons_succ]
                    refine d_turn 23 (by kernel_rfl) rfl rfl rfl (er_stJ _ _ rfl g (ii * 3) (tt : Int) tk (cc + 1) _ _ _ rfl rfl (hT6.1.c0 HQ.out.1) (hT6.1.c1 HQ.out.1) (hT6.1.c2 HQ.out.1) hT6.1.fz) (HST.out w6 _ _ _ _ hS) ?_
                    refine wpAnyH_done (by kernel_rfl) ?_ _
                    generalize hWN : (((World.setCell w6 ⟨g, ii * 3, none⟩ (.int .i64 (tt : Int))).setCell ⟨g, ii * 3 + 1, none⟩ (.int .i64 tk)).setCell ⟨g, ii * 3 + 2, none⟩ (.int .i64 (cc + 1))) = WN
                    have HN : Hid (Jm WN g n (part (fun i => (xs.getD i dPrc).pe) (fun ct i => tkV zs (xs.getD i dPrc).ca ct i) tt (ii + 1) f) ∧ Kept No w WN) := by rw [← hWN]; exact ⟨HRL.out _ (hT6.1.put ii ⟨tt, tk, cc + 1⟩), HST.out w6 _ _ _ _ hS⟩
                    clear hWN hS hT6
                    go_wp2
                    go_roundw
                    case rel => exact ⟨ii + 1, by go_num, HIN.out, HN.out.1, HN.out.2⟩
                    case measure => have := HIN.out; simp [intOf]; omega
                · have hzb : (lf == 0) = false := by simpa using hz
                  have hvm : v ii = -1 := by
                    rcases rel_ok HS.out HSt.out.rel hin (by show (tt : Int) % (xs.getD ii dPrc).pe = 0; rw [← HPER.out]; exact HM.out) with h | h
                    · exact absurd (HLF.out.trans h) hz
                    · exact h
                  rw [hvm] at vc
                  have HNX : Hid (∀ a, part (fun i => (xs.getD i dPrc).pe) (fun ct i => tkV zs (xs.getD i dPrc).ca ct i) tt ii f a = part (fun i => (xs.getD i dPrc).pe) (fun ct i => tkV zs (xs.getD i dPrc).ca ct i) tt (ii + 1) f a) := fun a => part_stay _ _ _ _ _ (fun h => hz (HLF.out.trans h.2)) a
                  clear p0 p1 p2 p3 p4 p5 hz hvm
                  go_wp2
                  go_roundw
                  case rel => exact ⟨ii + 1, by go_num, HIN.out, HJr.out.congr (fun a _ => HNX.out a), HKr.out⟩
                  case measure => have := HIN.out; simp [intOf]; omega
              · have hmb : ((tt : Int) % per == 0) = false := by simpa using hm
                have HNX : Hid (∀ a, part (fun i => (xs.getD i dPrc).pe) (fun ct i => tkV zs (xs.getD i dPrc).ca ct i) tt ii f a = part (fun i => (xs.getD i dPrc).pe) (fun ct i => tkV zs (xs.getD i dPrc).ca ct i) tt (ii + 1) f a) := fun a => part_stay _ _ _ _ _ (fun h => hm (by rw [HPER.out]; exact h.1)) a
                clear p0 p1 p2 p3 p4 p5 vc j1 hm
                go_wp2
                go_roundw
                case rel => exact ⟨ii + 1, by go_num, HIN.out, HJr.out.congr (fun a _ => HNX.out a), HKr.out⟩
                case measure => have := HIN.out; simp [intOf]; omega
            · have hie : ii = n := by omega
              subst hie
              have hno : occB fo p tt = decide (x1.2 = p) := by
                unfold occB
                rw [HTT.out, HOC.out k HKL.out]
              have hr1 : ∀ j, j < s → part (fun i => (xs.getD i dPrc).pe) (fun ct i => tkV zs (xs.getD i dPrc).ca ct i) tt ii f (q j) = jb1 (occB fo p) T C j tt := rel_all HS.out HSt.out.rel (fun i hi => by unfold part; rw [if_pos hi])
              have hb1 : Bdj ii tt (tt + 1) (part (fun i => (xs.getD i dPrc).pe) (fun ct i => tkV zs (xs.getD i dPrc).ca ct i) tt ii f) := bd_rel HSt.out.bd (fun c i hi => by
                obtain ⟨_, _, a3, a4⟩ := HT.out i hi
                have := tkV_bd zs c i a3
                omega)
              have hpr := HP.out wr HKr.out
              obtain ⟨sc0, sc1⟩ := HSL2.out wr HKr.out
              generalize part (fun i => (xs.getD i dPrc).pe) (fun ct i => tkV zs (xs.getD i dPrc).ca ct i) tt ii f = f1 at *
              have HR1 := hid hr1
              have HB1 := hid hb1
              have cF := first_any g f1 wr hpr HJr.out (by omega)
              have HNX : Hid (∀ (W : World) (f2 : Nat → Jb), Jm W g ii f2 → Kept No w W → (∀ j, j < s → f2 (q j) = jb0 (occB fo p) T C j (tt + 1)) → Bdj ii ((tt + 1 : Nat) : Int) ((tt + 1 : Nat) : Int) f2 → (∀ j, j < s → ends (lvR (occB fo p) T C j) (C j) (T j) tt = true → ((tt % T j + 1 : Nat) : Int) ≤ v (q j)) → Rst (occB fo p) T C ii s q v g w W (t0 + (k + 1)) f2) := fun W f2 h1 h2 h3 h4 h5 => by
                have e : t0 + (k + 1) = tt + 1 := by have := HTT.out; omega
                rw [e]
                refine ⟨h1, h2, h3, h4, fun u hu => ?_⟩
                rcases Nat.lt_or_eq_of_le (Nat.lt_succ_iff.1 hu) with h6 | h6
                · exact HSt.out.nov u h6
                · subst h6; exact h5
              have HTE : Hid (((t0 + (k + 1) : Nat) : Int) = (tt : Int) + 1) := by have := HTT.out; show _ = _; omega
              clear hr1 hb1 hpr hii hin
              by_cases hp : x1.2 = p
              · have hpb : ((x1.2 : Int) == (p : Int)) = true := by simp [hp]
                have HO : Hid (occB fo p tt = true) := by show _ = _; rw [hno, decide_eq_true hp]
                clear hno sc0 hp
                go_upto_region 19 with (go_at_call 24; refine cF.mono ?_; clear cF; rintro e w5 ⟨r, rfl, k5, hB⟩; have K5 := hid (HKr.out.trans k5 (fun _ h => h.elim)); have HJ5 := hid (HJr.out.kept k5 (fun h => h)); have HBS := hid hB; clear k5 hB)
                clear sc1 hpb
                rcases HBS.out with ⟨er, hz⟩ | ⟨kk, er, hF⟩
                · have HZ5 := hid hz
                  subst er
                  clear hz
                  go_wp2
                  go_roundw
                  case rel =>
                    obtain ⟨w1', w2'⟩ := wk_none HS.out HR1.out (.inr HZ5.out)
                    exact ⟨k + 1, f1, by go_num, by rw [HTE.out], HKL.out, HNX.out _ f1 HJ5.out K5.out w1' (bd_same HB1.out) (fun j hj he => by rw [w2' j hj] at he; cases he)⟩
                  case measure => have := HKL.out; simp [intOf]; omega
                · have HF := hid hF
                  subst er
                  have hkn : kk < ii := hF.lt
                  have hkn2 : (kk : Int) < (ii : Int) := by omega
                  have hkl := hF.pos
                  obtain ⟨_, b2, _, b4, _, _⟩ := HB1.out kk hkn
                  obtain ⟨b1, _⟩ := HB1.out kk hkn
                  have y0 := HJ5.out.c0 hkn
                  have y1 := HJ5.out.c1 hkn
                  have y2 := HJ5.out.c2 hkn
                  have yf := HJ5.out.fz (kk * 3 + 1)
                  have vc := HWo.out w5 K5.out kk hkn
                  have hv2 := HV.out kk hkn
                  have HPL := hid (HJ5.out.putL hkn ((f1 kk).lf - 1))
                  have KPL : Hid (Kept No w (w5.setCell ⟨g, kk * 3 + 1, none⟩ (.int .i64 ((f1 kk).lf - 1)))) := K5.out.setCell (p := ⟨g, kk * 3 + 1, none⟩) (.inr HGE.out) _
                  have HKN := hid hkn
                  obtain ⟨lv, hlv⟩ := HS.out.sur kk hkn
                  have HLV : Hid (lv < ii ∧ q lv = kk) := hlv
                  have hone : Hid ((lv < s → (ends (lvR (occB fo p) T C lv) (C lv) (T lv) tt = true ↔ (f1 kk).lf = 1) ∧ (tt : Int) + 1 - (f1 kk).rl = ((tt % T lv + 1 : Nat) : Int)) ∧ (∀ j, j < s → (fun i => if i = kk then wkS (f1 i) else f1 i) (q j) = jb0 (occB fo p) T C j (tt + 1)) ∧ (∀ j, j < s → j ≠ lv → ends (lvR (occB fo p) T C j) (C j) (T j) tt = false)) := by
                    obtain ⟨a1, a2, a3⟩ := wk_one HS.out HR1.out HO.out hlv.1 (by rw [hlv.2]; exact HF.out)
                    rw [hlv.2] at a1 a3
                    exact ⟨a3, a1, a2⟩
                  have HBW := hid (bd_work HB1.out hkl)
                  have HPJ : Hid (Jm (w5.setCell ⟨g, kk * 3 + 1, none⟩ (.int .i64 ((f1 kk).lf - 1))) g ii (fun i => if i = kk then wkS (f1 i) else f1 i)) := HPL.out.congr (fun a _ => by
                    unfold updJ
                    by_cases e : a = kk
                    · subst e; rw [if_pos rfl, if_pos rfl]; rfl
                    · rw [if_neg e, if_neg e])
                  obtain ⟨lf, hlf⟩ : ∃ lf, lf = (f1 kk).lf := ⟨_, rfl⟩
                  obtain ⟨rl, hrl⟩ : ∃ rl, rl = (f1 kk).rl := ⟨_, rfl⟩
                  obtain ⟨vv, hvv⟩ : ∃ vv, vv = v kk := ⟨_, rfl⟩
                  rw [← hlf] at hkl b4 y1 HPJ KPL hone
                  rw [← hrl] at b2 y0 b1 hone
                  rw [← hvv] at vc hv2
                  have HVV := hid hvv
                  have hw1 : wrap64 (lf - 1) = lf - 1 := by unfold wrap64; omega
                  have hnv : Hid (vv ≠ -1 → lv < s) := fun h => by
                    apply Classical.byContradiction
                    intro hn
                    have := HS.out.nv lv (by omega) HLV.out.1
                    rw [HLV.out.2, ← HVV.out] at this
                    exact h this
                  clear HPL hlf hrl hvv hF hlv hkn
                  go_upto_region 21 with fail
                  have z0 : (w5.setCell ⟨g, kk * 3 + 1, none⟩ (.int .i64 (lf - 1))).cell? ⟨g, kk * 3, none⟩ = some (.int .i64 rl) := by
                    rw [cell_setG y0, if_neg (by omega)]
                  have z1 : (w5.setCell ⟨g, kk * 3 + 1, none⟩ (.int .i64 (lf - 1))).cell? ⟨g, kk * 3 + 1, none⟩ = some (.int .i64 (lf - 1)) := by
                    rw [cell_setG y1, if_pos rfl]
                  have zv := HWo.out _ KPL.out kk HKN.out
                  rw [← HVV.out] at zv
                  clear y0 y1 y2 yf vc
                  generalize w5.setCell ⟨g, kk * 3 + 1, none⟩ (.int .i64 (lf - 1)) = w6 at *
                  obtain ⟨D, hD⟩ : ∃ D, D = (tt : Int) + 1 - rl := ⟨_, rfl⟩
                  have HWD : Hid (wrap64 ((tt : Int) + 1 - rl) = D) := by show _ = _; rw [hD]; unfold wrap64; omega
                  have HWT : Hid (wrap64 ((tt : Int) + 1) = (tt : Int) + 1) := by show _ = _; unfold wrap64; omega
                  have HDD := hid hD
                  have HC6 : Hid (∀ W, Kept No w6 W → W.cell? ⟨g, kk * 3, none⟩ = some (.int .i64 rl) ∧ W.cell? ⟨g, kk * 3 + 1, none⟩ = some (.int .i64 (lf - 1)) ∧ W.cell? ⟨gl, kk, none⟩ = some (.int .i64 vv)) := fun W kW => ⟨kW.cell z0 (fun h => h), kW.cell z1 (fun h => h), kW.cell zv (fun h => h)⟩
                  have HQK : Hid (kk < ii ∧ ii ≤ 9223372036854775807 ∧ cw ≤ 9223372036854775807) := ⟨HKN.out, by omega, by omega⟩
                  obtain ⟨Z, hZ⟩ : ∃ Z : Bool, Z = ((lf == 1) && ((vv != -1) && decide (vv < D))) := ⟨_, rfl⟩
                  have HZZ := hid hZ
                  have HLF2 : Hid (1 ≤ lf) := by show 1 ≤ lf; omega
                  clear hD hZ z0 z1 zv hw1 hkl b4 b2 b1 hv2 hkn2
                  go_cut [144] (fun x wx => x = .bool Z ∧ Kept No w6 wx)
                  case first =>
                    as_aux_lemma =>
                    by_cases hl1 : lf = 1
                    · have gl1 : (lf - 1 == 0) = true := by simp; omega
                      by_cases hvm : vv = -1
                      · have gv : (vv != -1) = false := by simpa using hvm
                        have hZ2 : Z = false := by rw [HZZ.out, gv]; simp
                        subst hZ2
                        refine wp_region_kept w6 (by kernel_rfl) (by kernel_rfl) (Kept.refl No w6) ?_
                        refine BigFrame.wpQuiet_want rfl (fun KQ hKQ => ?_)
                        refine quiet_val' (fun w7 hw7 => er_mv _ rfl (.slice (some ⟨g, 0, none⟩) ii ii) rfl) ?_
                        refine hKQ _ ?_
                        clear hKQ KQ
                        simp only [Act.put, List.setIfInBounds_toArray, List.set_cons_zero, List.set_cons_succ]
                        refine BigFrame.wpQuiet_want rfl (fun KQ hKQ => ?_)
                        refine quiet_val' (fun w7 hw7 => er_mv _ rfl (.int .i64 (kk : Int)) rfl) ?_
                        refine hKQ _ ?_
                        clear hKQ KQ
                        simp only [Act.put, List.setIfInBounds_toArray, List.set_cons_zero, List.set_cons_succ]
                        refine BigFrame.wpQuiet_want rfl (fun KQ hKQ => ?_)
                        refine quiet_val' (fun w7 hw7 => er_ixJ _ _ rfl g ii ii kk HQK.out.1 HQK.out.2.1 rfl rfl) ?_
                        refine hKQ _ ?_
                        clear hKQ KQ
                        simp only [Act.put, List.setIfInBounds_toArray, List.set_cons_zero, List.set_cons_succ]
                        refine BigFrame.wpQuiet_want rfl (fun KQ hKQ => ?_)
                        refine quiet_val' (fun w7 hw7 => er_fJ1 _ rfl g (kk * 3) rfl) ?_
                        refine hKQ _ ?_
                        clear hKQ KQ
                        simp only [Act.put, List.setIfInBounds_toArray, List.set_cons_zero, List.set_cons_succ]
                        refine BigFrame.wpQuiet_want rfl (fun KQ hKQ => ?_)
                        refine quiet_val' (fun w7 hw7 => er_ld3 _ rfl g (kk * 3 + 1) (.int .i64 (lf - 1)) rfl (HC6.out w7 hw7).2.1) ?_
                        refine hKQ _ ?_
                        clear hKQ KQ
                        simp only [Act.put, List.setIfInBounds_toArray, List.set_cons_zero, List.set_cons_succ]
                        refine BigFrame.wpQuiet_want rfl (fun KQ hKQ => ?_)
                        refine quiet_val' (fun w7 hw7 => er_eqN _ _ rfl (lf - 1) 0 true rfl rfl gl1) ?_
                        refine hKQ _ ?_
                        clear hKQ KQ
                        simp only [Act.put, List.setIfInBounds_toArray, List.set_cons_zero, List.set_cons_succ]
                        refine BigFrame.wpQuiet_want rfl (fun KQ hKQ => ?_)
                        refine quiet_val' (fun w7 hw7 => er_mv _ rfl (.bool true) rfl) ?_
                        refine hKQ _ ?_
                        clear hKQ KQ
                        simp only [Act.put, List.setIfInBounds_toArray, List.set_cons_zero, List.set_cons_succ]
                        refine BigFrame.wpQuiet_want rfl (fun KQ hKQ => ?_)
                        refine quiet_val' (fun w7 hw7 => er_mv _ rfl (.slice (some ⟨gl, 0, none⟩) ii cw) rfl) ?_
                        refine hKQ _ ?_
                        clear hKQ KQ
                        simp only [Act.put, List.setIfInBounds_toArray, List.set_cons_zero, List.set_cons_succ]
                        refine BigFrame.wpQuiet_want rfl (fun KQ hKQ => ?_)
                        refine quiet_val' (fun w7 hw7 => er_mv _ rfl (.int .i64 (kk : Int)) rfl) ?_
                        refine hKQ _ ?_
                        clear hKQ KQ
                        simp only [Act.put, List.setIfInBounds_toArray, List.set_cons_zero, List.set_cons_succ]
                        refine BigFrame.wpQuiet_want rfl (fun KQ hKQ => ?_)
                        refine quiet_val' (fun w7 hw7 => er_ixIs _ _ rfl gl 0 ii cw kk HQK.out.1 HQK.out.2.1 rfl rfl) ?_
                        refine hKQ _ ?_
                        clear hKQ KQ
                        simp only [Act.put, List.setIfInBounds_toArray, List.set_cons_zero, List.set_cons_succ]
                        refine BigFrame.wpQuiet_want rfl (fun KQ hKQ => ?_)
                        refine quiet_val' (fun w7 hw7 => er_ld3 _ rfl gl (0 + kk) (.int .i64 vv) rfl (by rw [Nat.zero_add]; exact (HC6.out w7 hw7).2.2)) ?_
                        refine hKQ _ ?_
                        clear hKQ KQ
                        simp only [Act.put, List.setIfInBounds_toArray, List.set_cons_zero, List.set_cons_succ]
                        refine BigFrame.wpQuiet_want rfl (fun KQ hKQ => ?_)
                        refine quiet_val' (fun w7 hw7 => er_neN _ _ rfl vv (-1) false rfl rfl gv) ?_
                        refine hKQ _ ?_
                        clear hKQ KQ
                        simp only [Act.put, List.setIfInBounds_toArray, List.set_cons_zero, List.set_cons_succ]
                        refine BigFrame.wpQuiet_want rfl (fun KQ hKQ => ?_)
                        refine quiet_val' (fun w7 hw7 => er_pkT _ _ _ rfl (.bool false) rfl rfl) ?_
                        refine hKQ _ ?_
                        clear hKQ KQ
                        simp only [Act.put, List.setIfInBounds_toArray, List.set_cons_zero, List.set_cons_succ]
                        refine BigFrame.wpQuiet_want rfl (fun KQ hKQ => ?_)
                        refine quiet_val' (fun w7 hw7 => er_mv _ rfl (.bool false) rfl) ?_
                        refine hKQ _ ?_
                        clear hKQ KQ
                        simp only [Act.put, List.setIfInBounds_toArray, List.set_cons_zero, List.set_cons_succ]
                        refine BigFrame.wpQuiet_skip rfl ?_
                        simp only [Act.put, List.setIfInBounds_toArray, List.set_cons_zero, List.set_cons_succ]
                        refine BigFrame.wpQuiet_skip rfl ?_
                        simp only [Act.put, List.setIfInBounds_toArray, List.set_cons_zero, List.set_cons_succ]
                        refine BigFrame.wpQuiet_skip rfl ?_
                        simp only [Act.put, List.setIfInBounds_toArray, List.set_cons_zero, List.set_cons_succ]
                        refine BigFrame.wpQuiet_skip rfl ?_
                        simp only [Act.put, List.setIfInBounds_toArray, List.set_cons_zero, List.set_cons_succ]
                        refine BigFrame.wpQuiet_skip rfl ?_
                        simp only [Act.put, List.setIfInBounds_toArray, List.set_cons_zero, List.set_cons_succ]
                        refine BigFrame.wpQuiet_skip rfl ?_
                        simp only [Act.put, List.setIfInBounds_toArray, List.set_cons_zero, List.set_cons_succ]
                        refine BigFrame.wpQuiet_skip rfl ?_
                        simp only [Act.put, List.setIfInBounds_toArray, List.set_cons_zero, List.set_cons_succ]
                        refine BigFrame.wpQuiet_skip rfl ?_
                        simp only [Act.put, List.setIfInBounds_toArray, List.set_cons_zero, List.set_cons_succ]
                        refine BigFrame.wpQuiet_skip rfl ?_
                        simp only [Act.put, List.setIfInBounds_toArray, List.set_cons_zero, List.set_cons_succ]
                        refine BigFrame.wpQuiet_skip rfl ?_
                        simp only [Act.put, List.setIfInBounds_toArray, List.set_cons_zero, List.set_cons_succ]
                        refine BigFrame.wpQuiet_skip rfl ?_
                        simp only [Act.put, List.setIfInBounds_toArray, List.set_cons_zero, List.set_cons_succ]
                        refine BigFrame.wpQuiet_skip rfl ?_
                        simp only [Act.put, List.setIfInBounds_toArray, List.set_cons_zero, List.set_cons_succ]
                        refine BigFrame.wpQuiet_skip rfl ?_
                        simp only [Act.put, List.setIfInBounds_toArray, List.set_cons_zero, List.set_cons_succ]
                        refine BigFrame.wpQuiet_want rfl (fun KQ hKQ => ?_)
                        refine quiet_val' (fun w7 hw7 => er_pkF _ _ _ rfl (.bool false) rfl rfl) ?_
                        refine hKQ _ ?_
                        clear hKQ KQ
                        simp only [Act.put, List.setIfInBounds_toArray, List.set_cons_zero, List.set_cons_succ]
                        refine wpQuiet_nil ?_
                        intro wq hq
                        go_wp2
                        go_meet
                        exact ⟨rfl, hq⟩
                      · have gv : (vv != -1) = true := by simpa using hvm
                        have gd : decide (vv < D) = Z := by rw [HZZ.out, gv, hl1]; rfl
                        refine wp_region_kept w6 (by kernel_rfl) (by kernel_rfl) (Kept.refl No w6) ?_
                        refine BigFrame.wpQuiet_want rfl (fun KQ hKQ => ?_)
                        refine quiet_val' (fun w7 hw7 => er_mv _ rfl (.slice (some ⟨g, 0, none⟩) ii ii) rfl) ?_
                        refine hKQ _ ?_
                        clear hKQ KQ
                        simp only [Act.put, List.setIfInBounds_toArray, List.set_cons_zero, List.set_cons_succ]
                        refine BigFrame.wpQuiet_want rfl (fun KQ hKQ => ?_)
                        refine quiet_val' (fun w7 hw7 => er_mv _ rfl (.int .i64 (kk : Int)) rfl) ?_
                        refine hKQ _ ?_
                        clear hKQ KQ
                        simp only [Act.put, List.setIfInBounds_toArray, List.set_cons_zero, List.set_cons_succ]
                        refine BigFrame.wpQuiet_want rfl (fun KQ hKQ => ?_)
                        refine quiet_val' (fun w7 hw7 => er_ixJ _ _ rfl g ii ii kk HQK.out.1 HQK.out.2.1 rfl rfl) ?_
                        refine hKQ _ ?_
                        clear hKQ KQ
                        simp only [Act.put, List.setIfInBounds_toArray, List.set_cons_zero, List.set_cons_succ]
                        refine BigFrame.wpQuiet_want rfl (fun KQ hKQ => ?_)
                        refine quiet_val' (fun w7 hw7 => er_fJ1 _ rfl g (kk * 3) rfl) ?_
                        refine hKQ _ ?_
                        clear hKQ KQ
                        simp only [Act.put, List.setIfInBounds_toArray, List.set_cons_zero, List.set_cons_succ]
                        refine BigFrame.wpQuiet_want rfl (fun KQ hKQ => ?_)
                        refine quiet_val' (fun w7 hw7 => er_ld3 _ rfl g (kk * 3 + 1) (.int .i64 (lf - 1)) rfl (HC6.out w7 hw7).2.1) ?_
                        refine hKQ _ ?_
                        clear hKQ KQ
                        simp only [Act.put, List.setIfInBounds_toArray, List.set_cons_zero, List.set_cons_succ]
                        refine BigFrame.wpQuiet_want rfl (fun KQ hKQ => ?_)
                        refine quiet_val' (fun w7 hw7 => er_eqN _ _ rfl (lf - 1) 0 true rfl rfl gl1) ?_
                        refine hKQ _ ?_
                        clear hKQ KQ
                        simp only [Act.put, List.setIfInBounds_toArray, List.set_cons_zero, List.set_cons_succ]
                        refine BigFrame.wpQuiet_want rfl (fun KQ hKQ => ?_)
                        refine quiet_val' (fun w7 hw7 => er_mv _ rfl (.bool true) rfl) ?_
                        refine hKQ _ ?_
                        clear hKQ KQ
                        simp only [Act.put, List.setIfInBounds_toArray, List.set_cons_zero, List.set_cons_succ]
                        refine BigFrame.wpQuiet_want rfl (fun KQ hKQ => ?_)
                        refine quiet_val' (fun w7 hw7 => er_mv _ rfl (.slice (some ⟨gl, 0, none⟩) ii cw) rfl) ?_
                        refine hKQ _ ?_
                        clear hKQ KQ
                        simp only [Act.put, List.setIfInBounds_toArray, List.set_cons_zero, List.set_cons_succ]
                        refine BigFrame.wpQuiet_want rfl (fun KQ hKQ => ?_)
                        refine quiet_val' (fun w7 hw7 => er_mv _ rfl (.int .i64 (kk : Int)) rfl) ?_
                        refine hKQ _ ?_
                        clear hKQ KQ
                        simp only [Act.put, List.setIfInBounds_toArray, List.set_cons_zero, List.set_cons_succ]
                        refine BigFrame.wpQuiet_want rfl (fun KQ hKQ => ?_)
                        refine quiet_val' (fun w7 hw7 => er_ixIs _ _ rfl gl 0 ii cw kk HQK.out.1 HQK.out.2.1 rfl rfl) ?_
                        refine hKQ _ ?_
                        clear hKQ KQ
                        simp only [Act.put, List.setIfInBounds_toArray, List.set_cons_zero, List.set_cons_succ]
                        refine BigFrame.wpQuiet_want rfl (fun KQ hKQ => ?_)
                        refine quiet_val' (fun w7 hw7 => er_ld3 _ rfl gl (0 + kk) (.int .i64 vv) rfl (by rw [Nat.zero_add]; exact (HC6.out w7 hw7).2.2)) ?_
                        refine hKQ _ ?_
                        clear hKQ KQ
                        simp only [Act.put, List.setIfInBounds_toArray, List.set_cons_zero, List.set_cons_succ]
                        refine BigFrame.wpQuiet_want rfl (fun KQ hKQ => ?_)
                        refine quiet_val' (fun w7 hw7 => er_neN _ _ rfl vv (-1) true rfl rfl gv) ?_
                        refine hKQ _ ?_
                        clear hKQ KQ
                        simp only [Act.put, List.setIfInBounds_toArray, List.set_cons_zero, List.set_cons_succ]
                        refine BigFrame.wpQuiet_want rfl (fun KQ hKQ => ?_)
                        refine quiet_val' (fun w7 hw7 => er_pkT _ _ _ rfl (.bool true) rfl rfl) ?_
                        refine hKQ _ ?_
                        clear hKQ KQ
                        simp only [Act.put, List.setIfInBounds_toArray, List.set_cons_zero, List.set_cons_succ]
                        refine BigFrame.wpQuiet_want rfl (fun KQ hKQ => ?_)
                        refine quiet_val' (fun w7 hw7 => er_mv _ rfl (.bool true) rfl) ?_
                        refine hKQ _ ?_
                        clear hKQ KQ
                        simp only [Act.put, List.setIfInBounds_toArray, List.set_cons_zero, List.set_cons_succ]
                        refine BigFrame.wpQuiet_want rfl (fun KQ hKQ => ?_)
                        refine quiet_val' (fun w7 hw7 => er_mv _ rfl (.int .i64 (tt : Int)) rfl) ?_
                        refine hKQ _ ?_
                        clear hKQ KQ
                        simp only [Act.put, List.setIfInBounds_toArray, List.set_cons_zero, List.set_cons_succ]
                        refine BigFrame.wpQuiet_want rfl (fun KQ hKQ => ?_)
                        refine quiet_val' (fun w7 hw7 => er_add _ _ rfl (tt : Int) 1 ((tt : Int) + 1) rfl rfl HWT.out) ?_
                        refine hKQ _ ?_
                        clear hKQ KQ
                        simp only [Act.put, List.setIfInBounds_toArray, List.set_cons_zero, List.set_cons_succ]
                        refine BigFrame.wpQuiet_want rfl (fun KQ hKQ => ?_)
                        refine quiet_val' (fun w7 hw7 => er_mv _ rfl (.slice (some ⟨g, 0, none⟩) ii ii) rfl) ?_
                        refine hKQ _ ?_
                        clear hKQ KQ
                        simp only [Act.put, List.setIfInBounds_toArray, List.set_cons_zero, List.set_cons_succ]
                        refine BigFrame.wpQuiet_want rfl (fun KQ hKQ => ?_)
                        refine quiet_val' (fun w7 hw7 => er_mv _ rfl (.int .i64 (kk : Int)) rfl) ?_
                        refine hKQ _ ?_
                        clear hKQ KQ
                        simp only [Act.put, List.setIfInBounds_toArray, List.set_cons_zero, List.set_cons_succ]
                        refine BigFrame.wpQuiet_want rfl (fun KQ hKQ => ?_)
                        refine quiet_val' (fun w7 hw7 => er_ixJ _ _ rfl g ii ii kk HQK.out.1 HQK.out.2.1 rfl rfl) ?_
                        refine hKQ _ ?_
                        clear hKQ KQ
                        simp only [Act.put, List.setIfInBounds_toArray, List.set_cons_zero, List.set_cons_succ]
                        refine BigFrame.wpQuiet_want rfl (fun KQ hKQ => ?_)
                        refine quiet_val' (fun w7 hw7 => er_fJ0 _ rfl g (kk * 3) rfl) ?_
                        refine hKQ _ ?_
                        clear hKQ KQ
                        simp only [Act.put, List.setIfInBounds_toArray, List.set_cons_zero, List.set_cons_succ]
                        refine BigFrame.wpQuiet_want rfl (fun KQ hKQ => ?_)
                        refine quiet_val' (fun w7 hw7 => er_ld3 _ rfl g (kk * 3) (.int .i64 rl) rfl (HC6.out w7 hw7).1) ?_
                        refine hKQ _ ?_
                        clear hKQ KQ
                        simp only [Act.put, List.setIfInBounds_toArray, List.set_cons_zero, List.set_cons_succ]
                        refine BigFrame.wpQuiet_want rfl (fun KQ hKQ => ?_)
                        refine quiet_val' (fun w7 hw7 => er_sub _ _ rfl ((tt : Int) + 1) rl D rfl rfl HWD.out) ?_
                        refine hKQ _ ?_
                        clear hKQ KQ
                        simp only [Act.put, List.setIfInBounds_toArray, List.set_cons_zero, List.set_cons_succ]
                        refine BigFrame.wpQuiet_want rfl (fun KQ hKQ => ?_)
                        refine quiet_val' (fun w7 hw7 => er_mv _ rfl (.slice (some ⟨gl, 0, none⟩) ii cw) rfl) ?_
                        refine hKQ _ ?_
                        clear hKQ KQ
                        simp only [Act.put, List.setIfInBounds_toArray, List.set_cons_zero, List.set_cons_succ]
                        refine BigFrame.wpQuiet_want rfl (fun KQ hKQ => ?_)
                        refine quiet_val' (fun w7 hw7 => er_mv _ rfl (.int .i64 (kk : Int)) rfl) ?_
                        refine hKQ _ ?_
                        clear hKQ KQ
                        simp only [Act.put, List.setIfInBounds_toArray, List.set_cons_zero, List.set_cons_succ]
                        refine BigFrame.wpQuiet_want rfl (fun KQ hKQ => ?_)
                        refine quiet_val' (fun w7 hw7 => er_ixIs _ _ rfl gl 0 ii cw kk HQK.out.1 HQK.out.2.1 rfl rfl) ?_
                        refine hKQ _ ?_
                        clear hKQ KQ
                        simp only [Act.put, List.setIfInBounds_toArray, List.set_cons_zero, List.set_cons_succ]
                        refine BigFrame.wpQuiet_want rfl (fun KQ hKQ => ?_)
                        refine quiet_val' (fun w7 hw7 => er_ld3 _ rfl gl (0 + kk) (.int .i64 vv) rfl (by rw [Nat.zero_add]; exact (HC6.out w7 hw7).2.2)) ?_
                        refine hKQ _ ?_
                        clear hKQ KQ
                        simp only [Act.put, List.setIfInBounds_toArray, List.set_cons_zero, List.set_cons_succ]
                        refine BigFrame.wpQuiet_want rfl (fun KQ hKQ => ?_)
                        refine quiet_val' (fun w7 hw7 => er_gtN _ _ rfl D vv Z rfl rfl gd) ?_
                        refine hKQ _ ?_
                        clear hKQ KQ
                        simp only [Act.put, List.setIfInBounds_toArray, List.set_cons_zero, List.set_cons_succ]
                        refine BigFrame.wpQuiet_want rfl (fun KQ hKQ => ?_)
                        refine quiet_val' (fun w7 hw7 => er_pkT _ _ _ rfl (.bool Z) rfl rfl) ?_
                        refine hKQ _ ?_
                        clear hKQ KQ
                        simp only [Act.put, List.setIfInBounds_toArray, List.set_cons_zero, List.set_cons_succ]
                        refine wpQuiet_nil ?_
                        intro wq hq
                        go_wp2
                        go_meet
                        exact ⟨rfl, hq⟩
                    · have gl1 : (lf - 1 == 0) = false := by simp; omega
                      have hZ2 : Z = false := by rw [HZZ.out, show (lf == 1) = false by simpa using hl1]; rfl
                      subst hZ2
                      refine wp_region_kept w6 (by kernel_rfl) (by kernel_rfl) (Kept.refl No w6) ?_
                      refine BigFrame.wpQuiet_want rfl (fun KQ hKQ => ?_)
                      refine quiet_val' (fun w7 hw7 => er_mv _ rfl (.slice (some ⟨g, 0, none⟩) ii ii) rfl) ?_
                      refine hKQ _ ?_
                      clear hKQ KQ
                      simp only [Act.put, List.setIfInBounds_toArray, List.set_cons_zero, List.set_cons_succ]
                      refine BigFrame.wpQuiet_want rfl (fun KQ hKQ => ?_)
                      refine quiet_val' (fun w7 hw7 => er_mv _ rfl (.int .i64 (kk : Int)) rfl) ?_
                      refine hKQ _ ?_
                      clear hKQ KQ
                      simp only [Act.put, List.setIfInBounds_toArray, List.set_cons_zero, List.set_cons_succ]
                      refine BigFrame.wpQuiet_want rfl (fun KQ hKQ => ?_)
                      refine quiet_val' (fun w7 hw7 => er_ixJ _ _ rfl g ii ii kk HQK.out.1 HQK.out.2.1 rfl rfl) ?_
                      refine hKQ _ ?_
                      clear hKQ KQ
                      simp only [Act.put, List.setIfInBounds_toArray, List.set_cons_zero, List.set_cons_succ]
                      refine BigFrame.wpQuiet_want rfl (fun KQ hKQ => ?_)
                      refine quiet_val' (fun w7 hw7 => er_fJ1 _ rfl g (kk * 3) rfl) ?_
                      refine hKQ _ ?_
                      clear hKQ KQ
                      simp only [Act.put, List.setIfInBounds_toArray, List.set_cons_zero, List.set_cons_succ]
                      refine BigFrame.wpQuiet_want rfl (fun KQ hKQ => ?_)
                      refine quiet_val' (fun w7 hw7 => er_ld3 _ rfl g (kk * 3 + 1) (.int .i64 (lf - 1)) rfl (HC6.out w7 hw7).2.1) ?_
                      refine hKQ _ ?_
                      clear hKQ KQ
                      simp only [Act.put, List.setIfInBounds_toArray, List.set_cons_zero, List.set_cons_succ]
                      refine BigFrame.wpQuiet_want rfl (fun KQ hKQ => ?_)
                      refine quiet_val' (fun w7 hw7 => er_eqN _ _ rfl (lf - 1) 0 false rfl rfl gl1) ?_
                      refine hKQ _ ?_
                      clear hKQ KQ
                      simp only [Act.put, List.setIfInBounds_toArray, List.set_cons_zero, List.set_cons_succ]
                      refine BigFrame.wpQuiet_want rfl (fun KQ hKQ => ?_)
                      refine quiet_val' (fun w7 hw7 => er_mv _ rfl (.bool false) rfl) ?_
                      refine hKQ _ ?_
                      clear hKQ KQ
                      simp only [Act.put, List.setIfInBounds_toArray, List.set_cons_zero, List.set_cons_succ]
                      refine BigFrame.wpQuiet_skip rfl ?_
                      simp only [Act.put, List.setIfInBounds_toArray, List.set_cons_zero, List.set_cons_succ]
                      refine BigFrame.wpQuiet_skip rfl ?_
                      simp only [Act.put, List.setIfInBounds_toArray, List.set_cons_zero, List.set_cons_succ]
                      refine BigFrame.wpQuiet_skip rfl ?_
                      simp only [Act.put, List.setIfInBounds_toArray, List.set_cons_zero, List.set_cons_succ]
                      refine BigFrame.wpQuiet_skip rfl ?_
                      simp only [Act.put, List.setIfInBounds_toArray, List.set_cons_zero, List.set_cons_succ]
                      refine BigFrame.wpQuiet_skip rfl ?_
                      simp only [Act.put, List.setIfInBounds_toArray, List.set_cons_zero, List.set_cons_succ]
                      refine BigFrame.wpQuiet_want rfl (fun KQ hKQ => ?_)
                      refine quiet_val' (fun w7 hw7 => er_pkF _ _ _ rfl (.bool false) rfl rfl) ?_
                      refine hKQ _ ?_
                      clear hKQ KQ
                      simp only [Act.put, List.setIfInBounds_toArray, List.set_cons_zero, List.set_cons_succ]
                      refine BigFrame.wpQuiet_want rfl (fun KQ hKQ => ?_)
                      refine quiet_val' (fun w7 hw7 => er_mv _ rfl (.bool false) rfl) ?_
                      refine hKQ _ ?_
                      clear hKQ KQ
                      simp only [Act.put, List.setIfInBounds_toArray, List.set_cons_zero, List.set_cons_succ]
                      refine BigFrame.wpQuiet_skip rfl ?_
                      simp only [Act.put, List.setIfInBounds_toArray, List.set_cons_zero, List.set_cons_succ]
                      refine BigFrame.wpQuiet_skip rfl ?_
                      simp only [Act.put, List.setIfInBounds_toArray, List.set_cons_zero, List.set_cons_succ]
                      refine BigFrame.wpQuiet_skip rfl ?_
                      simp only [Act.put, List.setIfInBounds_toArray, List.set_cons_zero, List.set_cons_succ]
                      refine BigFrame.wpQuiet_skip rfl ?_
                      simp only [Act.put, List.setIfInBounds_toArray, List.set_cons_zero, List.set_cons_succ]
                      refine BigFrame.wpQuiet_skip rfl ?_
                      simp only [Act.put, List.setIfInBounds_toArray, List.set_cons_zero, List.set_cons_succ]
                      refine BigFrame.wpQuiet_skip rfl ?_
                      simp only [Act.put, List.setIfInBounds_toArray, List.set_cons_zero, List.set_cons_succ]
                      refine BigFrame.wpQuiet_skip rfl ?_
                      simp only [Act.put, List.setIfInBounds_toArray, List.set_cons_zero, List.set_cons_succ]
                      refine BigFrame.wpQuiet_skip rfl ?_
                      simp only [Act.put, List.setIfInBounds_toArray, List.set_cons_zero, List.set_cons_succ]
                      refine BigFrame.wpQuiet_skip rfl ?_
                      simp only [Act.put, List.setIfInBounds_toArray, List.set_cons_zero, List.set_cons_succ]
                      refine BigFrame.wpQuiet_skip rfl ?_
                      simp only [Act.put, List.setIfInBounds_toArray, List.set_cons_zero, List.set_cons_succ]
                      refine BigFrame.wpQuiet_skip rfl ?_
                      simp only [Act.put, List.setIfInBounds_toArray, List.set_cons_zero, List.set_cons_succ]
                      refine BigFrame.wpQuiet_skip rfl ?_
                      simp only [Act.put, List.setIfInBounds_toArray, List.set_cons_zero, List.set_cons_succ]
                      refine BigFrame.wpQuiet_skip rfl ?_
                      simp only [Act.put, List.setIfInBounds_toArray, List.set_cons_zero, List.set_cons_succ]
                      refine BigFrame.wpQuiet_want rfl (fun KQ hKQ => ?_)
                      refine quiet_val' (fun w7 hw7 => er_pkF _ _ _ rfl (.bool false) rfl rfl) ?_
                      refine hKQ _ ?_
                      clear hKQ KQ
                      simp only [Act.put, List.setIfInBounds_toArray, List.set_cons_zero, List.set_cons_succ]
                      refine wpQuiet_nil ?_
                      intro wq hq
                      go_wp2
                      go_meet
                      exact ⟨rfl, hq⟩
                  case rest =>
                  rename World => w7
                  obtain ⟨rfl, hk7⟩ := hcut
                  have HK7 := hid (KPL.out.trans hk7 (fun _ h => h.elim))
                  have HPJ7 := hid (HPJ.out.kept hk7 (fun h => h))
                  clear hk7
                  cases Z
                  · go_wp2
                    go_roundw
                    case rel => exact ⟨k + 1, _, by go_num, by rw [HTE.out], HKL.out, HNX.out _ _ HPJ7.out HK7.out hone.out.2.1 HBW.out (fun j hj he => by
                      by_cases e : j = lv
                      · subst e
                        have hl1 := (hone.out.1 hj).1.1 he
                        have hvp := HS.out.vp j hj
                        rw [HLV.out.2, ← HVV.out] at hvp ⊢
                        rw [← (hone.out.1 hj).2, ← HDD.out]
                        have hz := HZZ.out
                        rw [hl1, show (vv != -1) = true by simp; omega] at hz
                        have hz2 : decide (vv < D) = false := by simpa using hz.symm
                        have := of_decide_eq_false hz2
                        omega
                      · rw [hone.out.2.2 j hj e] at he; cases he)⟩
                    case measure => have := HKL.out; simp [intOf]; omega
                  · have hz := HZZ.out
                    simp only [Bool.true_eq, Bool.and_eq_true, decide_eq_true_eq, beq_iff_eq, bne_iff_ne, ne_eq] at hz
                    obtain ⟨e1, e2, e3⟩ := hz
                    have HE := hid (And.intro e1 (And.intro e2 e3))
                    clear e1 e2 e3
                    go_wp2
                    go_ret
                    exact ⟨false, rfl, HK7.out, (fun h => by cases h), fun _ => ⟨tt, htN, lv, hnv.out HE.out.2.1, ((hone.out.1 (hnv.out HE.out.2.1)).1).2 HE.out.1, by
                      rw [HLV.out.2, ← HVV.out, ← (hone.out.1 (hnv.out HE.out.2.1)).2, ← HDD.out]; exact HE.out.2.2⟩⟩
              · have hpb : ((x1.2 : Int) == (p : Int)) = false := by simp; omega
                have HO : Hid (occB fo p tt = false) := by show _ = _; rw [hno, decide_eq_false hp]
                clear hno sc0 hp cF
                go_wp2
                go_roundw
                case rel =>
                  obtain ⟨w1', w2'⟩ := wk_none HS.out HR1.out (.inl HO.out)
                  exact ⟨k + 1, f1, by go_num, by rw [HTE.out], HKL.out, HNX.out _ f1 HJr.out HKr.out w1' (bd_same HB1.out) (fun j hj he => by rw [w2' j hj] at he; cases he)⟩
                case measure => have := HKL.out; simp [intOf]; omega
        · have hke : k = x1.1 := by omega
          subst hke
          clear hk hkl
          go_wp2
          go_roundw
          case rel => exact ⟨i + 1, f, by go_num, by rw [HPS.out], HIT.out, by rw [HPS.out]; exact HSt.out⟩
          case measure => have := HIT.out; simp [intOf]; omega
    · have hie : i = tn := by omega
      subst hie
      clear hi hit
      go_wp2
      go_ret
      exact ⟨true, rfl, HST0.out.kp, fun _ u hu => HST0.out.nov u (by rw [← hlR, pre_end HTi.out]; exact hu), (fun h => by cases h)⟩
end Go.Proofs.YtnmhcnppdhdhfaaGreatDoor
