/-
  Regions driven by hand.
-/
import Derived.Test.YtfjaajjljmbmbaaGreatDoorHeap
import Derived.Test.YtfjaajjljmbmbaaGreatDoorProg
import Derived.Deep.RegionHeld
import Derived.Deep.DeepCutAuto
namespace Go.Proofs.YtfjaajjljmbmbaaGreatDoor
open Go.RowKit
set_option linter.unusedVariables false
set_option maxRecDepth 100000

section
variable {P : Program} {md : Region.Mode} {ops : Array Oper} {Q : Exit → Act → World → Prop} {S : World → Prop} {fuel : Nat} {listed : Array Bool} {a : Act} {w : World}
theorem h_take (i : Nat) {oi : Oper} {v : Value} (hi : ops[i]? = some oi) (hs : Region.noSelect ops = true) (hf : Region.free md ops listed i = true) (hr : (Region.ready md ops listed).contains i = true)
    (hQ : ∀ c a w, Q (.panic c) (a.put oi.dst v) w → Q (.panic c) a w) (hw : Region.wanted oi (yielded ops a.tmps) = true) (hv : ∀ w, S w → (execOp a.eval oi).run P w = .ok (.value v) w) (hS : S w)
    (h : wpAnyH P md ops Q S fuel (listed.setIfInBounds i true) (a.put oi.dst v) w) : wpAnyH P md ops Q S (fuel + 1) listed a w :=
  wpAnyH_take hi hs hf hr hQ (.inl ⟨hw, hv⟩) hS h
theorem h_skip (i : Nat) {oi : Oper} (hi : ops[i]? = some oi) (hs : Region.noSelect ops = true) (hf : Region.free md ops listed i = true) (hr : (Region.ready md ops listed).contains i = true)
    (hQ : ∀ c a w, Q (.panic c) (a.put oi.dst undef) w → Q (.panic c) a w) (hw : Region.wanted oi (yielded ops a.tmps) = false) (hS : S w)
    (h : wpAnyH P md ops Q S fuel (listed.setIfInBounds i true) (a.put oi.dst undef) w) : wpAnyH P md ops Q S (fuel + 1) listed a w :=
  wpAnyH_take hi hs hf hr hQ (.inr ⟨hw, rfl⟩) hS h
/-- one operation is left that may come up: a call -/
theorem h_call (i : Nat) {oi : Oper} {f : FuncId} {args : Array Value} {v : Value} (hr : Region.ready md ops listed = [i]) (hi : ops[i]? = some oi) (hw : Region.wanted oi (yielded ops a.tmps) = true) (hrun : (execOp a.eval oi).run P w = .ok (.enter f args) w)
    (hc : Calls P f args w fun e w'' => e = .returned v ∧ S w'') (h : ∀ w'', S w'' → wpAnyH P md ops Q S fuel (listed.setIfInBounds i true) (a.put oi.dst v) w'') : wpAnyH P md ops Q S (fuel + 1) listed a w := by
  refine wpAnyH_ready hr (by simp) (AllReadyH.cons hi (fun K hK => ?_) AllReadyH.nil)
  rw [if_pos hw]
  unfold Oper.wp
  rw [hrun]
  refine hc.mono ?_
  rintro e w'' ⟨rfl, hS⟩
  exact hK.out _ _ hS (fun _ => h w'' hS)
/-- one operation is left that may come up: it turns the world -/
theorem h_turn (i : Nat) {oi : Oper} {w' : World} (hr : Region.ready md ops listed = [i]) (hi : ops[i]? = some oi) (hw : Region.wanted oi (yielded ops a.tmps) = true) (hrun : (execOp a.eval oi).run P w = .ok .skip w')
    (hS : S w') (h : wpAnyH P md ops Q S fuel (listed.setIfInBounds i true) (a.put oi.dst undef) w') : wpAnyH P md ops Q S (fuel + 1) listed a w := by
  refine wpAnyH_ready hr (by simp) (AllReadyH.cons hi (fun K hK => ?_) AllReadyH.nil)
  rw [if_pos hw]
  unfold Oper.wp
  rw [hrun]
  exact hK.out _ _ hS (fun _ => h)
end

section
variable {P : Program} {md : Region.Mode} {ops : Array Oper} {Q : Exit → Act → World → Prop} {S : World → Prop} {fuel : Nat} {listed : Array Bool} {a : Act} {w : World}
/-- the same, where the answer goes to a slot that is written out -/
theorem d_take (i k : Nat) {oi : Oper} {v : Value} (hi : ops[i]? = some oi) (hd : oi.dst = some k) (hs : Region.noSelect ops = true) (hf : Region.free md ops listed i = true) (hr : (Region.ready md ops listed).contains i = true)
    (hQ : ∀ c a w, Q (.panic c) (a.put (some k) v) w → Q (.panic c) a w) (hw : Region.wanted oi (yielded ops a.tmps) = true) (hv : ∀ w, S w → (execOp a.eval oi).run P w = .ok (.value v) w) (hS : S w)
    (h : wpAnyH P md ops Q S fuel (listed.setIfInBounds i true) (a.put (some k) v) w) : wpAnyH P md ops Q S (fuel + 1) listed a w :=
  h_take i hi hs hf hr (by rw [hd]; exact hQ) hw hv hS (by rw [hd]; exact h)
theorem d_call (i k : Nat) {oi : Oper} {f : FuncId} {args : Array Value} {v : Value} (hr : Region.ready md ops listed = [i]) (hi : ops[i]? = some oi) (hd : oi.dst = some k) (hw : Region.wanted oi (yielded ops a.tmps) = true) (hrun : (execOp a.eval oi).run P w = .ok (.enter f args) w)
    (hc : Calls P f args w fun e w'' => e = .returned v ∧ S w'') (h : ∀ w'', S w'' → wpAnyH P md ops Q S fuel (listed.setIfInBounds i true) (a.put (some k) v) w'') : wpAnyH P md ops Q S (fuel + 1) listed a w :=
  h_call i hr hi hw hrun hc (by rw [hd]; exact h)
theorem d_turn (i : Nat) {oi : Oper} {w' : World} (hr : Region.ready md ops listed = [i]) (hi : ops[i]? = some oi) (hd : oi.dst = none) (hw : Region.wanted oi (yielded ops a.tmps) = true) (hrun : (execOp a.eval oi).run P w = .ok .skip w')
    (hS : S w') (h : wpAnyH P md ops Q S fuel (listed.setIfInBounds i true) a w') : wpAnyH P md ops Q S (fuel + 1) listed a w :=
  h_turn i hr hi hw hrun hS (by rw [hd]; exact h)
end

section
variable {P : Program} {md : Region.Mode} {ops : Array Oper} {Q : Exit → Act → World → Prop} {S : World → Prop} {fuel : Nat} {listed : Array Bool} {a : Act} {w : World}
theorem d_callT (T : World → Prop) (i k : Nat) {oi : Oper} {f : FuncId} {args : Array Value} {v : Value} (hr : Region.ready md ops listed = [i]) (hi : ops[i]? = some oi) (hd : oi.dst = some k) (hw : Region.wanted oi (yielded ops a.tmps) = true) (hrun : (execOp a.eval oi).run P w = .ok (.enter f args) w)
    (hc : Calls P f args w fun e w'' => e = .returned v ∧ S w'' ∧ T w'') (h : ∀ w'', S w'' → T w'' → wpAnyH P md ops Q S fuel (listed.setIfInBounds i true) (a.put (some k) v) w'') : wpAnyH P md ops Q S (fuel + 1) listed a w := by
  refine wpAnyH_ready hr (by simp) (AllReadyH.cons hi (fun K hK => ?_) AllReadyH.nil)
  rw [if_pos hw]
  unfold Oper.wp
  rw [hrun]
  refine hc.mono ?_
  rintro e w'' ⟨rfl, hS, hT⟩
  exact hK.out _ _ hS (fun _ => by rw [hd]; exact h w'' hS hT)
/-- a call whose answer is new -/
theorem d_callN (T : Value → World → Prop) (i k : Nat) {oi : Oper} {f : FuncId} {args : Array Value} (hr : Region.ready md ops listed = [i]) (hi : ops[i]? = some oi) (hd : oi.dst = some k) (hw : Region.wanted oi (yielded ops a.tmps) = true) (hrun : (execOp a.eval oi).run P w = .ok (.enter f args) w)
    (hc : Calls P f args w fun e w'' => ∃ v, e = .returned v ∧ S w'' ∧ T v w'') (h : ∀ v w'', S w'' → T v w'' → wpAnyH P md ops Q S fuel (listed.setIfInBounds i true) (a.put (some k) v) w'') : wpAnyH P md ops Q S (fuel + 1) listed a w := by
  refine wpAnyH_ready hr (by simp) (AllReadyH.cons hi (fun K hK => ?_) AllReadyH.nil)
  rw [if_pos hw]
  unfold Oper.wp
  rw [hrun]
  refine hc.mono ?_
  rintro e w'' ⟨v, rfl, hS, hT⟩
  exact hK.out _ _ hS (fun _ => by rw [hd]; exact h v w'' hS hT)
theorem d_make (i k : Nat) {oi : Oper} {v : Value} {w' : World} (hr : Region.ready md ops listed = [i]) (hi : ops[i]? = some oi) (hd : oi.dst = some k) (hw : Region.wanted oi (yielded ops a.tmps) = true) (hrun : (execOp a.eval oi).run P w = .ok (.value v) w')
    (hS : S w') (h : wpAnyH P md ops Q S fuel (listed.setIfInBounds i true) (a.put (some k) v) w') : wpAnyH P md ops Q S (fuel + 1) listed a w := by
  refine wpAnyH_ready hr (by simp) (AllReadyH.cons hi (fun K hK => ?_) AllReadyH.nil)
  rw [if_pos hw]
  unfold Oper.wp
  rw [hrun]
  exact hK.out _ _ hS (fun _ => by rw [hd]; exact h)
/-- a call and a cell may come up: both orders -/
theorem d_two (T : World → Prop) (i k j l : Nat) {oi oj : Oper} {f : FuncId} {args : Array Value} {v u : Value} {w' : World} (hr : Region.ready md ops listed = [i, j]) (hi : ops[i]? = some oi) (hj : ops[j]? = some oj) (hd : oi.dst = some k) (hdj : oj.dst = some l) (hw : Region.wanted oi (yielded ops a.tmps) = true) (hwj : Region.wanted oj (yielded ops a.tmps) = true) (hrun : (execOp a.eval oi).run P w = .ok (.enter f args) w) (hrunj : (execOp a.eval oj).run P w = .ok (.value u) w')
    (hc : Calls P f args w fun e w'' => e = .returned v ∧ S w'' ∧ T w'') (hS : S w') (h : ∀ w'', S w'' → T w'' → wpAnyH P md ops Q S fuel (listed.setIfInBounds i true) (a.put (some k) v) w'') (h' : wpAnyH P md ops Q S fuel (listed.setIfInBounds j true) (a.put (some l) u) w') : wpAnyH P md ops Q S (fuel + 1) listed a w := by
  refine wpAnyH_ready hr (by simp) (AllReadyH.cons hi (fun K hK => ?_) (AllReadyH.cons hj (fun K hK => ?_) AllReadyH.nil))
  · rw [if_pos hw]
    unfold Oper.wp
    rw [hrun]
    refine hc.mono ?_
    rintro e w'' ⟨rfl, hS, hT⟩
    exact hK.out _ _ hS (fun _ => by rw [hd]; exact h w'' hS hT)
  · rw [if_pos hwj]
    unfold Oper.wp
    rw [hrunj]
    exact hK.out _ _ hS (fun _ => by rw [hdj]; exact h')
end

section
variable {P : Program} {md : Region.Mode} {ops : Array Oper} {Q : Exit → Act → World → Prop} {S : World → Prop} {fuel : Nat} {listed : Array Bool} {a : Act} {w : World}
/-- one operation is left that may come up: it reads -/
theorem d_read (i k : Nat) {oi : Oper} {v : Value} (hr : Region.ready md ops listed = [i]) (hi : ops[i]? = some oi) (hd : oi.dst = some k) (hw : Region.wanted oi (yielded ops a.tmps) = true) (hrun : (execOp a.eval oi).run P w = .ok (.value v) w)
    (hS : S w) (h : wpAnyH P md ops Q S fuel (listed.setIfInBounds i true) (a.put (some k) v) w) : wpAnyH P md ops Q S (fuel + 1) listed a w :=
  d_make i k hr hi hd hw hrun hS h
/-- two that may come up: both orders -/
theorem d_pair (i k j l : Nat) {oi oj : Oper} {v u : Value} {wi wj : World} (hr : Region.ready md ops listed = [i, j]) (hi : ops[i]? = some oi) (hj : ops[j]? = some oj) (hd : oi.dst = some k) (hdj : oj.dst = some l) (hw : Region.wanted oi (yielded ops a.tmps) = true) (hwj : Region.wanted oj (yielded ops a.tmps) = true) (hrun : (execOp a.eval oi).run P w = .ok (.value v) wi) (hrunj : (execOp a.eval oj).run P w = .ok (.value u) wj)
    (hS : S wi) (hSj : S wj) (h : wpAnyH P md ops Q S fuel (listed.setIfInBounds i true) (a.put (some k) v) wi) (h' : wpAnyH P md ops Q S fuel (listed.setIfInBounds j true) (a.put (some l) u) wj) : wpAnyH P md ops Q S (fuel + 1) listed a w := by
  refine wpAnyH_ready hr (by simp) (AllReadyH.cons hi (fun K hK => ?_) (AllReadyH.cons hj (fun K hK => ?_) AllReadyH.nil))
  · rw [if_pos hw]
    unfold Oper.wp
    rw [hrun]
    exact hK.out _ _ hS (fun _ => by rw [hd]; exact h)
  · rw [if_pos hwj]
    unfold Oper.wp
    rw [hrunj]
    exact hK.out _ _ hSj (fun _ => by rw [hdj]; exact h')
end

section
variable {P : Program} {md : Region.Mode} {ops : Array Oper} {Q : Exit → Act → World → Prop} {S : World → Prop} {fuel : Nat} {listed : Array Bool} {a : Act} {w : World}
theorem d_skip (i k : Nat) {oi : Oper} (hi : ops[i]? = some oi) (hd : oi.dst = some k) (hs : Region.noSelect ops = true) (hf : Region.free md ops listed i = true) (hr : (Region.ready md ops listed).contains i = true)
    (hQ : ∀ c a w, Q (.panic c) (a.put (some k) undef) w → Q (.panic c) a w) (hw : Region.wanted oi (yielded ops a.tmps) = false) (hS : S w)
    (h : wpAnyH P md ops Q S fuel (listed.setIfInBounds i true) (a.put (some k) undef) w) : wpAnyH P md ops Q S (fuel + 1) listed a w :=
  h_skip i hi hs hf hr (by rw [hd]; exact hQ) hw hS (by rw [hd]; exact h)
end
theorem alloc_new (w : World) (o : Obj) : (w.alloc o).heap[w.heap.size]? = some o := by simp only [World.alloc]; simp
theorem hid {p : Prop} (h : p) : Hid p := h
theorem five {W : World} {b : Nat} {v0 v1 v2 v3 v4 : Value} {t : TypeId} (h : W.heap[b]? = some (.cells #[v0, v1, v2, v3, v4] t)) :
    W.cell? ⟨b, 0, none⟩ = some v0 ∧ W.cell? ⟨b, 1, none⟩ = some v1 ∧ W.cell? ⟨b, 2, none⟩ = some v2 ∧ W.cell? ⟨b, 3, none⟩ = some v3 ∧ W.cell? ⟨b, 4, none⟩ = some v4 := by
  refine ⟨?_, ?_, ?_, ?_, ?_⟩ <;> simp [World.cell?, h]
theorem wrap64_keeps (x : Int) (h : -9223372036854775808 ≤ x ∧ x ≤ 9223372036854775807) : IntKind.i64.wrap x = x := IntWalk.i64_in x h
section
variable {w : World} {a : Act} {o : Oper}
theorem er_mv (x : Operand) (ho : o.op = .move x) (v : Value) (hx : a.eval x = v) : (execOp a.eval o).run Tryz.prog w = .ok (.value v) w := by simp only [execOp, ho, hx]; rfl
theorem er_as (x : Operand) (ho : o.op = .assign x) (v : Value) (hx : a.eval x = v) : (execOp a.eval o).run Tryz.prog w = .ok (.value v) w := by simp only [execOp, ho, hx]; rfl
theorem er_geq (x y : Operand) (ho : o.op = .binOp .geq 3 x y 3) (u v : Int) (c : Bool) (hx : a.eval x = .int .i64 u) (hy : a.eval y = .int .i64 v) (hc : decide (v ≤ u) = c) : (execOp a.eval o).run Tryz.prog w = .ok (.value (.bool c)) w := by
  subst hc
  simp only [execOp, ho, hx, hy]; simp [go_sem]
theorem er_lss (x y : Operand) (ho : o.op = .binOp .lss 3 x y 3) (u v : Int) (c : Bool) (hx : a.eval x = .int .i64 u) (hy : a.eval y = .int .i64 v) (hc : decide (u < v) = c) : (execOp a.eval o).run Tryz.prog w = .ok (.value (.bool c)) w := by
  subst hc
  simp only [execOp, ho, hx, hy]; simp [go_sem]
theorem er_eqI (x y : Operand) (ho : o.op = .binOp .eql 3 x y 3) (u v : Int) (c : Bool) (hx : a.eval x = .int .i64 u) (hy : a.eval y = .int .i64 v) (hc : (u == v) = c) : (execOp a.eval o).run Tryz.prog w = .ok (.value (.bool c)) w := by
  subst hc
  simp only [execOp, ho, hx, hy]; simp [go_sem]
theorem er_neI (x y : Operand) (ho : o.op = .binOp .neq 3 x y 3) (u v : Int) (c : Bool) (hx : a.eval x = .int .i64 u) (hy : a.eval y = .int .i64 v) (hc : (u != v) = c) : (execOp a.eval o).run Tryz.prog w = .ok (.value (.bool c)) w := by
  subst hc
  simp only [execOp, ho, hx, hy]; simp [go_sem]
theorem er_eqB (x y : Operand) (ho : o.op = .binOp .eql 4 x y 4) (u v : Bool) (c : Bool) (hx : a.eval x = .bool u) (hy : a.eval y = .bool v) (hc : (u == v) = c) : (execOp a.eval o).run Tryz.prog w = .ok (.value (.bool c)) w := by
  subst hc
  simp only [execOp, ho, hx, hy]
  cases u <;> cases v <;> simp [go_sem]
theorem er_neB (x y : Operand) (ho : o.op = .binOp .neq 4 x y 4) (u v : Bool) (c : Bool) (hx : a.eval x = .bool u) (hy : a.eval y = .bool v) (hc : (u != v) = c) : (execOp a.eval o).run Tryz.prog w = .ok (.value (.bool c)) w := by
  subst hc
  simp only [execOp, ho, hx, hy]
  cases u <;> cases v <;> simp [go_sem]
theorem er_not (x : Operand) (ho : o.op = .unOp .not 4 x) (u : Bool) (hx : a.eval x = .bool u) : (execOp a.eval o).run Tryz.prog w = .ok (.value (.bool (!u))) w := by
  simp only [execOp, ho, hx]
  cases u <;> simp [go_sem]
theorem er_pk (b x y : Operand) (ho : o.op = .pick b x y) (c : Bool) (v : Value) (hb : a.eval b = .bool c) (hv : (if c then a.eval x else a.eval y) = v) : (execOp a.eval o).run Tryz.prog w = .ok (.value v) w := by
  subst hv
  simp only [execOp, ho, hb]
  cases c <;> simp [go_sem]
theorem er_sub (x y : Operand) (ho : o.op = .binOp .sub 3 x y 3) (u v r : Int) (hx : a.eval x = .int .i64 u) (hy : a.eval y = .int .i64 v) (hr : u - v = r) (hb : -9223372036854775808 ≤ r ∧ r ≤ 9223372036854775807) : (execOp a.eval o).run Tryz.prog w = .ok (.value (.int .i64 r)) w := by
  subst hr
  have hw : IntKind.i64.wrap (u - v) = u - v := wrap64_keeps _ hb
  simp only [execOp, ho, hx, hy]; simp [go_sem, hw]
theorem er_add (x y : Operand) (ho : o.op = .binOp .add 3 x y 3) (u v r : Int) (hx : a.eval x = .int .i64 u) (hy : a.eval y = .int .i64 v) (hr : u + v = r) (hb : -9223372036854775808 ≤ r ∧ r ≤ 9223372036854775807) : (execOp a.eval o).run Tryz.prog w = .ok (.value (.int .i64 r)) w := by
  subst hr
  have hw : IntKind.i64.wrap (u + v) = u + v := wrap64_keeps _ hb
  simp only [execOp, ho, hx, hy]; simp [go_sem, hw]
theorem er_rem (x y : Operand) (ho : o.op = .binOp .rem 3 x y 3) (u v r : Int) (hx : a.eval x = .int .i64 u) (hy : a.eval y = .int .i64 v) (h0 : 0 ≤ u) (hu : u ≤ 9223372036854775807) (h1 : 1 ≤ v) (hr : u % v = r) : (execOp a.eval o).run Tryz.prog w = .ok (.value (.int .i64 r)) w := by
  subst hr
  have h2 : v ≠ 0 := by omega
  have h3 := Int.emod_nonneg u h2
  have h4 : u % v ≤ u := by
    have := Int.emod_add_mul_ediv u v
    have := Int.mul_nonneg (show 0 ≤ v by omega) (Int.ediv_nonneg h0 (show 0 ≤ v by omega))
    omega
  simp only [execOp, ho, hx, hy]; simp [go_sem, h2, Int.tmod_eq_emod_of_nonneg h0]
  try omega
theorem Tryz.infoCh : (Tryz.prog.info? 39).map (·.size) = some 5 := by kernel_rfl
theorem er_ldC (x : Operand) (ho : o.op = .load 39 x) (g : Nat) (A : Array Value) (hx : a.eval x = .pointer (some ⟨g, 0, none⟩)) (hg : w.heap[g]? = some (.cells A 39)) (hA : A.size = 5) : (execOp a.eval o).run Tryz.prog w = .ok (.value (.agg A)) w := by
  have h := run_loadVar_row (P := Tryz.prog) w g 39 39 A (0, 0) _ hg Tryz.underlying39 rfl (by rw [hA]; exact Tryz.infoCh)
  unfold execOp
  simp only [ho, hx, Instr.loadAt, Instr.sureAddr, Sem.run_bind, Sem.run_pure, Result.andThen_ok, h]
theorem ec_due (x y : Operand) (t t' : TypeId) (ho : o.op = .call { callee := .value (.func 14), args := #[x, y], argTypes := #[t, t'] }) (v u : Value) (hx : a.eval x = v) (hy : a.eval y = u) : (execOp a.eval o).run Tryz.prog w = .ok (.enter 14 #[v, u]) w := by
  subst hx hy
  simp [execOp, ho, go_sem, Act.eval]
end
end Go.Proofs.YtfjaajjljmbmbaaGreatDoor
