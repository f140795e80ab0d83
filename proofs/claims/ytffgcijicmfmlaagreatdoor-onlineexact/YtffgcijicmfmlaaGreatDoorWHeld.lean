/-
  Regions driven by hand: what is read, made and turned.
-/
import Derived.Test.YtffgcijicmfmlaaGreatDoorWNew
import Derived.Deep.RegionHeld
import Derived.BigFrame
import Derived.Maps.AppendAt
namespace Go.Proofs.YtffgcijicmfmlaaGreatDoor
open Go.RowKit
set_option linter.unusedVariables false

section
variable {P : Program} {md : Region.Mode} {ops : Array Oper} {Q : Exit → Act → World → Prop} {S : World → Prop} {fuel : Nat} {listed : Array Bool} {a : Act} {w : World}
theorem h_take (i : Nat) {oi : Oper} {v : Value} (hi : ops[i]? = some oi) (hs : Region.noSelect ops = true) (hf : Region.free md ops listed i = true) (hr : (Region.ready md ops listed).contains i = true)
    (hQ : ∀ c a w, Q (.panic c) (a.put oi.dst v) w → Q (.panic c) a w) (hw : Region.wanted oi (yielded ops a.tmps) = true) (hv : ∀ w, S w → (execOp a.eval oi).run P w = .ok (.value v) w) (hS : S w)
    (h : wpAnyH P md ops Q S fuel (listed.setIfInBounds i true) (a.put oi.dst v) w) : wpAnyH P md ops Q S (fuel + 1) listed a w :=
  wpAnyH_take hi hs hf hr hQ (.inl ⟨hw, hv⟩) hS h
theorem h_skip (i : Nat) {oi : Oper} (hi : ops[i]? = some oi) (hs : Region.noSelect ops = true) (hf : Region.free md ops listed i = true) (hr : (Region.ready md ops listed).contains i = true)
    (hQ : ∀ c a w, Q (.panic c) (a.put oi.dst undef) w → Q (.panic c) a w) (hw : Region.wanted oi (yielded ops a.tmps) = false) (hS : S w)
    (h : wpAnyH P md ops Q S fuel (listed.setIfInBounds i true) (a.put oi.dst undef) w) : wpAnyH P md ops Q S (fuel + 1) listed a w :=
  wpAnyH_take hi hs hf hr hQ (.inr ⟨hw, rfl⟩) hS h
/-- one operation is left that may come up: a call -/
theorem h_call (i : Nat) {oi : Oper} {f : FuncId} {args : Array Value} {v : Value} (hr : Region.ready md ops listed = [i]) (hi : ops[i]? = some oi) (hw : Region.wanted oi (yielded ops a.tmps) = true) (hrun : (execOp a.eval oi).run P w = .ok (.enter f args) w)
    (hc : Calls P f args w fun e w'' => e = .returned v ∧ S w'') (h : ∀ w'', S w'' → wpAnyH P md ops Q S fuel (listed.setIfInBounds i true) (a.put oi.dst v) w'') : wpAnyH P md ops Q S (fuel + 1) listed a w := by
  refine wpAnyH_ready hr (by simp) (AllReadyH.cons hi (fun K hK => ?_) AllReadyH.nil)
  rw [if_pos hw]
  unfold Oper.wp
  rw [hrun]
  refine hc.mono ?_
  rintro e w'' ⟨rfl, hS⟩
  exact hK.out _ _ hS (fun _ => h w'' hS)
/-- one operation is left that may come up: it turns the world -/
theorem h_turn (i : Nat) {oi : Oper} {w' : World} (hr : Region.ready md ops listed = [i]) (hi : ops[i]? = some oi) (hw : Region.wanted oi (yielded ops a.tmps) = true) (hrun : (execOp a.eval oi).run P w = .ok .skip w')
    (hS : S w') (h : wpAnyH P md ops Q S fuel (listed.setIfInBounds i true) (a.put oi.dst undef) w') : wpAnyH P md ops Q S (fuel + 1) listed a w := by
  refine wpAnyH_ready hr (by simp) (AllReadyH.cons hi (fun K hK => ?_) AllReadyH.nil)
  rw [if_pos hw]
  unfold Oper.wp
  rw [hrun]
  exact hK.out _ _ hS (fun _ => h)
end

section
variable {P : Program} {md : Region.Mode} {ops : Array Oper} {Q : Exit → Act → World → Prop} {S : World → Prop} {fuel : Nat} {listed : Array Bool} {a : Act} {w : World}
/-- the same, where the answer goes to a slot that is written out -/
theorem d_take (i k : Nat) {oi : Oper} {v : Value} (hi : ops[i]? = some oi) (hd : oi.dst = some k) (hs : Region.noSelect ops = true) (hf : Region.free md ops listed i = true) (hr : (Region.ready md ops listed).contains i = true)
    (hQ : ∀ c a w, Q (.panic c) (a.put (some k) v) w → Q (.panic c) a w) (hw : Region.wanted oi (yielded ops a.tmps) = true) (hv : ∀ w, S w → (execOp a.eval oi).run P w = .ok (.value v) w) (hS : S w)
    (h : wpAnyH P md ops Q S fuel (listed.setIfInBounds i true) (a.put (some k) v) w) : wpAnyH P md ops Q S (fuel + 1) listed a w :=
  h_take i hi hs hf hr (by rw [hd]; exact hQ) hw hv hS (by rw [hd]; exact h)
theorem d_call (i k : Nat) {oi : Oper} {f : FuncId} {args : Array Value} {v : Value} (hr : Region.ready md ops listed = [i]) (hi : ops[i]? = some oi) (hd : oi.dst = some k) (hw : Region.wanted oi (yielded ops a.tmps) = true) (hrun : (execOp a.eval oi).run P w = .ok (.enter f args) w)
    (hc : Calls P f args w fun e w'' => e = .returned v ∧ S w'') (h : ∀ w'', S w'' → wpAnyH P md ops Q S fuel (listed.setIfInBounds i true) (a.put (some k) v) w'') : wpAnyH P md ops Q S (fuel + 1) listed a w :=
  h_call i hr hi hw hrun hc (by rw [hd]; exact h)
theorem d_turn (i : Nat) {oi : Oper} {w' : World} (hr : Region.ready md ops listed = [i]) (hi : ops[i]? = some oi) (hd : oi.dst = none) (hw : Region.wanted oi (yielded ops a.tmps) = true) (hrun : (execOp a.eval oi).run P w = .ok .skip w')
    (hS : S w') (h : wpAnyH P md ops Q S fuel (listed.setIfInBounds i true) a w') : wpAnyH P md ops Q S (fuel + 1) listed a w :=
  h_turn i hr hi hw hrun hS (by rw [hd]; exact h)
end

section
variable {P : Program} {md : Region.Mode} {ops : Array Oper} {Q : Exit → Act → World → Prop} {S : World → Prop} {fuel : Nat} {listed : Array Bool} {a : Act} {w : World}
theorem d_callT (T : World → Prop) (i k : Nat) {oi : Oper} {f : FuncId} {args : Array Value} {v : Value} (hr : Region.ready md ops listed = [i]) (hi : ops[i]? = some oi) (hd : oi.dst = some k) (hw : Region.wanted oi (yielded ops a.tmps) = true) (hrun : (execOp a.eval oi).run P w = .ok (.enter f args) w)
    (hc : Calls P f args w fun e w'' => e = .returned v ∧ S w'' ∧ T w'') (h : ∀ w'', S w'' → T w'' → wpAnyH P md ops Q S fuel (listed.setIfInBounds i true) (a.put (some k) v) w'') : wpAnyH P md ops Q S (fuel + 1) listed a w := by
  refine wpAnyH_ready hr (by simp) (AllReadyH.cons hi (fun K hK => ?_) AllReadyH.nil)
  rw [if_pos hw]
  unfold Oper.wp
  rw [hrun]
  refine hc.mono ?_
  rintro e w'' ⟨rfl, hS, hT⟩
  exact hK.out _ _ hS (fun _ => by rw [hd]; exact h w'' hS hT)
/-- a call whose answer is new -/
theorem d_callN (T : Value → World → Prop) (i k : Nat) {oi : Oper} {f : FuncId} {args : Array Value} (hr : Region.ready md ops listed = [i]) (hi : ops[i]? = some oi) (hd : oi.dst = some k) (hw : Region.wanted oi (yielded ops a.tmps) = true) (hrun : (execOp a.eval oi).run P w = .ok (.enter f args) w)
    (hc : Calls P f args w fun e w'' => ∃ v, e = .returned v ∧ S w'' ∧ T v w'') (h : ∀ v w'', S w'' → T v w'' → wpAnyH P md ops Q S fuel (listed.setIfInBounds i true) (a.put (some k) v) w'') : wpAnyH P md ops Q S (fuel + 1) listed a w := by
  refine wpAnyH_ready hr (by simp) (AllReadyH.cons hi (fun K hK => ?_) AllReadyH.nil)
  rw [if_pos hw]
  unfold Oper.wp
  rw [hrun]
  refine hc.mono ?_
  rintro e w'' ⟨v, rfl, hS, hT⟩
  exact hK.out _ _ hS (fun _ => by rw [hd]; exact h v w'' hS hT)
theorem d_make (i k : Nat) {oi : Oper} {v : Value} {w' : World} (hr : Region.ready md ops listed = [i]) (hi : ops[i]? = some oi) (hd : oi.dst = some k) (hw : Region.wanted oi (yielded ops a.tmps) = true) (hrun : (execOp a.eval oi).run P w = .ok (.value v) w')
    (hS : S w') (h : wpAnyH P md ops Q S fuel (listed.setIfInBounds i true) (a.put (some k) v) w') : wpAnyH P md ops Q S (fuel + 1) listed a w := by
  refine wpAnyH_ready hr (by simp) (AllReadyH.cons hi (fun K hK => ?_) AllReadyH.nil)
  rw [if_pos hw]
  unfold Oper.wp
  rw [hrun]
  exact hK.out _ _ hS (fun _ => by rw [hd]; exact h)
/-- a call and a cell may come up: both orders -/
theorem d_two (T : World → Prop) (i k j l : Nat) {oi oj : Oper} {f : FuncId} {args : Array Value} {v u : Value} {w' : World} (hr : Region.ready md ops listed = [i, j]) (hi : ops[i]? = some oi) (hj : ops[j]? = some oj) (hd : oi.dst = some k) (hdj : oj.dst = some l) (hw : Region.wanted oi (yielded ops a.tmps) = true) (hwj : Region.wanted oj (yielded ops a.tmps) = true) (hrun : (execOp a.eval oi).run P w = .ok (.enter f args) w) (hrunj : (execOp a.eval oj).run P w = .ok (.value u) w')
    (hc : Calls P f args w fun e w'' => e = .returned v ∧ S w'' ∧ T w'') (hS : S w') (h : ∀ w'', S w'' → T w'' → wpAnyH P md ops Q S fuel (listed.setIfInBounds i true) (a.put (some k) v) w'') (h' : wpAnyH P md ops Q S fuel (listed.setIfInBounds j true) (a.put (some l) u) w') : wpAnyH P md ops Q S (fuel + 1) listed a w := by
  refine wpAnyH_ready hr (by simp) (AllReadyH.cons hi (fun K hK => ?_) (AllReadyH.cons hj (fun K hK => ?_) AllReadyH.nil))
  · rw [if_pos hw]
    unfold Oper.wp
    rw [hrun]
    refine hc.mono ?_
    rintro e w'' ⟨rfl, hS, hT⟩
    exact hK.out _ _ hS (fun _ => by rw [hd]; exact h w'' hS hT)
  · rw [if_pos hwj]
    unfold Oper.wp
    rw [hrunj]
    exact hK.out _ _ hS (fun _ => by rw [hdj]; exact h')
end

section
variable {P : Program} {md : Region.Mode} {ops : Array Oper} {Q : Exit → Act → World → Prop} {S : World → Prop} {fuel : Nat} {listed : Array Bool} {a : Act} {w : World}
/-- one operation is left that may come up: it reads -/
theorem d_read (i k : Nat) {oi : Oper} {v : Value} (hr : Region.ready md ops listed = [i]) (hi : ops[i]? = some oi) (hd : oi.dst = some k) (hw : Region.wanted oi (yielded ops a.tmps) = true) (hrun : (execOp a.eval oi).run P w = .ok (.value v) w)
    (hS : S w) (h : wpAnyH P md ops Q S fuel (listed.setIfInBounds i true) (a.put (some k) v) w) : wpAnyH P md ops Q S (fuel + 1) listed a w :=
  d_make i k hr hi hd hw hrun hS h
/-- two that may come up: both orders -/
theorem d_pair (i k j l : Nat) {oi oj : Oper} {v u : Value} {wi wj : World} (hr : Region.ready md ops listed = [i, j]) (hi : ops[i]? = some oi) (hj : ops[j]? = some oj) (hd : oi.dst = some k) (hdj : oj.dst = some l) (hw : Region.wanted oi (yielded ops a.tmps) = true) (hwj : Region.wanted oj (yielded ops a.tmps) = true) (hrun : (execOp a.eval oi).run P w = .ok (.value v) wi) (hrunj : (execOp a.eval oj).run P w = .ok (.value u) wj)
    (hS : S wi) (hSj : S wj) (h : wpAnyH P md ops Q S fuel (listed.setIfInBounds i true) (a.put (some k) v) wi) (h' : wpAnyH P md ops Q S fuel (listed.setIfInBounds j true) (a.put (some l) u) wj) : wpAnyH P md ops Q S (fuel + 1) listed a w := by
  refine wpAnyH_ready hr (by simp) (AllReadyH.cons hi (fun K hK => ?_) (AllReadyH.cons hj (fun K hK => ?_) AllReadyH.nil))
  · rw [if_pos hw]
    unfold Oper.wp
    rw [hrun]
    exact hK.out _ _ hS (fun _ => by rw [hd]; exact h)
  · rw [if_pos hwj]
    unfold Oper.wp
    rw [hrunj]
    exact hK.out _ _ hSj (fun _ => by rw [hdj]; exact h')
end

section
variable {ops : Array Oper} {rest : List Oper} {op : Oper} {a : Act} {w : World} {Q : Exit → Act → World → Prop}
theorem wg_val {P : Program} {w' : World} {v : Value} (hw : Region.wanted op (yielded ops a.tmps) = true) (hr : (execOp a.eval op).run P w = .ok (.value v) w') (h : wpList P ops Q rest (a.put op.dst v) w') : wpList P ops Q (op :: rest) a w :=
  BigFrame.wpList_want hw fun K hK => by unfold Oper.wp; rw [hr]; exact hK _ _ h
end
section
variable {P : Program} {ops : Array Oper} {Q : Exit → Act → World → Prop} {rest : List Oper} {op : Oper} {a : Act} {w : World}
theorem l_take (k : Nat) {v : Value} (hd : op.dst = some k) (hw : Region.wanted op (yielded ops a.tmps) = true) (hr : (execOp a.eval op).run P w = .ok (.value v) w) (h : wpList P ops Q rest (a.put (some k) v) w) : wpList P ops Q (op :: rest) a w :=
  wg_val hw hr (by rw [hd]; exact h)
theorem l_make (k : Nat) {v : Value} {w' : World} (hd : op.dst = some k) (hw : Region.wanted op (yielded ops a.tmps) = true) (hr : (execOp a.eval op).run P w = .ok (.value v) w') (h : wpList P ops Q rest (a.put (some k) v) w') : wpList P ops Q (op :: rest) a w :=
  wg_val hw hr (by rw [hd]; exact h)
theorem l_turn {w' : World} (hd : op.dst = none) (hw : Region.wanted op (yielded ops a.tmps) = true) (hr : (execOp a.eval op).run P w = .ok .skip w') (h : wpList P ops Q rest a w') : wpList P ops Q (op :: rest) a w :=
  BigFrame.wpList_want hw fun K hK => by unfold Oper.wp; rw [hr]; exact hK _ _ (by rw [hd]; exact h)
theorem l_call (k : Nat) {f : FuncId} {args : Array Value} {R : Ending → World → Prop} (hd : op.dst = some k) (hw : Region.wanted op (yielded ops a.tmps) = true) (hr : (execOp a.eval op).run P w = .ok (.enter f args) w) (hc : Calls P f args w R)
    (h : ∀ e w', R e w' → ∃ v, e = .returned v ∧ wpList P ops Q rest (a.put (some k) v) w') : wpList P ops Q (op :: rest) a w :=
  BigFrame.wpList_want hw fun K hK => by
    unfold Oper.wp
    rw [hr]
    refine hc.mono ?_
    intro e w' he
    obtain ⟨v, rfl, h2⟩ := h e w' he
    exact hK _ _ (by rw [hd]; exact h2)
end

section
variable {o : Oper} {a : Act} {w : World}
theorem er_mvw (x : Operand) (ho : o.op = .move x) (v : Value) (hx : a.eval x = v) : (execOp a.eval o).run Tryz.prog w = .ok (.value v) w := by simp only [execOp, ho, hx]; rfl
theorem er_asw (x : Operand) (ho : o.op = .assign x) (v : Value) (hx : a.eval x = v) : (execOp a.eval o).run Tryz.prog w = .ok (.value v) w := by simp only [execOp, ho, hx]; rfl
theorem er_nil (x : Operand) (ho : o.op = .nilCheck x) (p : Addr) (hx : a.eval x = .pointer (some p)) : (execOp a.eval o).run Tryz.prog w = .ok (.value (.pointer (some p))) w := by simp only [execOp, ho, hx]; simp [go_sem]
theorem er_f69_0 (x : Operand) (ho : o.op = .fieldAddr 96 x 0) (g : Nat) (hx : a.eval x = .pointer (some ⟨g, 0, none⟩)) : (execOp a.eval o).run Tryz.prog w = .ok (.value (.pointer (some ⟨g, 0, none⟩))) w := by simp only [execOp, ho, hx]; simp [go_sem]
theorem er_f69_1 (x : Operand) (ho : o.op = .fieldAddr 96 x 1) (g : Nat) (hx : a.eval x = .pointer (some ⟨g, 0, none⟩)) : (execOp a.eval o).run Tryz.prog w = .ok (.value (.pointer (some ⟨g, 1, none⟩))) w := by simp only [execOp, ho, hx]; simp [go_sem]
theorem er_f69_2 (x : Operand) (ho : o.op = .fieldAddr 96 x 2) (g : Nat) (hx : a.eval x = .pointer (some ⟨g, 0, none⟩)) : (execOp a.eval o).run Tryz.prog w = .ok (.value (.pointer (some ⟨g, 2, none⟩))) w := by simp only [execOp, ho, hx]; simp [go_sem]
theorem er_f32_0 (x : Operand) (ho : o.op = .fieldAddr 98 x 0) (g : Nat) (hx : a.eval x = .pointer (some ⟨g, 0, none⟩)) : (execOp a.eval o).run Tryz.prog w = .ok (.value (.pointer (some ⟨g, 0, none⟩))) w := by simp only [execOp, ho, hx]; simp [go_sem]
theorem er_f32_1 (x : Operand) (ho : o.op = .fieldAddr 98 x 1) (g : Nat) (hx : a.eval x = .pointer (some ⟨g, 0, none⟩)) : (execOp a.eval o).run Tryz.prog w = .ok (.value (.pointer (some ⟨g, 1, none⟩))) w := by simp only [execOp, ho, hx]; simp [go_sem]
theorem er_f61_0 (x : Operand) (ho : o.op = .fieldAddr 185 x 0) (g : Nat) (hx : a.eval x = .pointer (some ⟨g, 0, none⟩)) : (execOp a.eval o).run Tryz.prog w = .ok (.value (.pointer (some ⟨g, 0, none⟩))) w := by simp only [execOp, ho, hx]; simp [go_sem]
theorem er_f61_1 (x : Operand) (ho : o.op = .fieldAddr 185 x 1) (g : Nat) (hx : a.eval x = .pointer (some ⟨g, 0, none⟩)) : (execOp a.eval o).run Tryz.prog w = .ok (.value (.pointer (some ⟨g, 1, none⟩))) w := by simp only [execOp, ho, hx]; simp [go_sem]
theorem er_load3 (x : Operand) (ho : o.op = .load 3 x) (g off : Nat) (v : Value) (hx : a.eval x = .pointer (some ⟨g, off, none⟩)) (hr : w.cell? ⟨g, off, none⟩ = some v) : (execOp a.eval o).run Tryz.prog w = .ok (.value v) w := by
  simp only [execOp, ho, hx]; simp [go_sem, hr]
theorem er_load63 (x : Operand) (ho : o.op = .load 90 x) (g off : Nat) (v : Value) (hx : a.eval x = .pointer (some ⟨g, off, none⟩)) (hr : w.cell? ⟨g, off, none⟩ = some v) : (execOp a.eval o).run Tryz.prog w = .ok (.value v) w := by
  simp only [execOp, ho, hx]; simp [go_sem, hr]
theorem er_load64 (x : Operand) (ho : o.op = .load 91 x) (g off : Nat) (v : Value) (hx : a.eval x = .pointer (some ⟨g, off, none⟩)) (hr : w.cell? ⟨g, off, none⟩ = some v) : (execOp a.eval o).run Tryz.prog w = .ok (.value v) w := by
  simp only [execOp, ho, hx]; simp [go_sem, hr]
theorem er_load32 (x : Operand) (ho : o.op = .load 98 x) (g off : Nat) (u v : Value) (hx : a.eval x = .pointer (some ⟨g, off, none⟩)) (hr : w.cell? ⟨g, off, none⟩ = some u) (hs : w.cell? ⟨g, off + 1, none⟩ = some v) : (execOp a.eval o).run Tryz.prog w = .ok (.value (.agg #[u, v])) w := by
  simp only [execOp, ho, hx]; simp [go_sem, hr, hs]
theorem er_load61 (x : Operand) (ho : o.op = .load 185 x) (g off : Nat) (u v : Value) (hx : a.eval x = .pointer (some ⟨g, off, none⟩)) (hr : w.cell? ⟨g, off, none⟩ = some u) (hs : w.cell? ⟨g, off + 1, none⟩ = some v) : (execOp a.eval o).run Tryz.prog w = .ok (.value (.agg #[u, v])) w := by
  simp only [execOp, ho, hx]; simp [go_sem, hr, hs]
theorem er_len64 (x : Operand) (ho : o.op = .call { callee := .builtin .len, args := #[x], argTypes := #[91] }) (ht : o.type = 3) (p : Option Addr) (n c : Nat) (hx : a.eval x = .slice p n c) : (execOp a.eval o).run Tryz.prog w = .ok (.value (.int .i64 n)) w := by
  generalize a.eval = ev at hx ⊢
  simp [execOp, ho, ht, go_sem, hx]
theorem er_build61 (x y : Operand) (ho : o.op = .build 185 #[(0, x), (1, y)]) (u v : Int) (hx : a.eval x = .int .i64 u) (hy : a.eval y = .int .i64 v) : (execOp a.eval o).run Tryz.prog w = .ok (.value (.agg #[.int .i64 u, .int .i64 v])) w := by
  have e : (Instr.build 185 #[(0, .int .i64 u), (1, .int .i64 v)]).run Tryz.prog w = .ok (.agg #[.int .i64 u, .int .i64 v]) w := by kernel_rfl
  simp only [execOp, ho, List.map_toArray, List.map_cons, List.map_nil, hx, hy]; rw [Sem.run_bind, e]; rfl
theorem er_mapUp (m x v : Operand) (ho : o.op = .mapUpdate 90 m x v) (g : Nat) (k vv : Value) {w' : World} (hm : a.eval m = .map (some g)) (hx : a.eval x = k) (hv : a.eval v = vv) (hr : (Instr.mapUpdate 90 (.map (some g)) k vv).run Tryz.prog w = .ok () w') : (execOp a.eval o).run Tryz.prog w = .ok .skip w' := by
  simp only [execOp, ho, hm, hx, hv, Sem.run_bind, hr]; rfl
theorem er_idx64 (x y : Operand) (ho : o.op = .indexAddr 91 x y) (g n c d : Nat) (hd : d < n) (hn : n ≤ 9223372036854775807) (hx : a.eval x = .slice (some ⟨g, 0, none⟩) n c) (hy : a.eval y = .int .i64 d) : (execOp a.eval o).run Tryz.prog w = .ok (.value (.pointer (some ⟨g, d * 2, none⟩))) w := by
  simp only [execOp, ho, hx, hy]
  simp [go_sem, add_none]
  omega
theorem er_store64 (x y : Operand) (ho : o.op = .store 91 x y) (g off : Nat) (u v : Value) (hv : ∃ p n c, v = .slice p n c) (hx : a.eval x = .pointer (some ⟨g, off, none⟩)) (hy : a.eval y = v) (hr : w.cell? ⟨g, off, none⟩ = some u) (hf : w.frozen? ⟨g, off, none⟩ = false) : (execOp a.eval o).run Tryz.prog w = .ok .skip (w.setCell ⟨g, off, none⟩ v) := by
  obtain ⟨p, n, c, rfl⟩ := hv
  simp only [execOp, ho, hx, hy]
  simp [go_sem, hr, hf]
theorem er_store32 (x y : Operand) (ho : o.op = .store 98 x y) (g off : Nat) (u0 u1 : Value) (s t : Int) (hx : a.eval x = .pointer (some ⟨g, off, none⟩)) (hy : a.eval y = .agg #[.int .i64 s, .int .i64 t]) (h0 : w.cell? ⟨g, off, none⟩ = some u0) (h1 : w.cell? ⟨g, off + 1, none⟩ = some u1) (f0 : w.frozen? ⟨g, off, none⟩ = false) (f1 : w.frozen? ⟨g, off + 1, none⟩ = false) : (execOp a.eval o).run Tryz.prog w = .ok .skip ((w.setCell ⟨g, off, none⟩ (.int .i64 s)).setCell ⟨g, off + 1, none⟩ (.int .i64 t)) := by
  simp only [execOp, ho, hx, hy]
  simp [go_sem, h0, h1, f0, f1]
theorem er_bs64 (x : Operand) (ho : o.op = .buildSlice 91 1 #[(0, x)]) (u v : Int) (hx : a.eval x = .agg #[.int .i64 u, .int .i64 v]) : (execOp a.eval o).run Tryz.prog w = .ok (.value (.slice (some ⟨w.heap.size, 0, none⟩) 1 1)) (w.alloc (.cells #[.int .i64 u, .int .i64 v] 98)) := by
  simp only [execOp, ho, List.map_toArray, List.map_cons, List.map_nil, hx]
  simp [go_sem]
theorem er_app64 (s x : Operand) (ho : o.op = .call { callee := .builtin .append, args := #[s, x], argTypes := #[91, 91] }) (u v r : Value) {w' : World} (hs : a.eval s = u) (hx : a.eval x = v) (hr : (Builtin.append_ #[91, 91] o.type #[u, v]).run Tryz.prog w = .ok r w') : (execOp a.eval o).run Tryz.prog w = .ok (.value r) w' := by
  simp only [execOp, ho, resolve, invoke, builtin, Sem.run_bind, Sem.run_pure, Result.andThen_ok, List.map_toArray, List.map_cons, List.map_nil, hs, hx, hr]
end

end Go.Proofs.YtffgcijicmfmlaaGreatDoor
