/-
  Regions driven by hand: what is read, made and turned.
-/
import Derived.Test.YteiakmjdjaodlaaRLine
import Derived.Deep.RegionHeld
import Derived.BigFrame
import Derived.Maps.AppendAt
namespace Go.Proofs.Yteiakmjdjaodlaa
open Go.RowKit Go.Shelf Go.Sort
set_option linter.unusedVariables false

section
variable {P : Program} {md : Region.Mode} {ops : Array Oper} {Q : Exit → Act → World → Prop} {S : World → Prop} {fuel : Nat} {listed : Array Bool} {a : Act} {w : World}
theorem h_take (i : Nat) {oi : Oper} {v : Value} (hi : ops[i]? = some oi) (hs : Region.noSelect ops = true) (hf : Region.free md ops listed i = true) (hr : (Region.ready md ops listed).contains i = true)
    (hQ : ∀ c a w, Q (.panic c) (a.put oi.dst v) w → Q (.panic c) a w) (hw : Region.wanted oi (yielded ops a.tmps) = true) (hv : ∀ w, S w → (execOp a.eval oi).run P w = .ok (.value v) w) (hS : S w)
    (h : wpAnyH P md ops Q S fuel (listed.setIfInBounds i true) (a.put oi.dst v) w) : wpAnyH P md ops Q S (fuel + 1) listed a w :=
  wpAnyH_take hi hs hf hr hQ (.inl ⟨hw, hv⟩) hS h
theorem h_skip (i : Nat) {oi : Oper} (hi : ops[i]? = some oi) (hs : Region.noSelect ops = true) (hf : Region.free md ops listed i = true) (hr : (Region.ready md ops listed).contains i = true)
    (hQ : ∀ c a w, Q (.panic c) (a.put oi.dst undef) w → Q (.panic c) a w) (hw : Region.wanted oi (yielded ops a.tmps) = false) (hS : S w)
    (h : wpAnyH P md ops Q S fuel (listed.setIfInBounds i true) (a.put oi.dst undef) w) : wpAnyH P md ops Q S (fuel + 1) listed a w :=
  wpAnyH_take hi hs hf hr hQ (.inr ⟨hw, rfl⟩) hS h
/-- one operation is left that may come up: a call -/
theorem h_call (i : Nat) {oi : Oper} {f : FuncId} {args : Array Value} {v : Value} (hr : Region.ready md ops listed = [i]) (hi : ops[i]? = some oi) (hw : Region.wanted oi (yielded ops a.tmps) = true) (hrun : (execOp a.eval oi).run P w = .ok (.enter f args) w)
    (hc : Calls P f args w fun e w'' => e = .returned v ∧ S w'') (h : ∀ w'', S w'' → wpAnyH P md ops Q S fuel (listed.setIfInBounds i true) (a.put oi.dst v) w'') : wpAnyH P md ops Q S (fuel + 1) listed a w := by
  refine wpAnyH_ready hr (by simp) (AllReadyH.cons hi (fun K hK => ?_) AllReadyH.nil)
  rw [if_pos hw]
  unfold Oper.wp
  rw [hrun]
  refine hc.mono ?_
  rintro e w'' ⟨rfl, hS⟩
  exact hK.out _ _ hS (fun _ => h w'' hS)
/-- one operation is left that may come up: it turns the world -/
theorem h_turn (i : Nat) {oi : Oper} {w' : World} (hr : Region.ready md ops listed = [i]) (hi : ops[i]? = some oi) (hw : Region.wanted oi (yielded ops a.tmps) = true) (hrun : (execOp a.eval oi).run P w = .ok .skip w')
    (hS : S w') (h : wpAnyH P md ops Q S fuel (listed.setIfInBounds i true) (a.put oi.dst undef) w') : wpAnyH P md ops Q S (fuel + 1) listed a w := by
  refine wpAnyH_ready hr (by simp) (AllReadyH.cons hi (fun K hK => ?_) AllReadyH.nil)
  rw [if_pos hw]
  unfold Oper.wp
  rw [hrun]
  exact hK.out _ _ hS (fun _ => h)
end

section
variable {P : Program} {md : Region.Mode} {ops : Array Oper} {Q : Exit → Act → World → Prop} {S : World → Prop} {fuel : Nat} {listed : Array Bool} {a : Act} {w : World}
/-- the same, where the answer goes to a slot that is written out -/
theorem d_take (i k : Nat) {oi : Oper} {v : Value} (hi : ops[i]? = some oi) (hd : oi.dst = some k) (hs : Region.noSelect ops = true) (hf : Region.free md ops listed i = true) (hr : (Region.ready md ops listed).contains i = true)
    (hQ : ∀ c a w, Q (.panic c) (a.put (some k) v) w → Q (.panic c) a w) (hw : Region.wanted oi (yielded ops a.tmps) = true) (hv : ∀ w, S w → (execOp a.eval oi).run P w = .ok (.value v) w) (hS : S w)
    (h : wpAnyH P md ops Q S fuel (listed.setIfInBounds i true) (a.put (some k) v) w) : wpAnyH P md ops Q S (fuel + 1) listed a w :=
  h_take i hi hs hf hr (by rw [hd]; exact hQ) hw hv hS (by rw [hd]; exact h)
theorem d_call (i k : Nat) {oi : Oper} {f : FuncId} {args : Array Value} {v : Value} (hr : Region.ready md ops listed = [i]) (hi : ops[i]? = some oi) (hd : oi.dst = some k) (hw : Region.wanted oi (yielded ops a.tmps) = true) (hrun : (execOp a.eval oi).run P w = .ok (.enter f args) w)
    (hc : Calls P f args w fun e w'' => e = .returned v ∧ S w'') (h : ∀ w'', S w'' → wpAnyH P md ops Q S fuel (listed.setIfInBounds i true) (a.put (some k) v) w'') : wpAnyH P md ops Q S (fuel + 1) listed a w :=
  h_call i hr hi hw hrun hc (by rw [hd]; exact h)
theorem d_turn (i : Nat) {oi : Oper} {w' : World} (hr : Region.ready md ops listed = [i]) (hi : ops[i]? = some oi) (hd : oi.dst = none) (hw : Region.wanted oi (yielded ops a.tmps) = true) (hrun : (execOp a.eval oi).run P w = .ok .skip w')
    (hS : S w') (h : wpAnyH P md ops Q S fuel (listed.setIfInBounds i true) a w') : wpAnyH P md ops Q S (fuel + 1) listed a w :=
  h_turn i hr hi hw hrun hS (by rw [hd]; exact h)
end

section
variable {P : Program} {md : Region.Mode} {ops : Array Oper} {Q : Exit → Act → World → Prop} {S : World → Prop} {fuel : Nat} {listed : Array Bool} {a : Act} {w : World}
theorem d_callT (T : World → Prop) (i k : Nat) {oi : Oper} {f : FuncId} {args : Array Value} {v : Value} (hr : Region.ready md ops listed = [i]) (hi : ops[i]? = some oi) (hd : oi.dst = some k) (hw : Region.wanted oi (yielded ops a.tmps) = true) (hrun : (execOp a.eval oi).run P w = .ok (.enter f args) w)
    (hc : Calls P f args w fun e w'' => e = .returned v ∧ S w'' ∧ T w'') (h : ∀ w'', S w'' → T w'' → wpAnyH P md ops Q S fuel (listed.setIfInBounds i true) (a.put (some k) v) w'') : wpAnyH P md ops Q S (fuel + 1) listed a w := by
  refine wpAnyH_ready hr (by simp) (AllReadyH.cons hi (fun K hK => ?_) AllReadyH.nil)
  rw [if_pos hw]
  unfold Oper.wp
  rw [hrun]
  refine hc.mono ?_
  rintro e w'' ⟨rfl, hS, hT⟩
  exact hK.out _ _ hS (fun _ => by rw [hd]; exact h w'' hS hT)
/-- a call whose answer is new -/
theorem d_callN (T : Value → World → Prop) (i k : Nat) {oi : Oper} {f : FuncId} {args : Array Value} (hr : Region.ready md ops listed = [i]) (hi : ops[i]? = some oi) (hd : oi.dst = some k) (hw : Region.wanted oi (yielded ops a.tmps) = true) (hrun : (execOp a.eval oi).run P w = .ok (.enter f args) w)
    (hc : Calls P f args w fun e w'' => ∃ v, e = .returned v ∧ S w'' ∧ T v w'') (h : ∀ v w'', S w'' → T v w'' → wpAnyH P md ops Q S fuel (listed.setIfInBounds i true) (a.put (some k) v) w'') : wpAnyH P md ops Q S (fuel + 1) listed a w := by
  refine wpAnyH_ready hr (by simp) (AllReadyH.cons hi (fun K hK => ?_) AllReadyH.nil)
  rw [if_pos hw]
  unfold Oper.wp
  rw [hrun]
  refine hc.mono ?_
  rintro e w'' ⟨v, rfl, hS, hT⟩
  exact hK.out _ _ hS (fun _ => by rw [hd]; exact h v w'' hS hT)
theorem d_make (i k : Nat) {oi : Oper} {v : Value} {w' : World} (hr : Region.ready md ops listed = [i]) (hi : ops[i]? = some oi) (hd : oi.dst = some k) (hw : Region.wanted oi (yielded ops a.tmps) = true) (hrun : (execOp a.eval oi).run P w = .ok (.value v) w')
    (hS : S w') (h : wpAnyH P md ops Q S fuel (listed.setIfInBounds i true) (a.put (some k) v) w') : wpAnyH P md ops Q S (fuel + 1) listed a w := by
  refine wpAnyH_ready hr (by simp) (AllReadyH.cons hi (fun K hK => ?_) AllReadyH.nil)
  rw [if_pos hw]
  unfold Oper.wp
  rw [hrun]
  exact hK.out _ _ hS (fun _ => by rw [hd]; exact h)
/-- a call and a cell may come up: both orders -/
theorem d_two (T : World → Prop) (i k j l : Nat) {oi oj : Oper} {f : FuncId} {args : Array Value} {v u : Value} {w' : World} (hr : Region.ready md ops listed = [i, j]) (hi : ops[i]? = some oi) (hj : ops[j]? = some oj) (hd : oi.dst = some k) (hdj : oj.dst = some l) (hw : Region.wanted oi (yielded ops a.tmps) = true) (hwj : Region.wanted oj (yielded ops a.tmps) = true) (hrun : (execOp a.eval oi).run P w = .ok (.enter f args) w) (hrunj : (execOp a.eval oj).run P w = .ok (.value u) w')
    (hc : Calls P f args w fun e w'' => e = .returned v ∧ S w'' ∧ T w'') (hS : S w') (h : ∀ w'', S w'' → T w'' → wpAnyH P md ops Q S fuel (listed.setIfInBounds i true) (a.put (some k) v) w'') (h' : wpAnyH P md ops Q S fuel (listed.setIfInBounds j true) (a.put (some l) u) w') : wpAnyH P md ops Q S (fuel + 1) listed a w := by
  refine wpAnyH_ready hr (by simp) (AllReadyH.cons hi (fun K hK => ?_) (AllReadyH.cons hj (fun K hK => ?_) AllReadyH.nil))
  · rw [if_pos hw]
    unfold Oper.wp
    rw [hrun]
    refine hc.mono ?_
    rintro e w'' ⟨rfl, hS, hT⟩
    exact hK.out _ _ hS (fun _ => by rw [hd]; exact h w'' hS hT)
  · rw [if_pos hwj]
    unfold Oper.wp
    rw [hrunj]
    exact hK.out _ _ hS (fun _ => by rw [hdj]; exact h')
end

section
variable {P : Program} {md : Region.Mode} {ops : Array Oper} {Q : Exit → Act → World → Prop} {S : World → Prop} {fuel : Nat} {listed : Array Bool} {a : Act} {w : World}
/-- one operation is left that may come up: it reads -/
theorem d_read (i k : Nat) {oi : Oper} {v : Value} (hr : Region.ready md ops listed = [i]) (hi : ops[i]? = some oi) (hd : oi.dst = some k) (hw : Region.wanted oi (yielded ops a.tmps) = true) (hrun : (execOp a.eval oi).run P w = .ok (.value v) w)
    (hS : S w) (h : wpAnyH P md ops Q S fuel (listed.setIfInBounds i true) (a.put (some k) v) w) : wpAnyH P md ops Q S (fuel + 1) listed a w :=
  d_make i k hr hi hd hw hrun hS h
/-- two that may come up: both orders -/
theorem d_pair (i k j l : Nat) {oi oj : Oper} {v u : Value} {wi wj : World} (hr : Region.ready md ops listed = [i, j]) (hi : ops[i]? = some oi) (hj : ops[j]? = some oj) (hd : oi.dst = some k) (hdj : oj.dst = some l) (hw : Region.wanted oi (yielded ops a.tmps) = true) (hwj : Region.wanted oj (yielded ops a.tmps) = true) (hrun : (execOp a.eval oi).run P w = .ok (.value v) wi) (hrunj : (execOp a.eval oj).run P w = .ok (.value u) wj)
    (hS : S wi) (hSj : S wj) (h : wpAnyH P md ops Q S fuel (listed.setIfInBounds i true) (a.put (some k) v) wi) (h' : wpAnyH P md ops Q S fuel (listed.setIfInBounds j true) (a.put (some l) u) wj) : wpAnyH P md ops Q S (fuel + 1) listed a w := by
  refine wpAnyH_ready hr (by simp) (AllReadyH.cons hi (fun K hK => ?_) (AllReadyH.cons hj (fun K hK => ?_) AllReadyH.nil))
  · rw [if_pos hw]
    unfold Oper.wp
    rw [hrun]
    exact hK.out _ _ hS (fun _ => by rw [hd]; exact h)
  · rw [if_pos hwj]
    unfold Oper.wp
    rw [hrunj]
    exact hK.out _ _ hSj (fun _ => by rw [hdj]; exact h')
end

section
variable {o : Oper} {a : Act} {w : World}
theorem er_mv (x : Operand) (ho : o.op = .move x) (v : Value) (hx : a.eval x = v) : (execOp a.eval o).run Try.prog w = .ok (.value v) w := by simp only [execOp, ho, hx]; rfl
theorem er_nil (x : Operand) (ho : o.op = .nilCheck x) (p : Addr) (hx : a.eval x = .pointer (some p)) : (execOp a.eval o).run Try.prog w = .ok (.value (.pointer (some p))) w := by simp only [execOp, ho, hx]; simp [go_sem]
theorem er_f50_0 (x : Operand) (ho : o.op = .fieldAddr 50 x 0) (g : Nat) (hx : a.eval x = .pointer (some ⟨g, 0, none⟩)) : (execOp a.eval o).run Try.prog w = .ok (.value (.pointer (some ⟨g, 0, none⟩))) w := by simp only [execOp, ho, hx]; simp [go_sem]
theorem er_load48 (x : Operand) (ho : o.op = .load 48 x) (g off : Nat) (v : Value) (hx : a.eval x = .pointer (some ⟨g, off, none⟩)) (hr : w.cell? ⟨g, off, none⟩ = some v) : (execOp a.eval o).run Try.prog w = .ok (.value v) w := by
  simp only [execOp, ho, hx]; simp [go_sem, hr]
theorem er_load57 (x : Operand) (ho : o.op = .load 57 x) (g off : Nat) (u v z : Value) (hx : a.eval x = .pointer (some ⟨g, off, none⟩)) (hr : w.cell? ⟨g, off, none⟩ = some u) (hs : w.cell? ⟨g, off + 1, none⟩ = some v) (ht : w.cell? ⟨g, off + 2, none⟩ = some z) : (execOp a.eval o).run Try.prog w = .ok (.value (.agg #[u, v, z])) w := by
  simp only [execOp, ho, hx]; simp [go_sem, hr, hs, ht]
theorem er_store48 (x y : Operand) (ho : o.op = .store 48 x y) (g off : Nat) (u v : Value) (hv : ∃ p n c, v = .slice p n c) (hx : a.eval x = .pointer (some ⟨g, off, none⟩)) (hy : a.eval y = v) (hr : w.cell? ⟨g, off, none⟩ = some u) (hf : w.frozen? ⟨g, off, none⟩ = false) : (execOp a.eval o).run Try.prog w = .ok .skip (w.setCell ⟨g, off, none⟩ v) := by
  obtain ⟨p, n, c, rfl⟩ := hv
  simp only [execOp, ho, hx, hy]
  simp [go_sem, hr, hf]
theorem er_bs48 (x : Operand) (ho : o.op = .buildSlice 48 1 #[(0, x)]) (u v z : Int) (hx : a.eval x = .agg #[.int .i64 u, .int .i64 v, .int .i64 z]) : (execOp a.eval o).run Try.prog w = .ok (.value (.slice (some ⟨w.heap.size, 0, none⟩) 1 1)) (w.alloc (.cells #[.int .i64 u, .int .i64 v, .int .i64 z] 57)) := by
  simp only [execOp, ho, List.map_toArray, List.map_cons, List.map_nil, hx]
  simp [go_sem]
theorem er_app48 (s x : Operand) (ho : o.op = .call { callee := .builtin .append, args := #[s, x], argTypes := #[48, 48] }) (u v r : Value) {w' : World} (hs : a.eval s = u) (hx : a.eval x = v) (hr : (Builtin.append_ #[48, 48] o.type #[u, v]).run Try.prog w = .ok r w') : (execOp a.eval o).run Try.prog w = .ok (.value r) w' := by
  simp only [execOp, ho, resolve, invoke, builtin, Sem.run_bind, Sem.run_pure, Result.andThen_ok, List.map_toArray, List.map_cons, List.map_nil, hs, hx, hr]
end
theorem info_parts {P : Program} {e : TypeId} {z : Option Value} {s b : Nat} (h : (P.info? e).map (fun i => (i.zero, i.size, i.bytes)) = some (z, s, b)) : ∃ i, P.info? e = some i ∧ i.zero = z ∧ i.size = s ∧ i.bytes = b := by
  cases h1 : P.info? e with
  | none => rw [h1] at h; cases h
  | some i => rw [h1] at h; simp at h; exact ⟨i, rfl, h⟩
theorem info57 : (Try.prog.info? 57).map (fun i => (i.zero, i.size, i.bytes)) = some (some (.agg #[.int .i64 0, .int .i64 0, .int .i64 0]), 3, 24) := by kernel_rfl
theorem info3 : (Try.prog.info? 3).map (fun i => (i.zero, i.size, i.bytes)) = some (some (.int .i64 0), 1, 8) := by kernel_rfl
theorem cell3_new (w : World) (x : En) : ∀ j u, (fc x)[j]? = some u → (w.alloc (.cells #[.int .i64 x.id, .int .i64 x.pr, .int .i64 x.pl] 57)).cell? ((⟨w.heap.size, 0, none⟩ : Addr).add j) = some u := by
  intro j u hu
  rw [add_none, Nat.zero_add]
  have hb := heap_last w (.cells #[.int .i64 x.id, .int .i64 x.pr, .int .i64 x.pl] 57)
  match j, hu with
  | 0, hu => exact cell_of_row hb (by simpa [fc] using hu)
  | 1, hu => exact cell_of_row hb (by simpa [fc] using hu)
  | 2, hu => exact cell_of_row hb (by simpa [fc] using hu)
  | j + 3, hu => simp [fc] at hu

end Go.Proofs.Yteiakmjdjaodlaa
