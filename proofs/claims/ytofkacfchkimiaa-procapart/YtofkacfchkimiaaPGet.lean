/-
  proc: copyOf, Get.
-/
import Derived.Test.YtofkacfchkimiaaPPer
import Derived.Deep.MidRow
namespace Go.Proofs.Ytofkacfchkimiaa
open Go.RowKit Plain
set_option linter.unusedVariables false
set_option maxRecDepth 100000

/-- a state as a value, its words at v -/
def Pr.val (p : Pr) (v : Value) : Array Value := #[.int .i64 p.st, .int .i64 p.pri, .int .i64 p.pl, .int .i64 (p.rg 0), .int .i64 (p.rg 1), .int .i64 (p.rg 2), .int .i64 (p.rg 3), .int .i64 (p.rg 4), .int .i64 (p.rg 5), .int .i64 (p.rg 6), .int .i64 (p.rg 7), .int .i64 (p.rg 8), .int .i64 (p.rg 9), .int .i64 (p.rg 10), .int .i64 (p.rg 11), .int .i64 (p.rg 12), .int .i64 (p.rg 13), .int .i64 (p.rg 14), .int .i64 (p.rg 15), .int .i64 p.pc, .int .i64 p.rel, .int .i64 p.dl, .int .i64 p.un, .bool p.late, .int .i64 p.ob, .int .i64 p.ad, v, .int .i64 p.mis]
theorem val_size (p : Pr) (v : Value) : (p.val v).size = 28 := rfl
def Z28 : Array Value := #[.int .i64 0, .int .i64 0, .int .i64 0, .int .i64 0, .int .i64 0, .int .i64 0, .int .i64 0, .int .i64 0, .int .i64 0, .int .i64 0, .int .i64 0, .int .i64 0, .int .i64 0, .int .i64 0, .int .i64 0, .int .i64 0, .int .i64 0, .int .i64 0, .int .i64 0, .int .i64 0, .int .i64 0, .int .i64 0, .int .i64 0, .bool false, .int .i64 0, .int .i64 0, .slice none 0 0, .int .i64 0]
theorem Kept.setRow {F : Nat → Prop} {a w : World} (h : Kept F a w) {g : Nat} (hg : F g ∨ a.heap.size ≤ g) (cs : Array Value) : Kept F a (w.setRow g cs) :=
  ⟨h.os, h.tape, h.output, by rw [size_setRow]; exact h.size, fun k hk hF => by
    rw [setRow_other w g k cs (fun e => by subst e; rcases hg with h1 | h1; exact hF h1; omega)]
    exact h.block k hk hF⟩
theorem setC {w : World} {g : Nat} {cur : Array Value} {t : TypeId} (o : Nat) (v : Value) (h : w.heap[g]? = some (.cells cur t (0, 0))) : (w.setCell ⟨g, o, none⟩ v).heap[g]? = some (.cells (cur.setIfInBounds o v) t (0, 0)) := by
  simp only [World.setCell, Array.getElem?_modify, if_pos, h]
  rfl
theorem fzc {w : World} {q : Nat} {c : Array Value} {t : TypeId} (h : w.heap[q]? = some (.cells c t (0, 0))) (j : Nat) : w.frozen? ⟨q, j, none⟩ = false := by
  simp [World.frozen?, h]
theorem Try.info48 : (Try.prog.info? 48).map (·.size) = some 28 := by kernel_rfl
set_option maxHeartbeats 4000000 in
theorem copyOf_any {F : Nat → Prop} {a : Option Addr} {m c : Nat} {xs : List Int} (w : World) (A : Array Value) (hA : A.size = 28) (h26 : A[26]? = some (.slice a m c)) (h1c : A.all (·.oneCell') = true) (hz : Zs w F a m c xs) (hF : ∀ k, F k → k < w.heap.size) (hm : m ≤ 1048576) :
    Calls Try.prog 46 #[.agg A] w fun e w' => ∃ ya yc, e = .returned (.agg (A.setIfInBounds 26 (.slice ya m yc))) ∧ w'.ownsRow w.heap.size 2 1 (.slice ya m yc) m (xs.map iv) ∧ Kept No w w' := by
  have k1 : Kept No w ((w.alloc (.cells A 48)).alloc (.cells Z28 48)) := ((Kept.refl No w).alloc _).alloc _
  have hB0 : ((w.alloc (.cells A 48)).alloc (.cells Z28 48)).heap[w.heap.size]? = some (.cells A 48) := ((Kept.refl No _).alloc _).at' (alloc_new _ _) (fun h => h)
  have hB1 : ((w.alloc (.cells A 48)).alloc (.cells Z28 48)).heap[w.heap.size + 1]? = some (.cells Z28 48) := by
    have := alloc_new (w.alloc (.cells A 48)) (.cells Z28 48)
    rwa [World.size_alloc] at this
  have HA : Hid (A.size = 28 ∧ A.all (·.oneCell') = true) := ⟨hA, h1c⟩
  clear h1c
  go_enter Try.func46, Try.ntmps46
  go_upto_region 1 with fail
  rw [show ((w.alloc (Obj.cells A 48)).alloc (Obj.cells #[.int .i64 0, .int .i64 0, .int .i64 0, .int .i64 0, .int .i64 0, .int .i64 0, .int .i64 0, .int .i64 0, .int .i64 0, .int .i64 0, .int .i64 0, .int .i64 0, .int .i64 0, .int .i64 0, .int .i64 0, .int .i64 0, .int .i64 0, .int .i64 0, .int .i64 0, .int .i64 0, .int .i64 0, .int .i64 0, .int .i64 0, .bool false, .int .i64 0, .int .i64 0, .slice none 0 0, .int .i64 0] 48)) = ((w.alloc (.cells A 48)).alloc (.cells Z28 48)) from rfl]
  have cz : ((w.alloc (.cells A 48)).alloc (.cells Z28 48)).cell? ⟨w.heap.size, 26, none⟩ = some (.slice a m c) := by simp [World.cell?, hB0, h26]
  have fz := fzc hB0 26
  have wo := words_any _ (hz.kept k1 (fun _ _ h => h)) hm
  obtain ⟨q1, hq1⟩ : ∃ q, w.heap.size + 1 = q := ⟨_, rfl⟩
  obtain ⟨q0, hq0⟩ : ∃ q, w.heap.size = q := ⟨_, rfl⟩
  have HB : Hid (((w.alloc (.cells A 48)).alloc (.cells Z28 48)).heap[w.heap.size]? = some (.cells A 48) ∧ ((w.alloc (.cells A 48)).alloc (.cells Z28 48)).heap[w.heap.size + 1]? = some (.cells Z28 48) ∧ Kept No w ((w.alloc (.cells A 48)).alloc (.cells Z28 48)) ∧ w.heap.size = q0 ∧ w.heap.size + 1 = q1 ∧ w.heap.size + 2 ≤ ((w.alloc (.cells A 48)).alloc (.cells Z28 48)).heap.size) := ⟨hB0, hB1, k1, hq0, hq1, by rw [World.size_alloc, World.size_alloc]; omega⟩
  have HQ : Hid (w.heap.size = q0 ∧ w.heap.size + 1 = q1) := ⟨hq0, hq1⟩
  clear hB0 hB1 k1 hz h26 hA
  generalize ((w.alloc (.cells A 48)).alloc (.cells Z28 48)) = w1 at *
  rw [hq1, hq0] at HB
  rw [hq0] at cz fz
  simp only [hq1]
  simp only [hq0]
  clear hq1 hq0
  go_upto_region 2 with (go_at_call 40; refine wo.mono ?_; rintro e w2 ⟨ya, yc, rfl, o2, k2⟩; have cz2 := k2.cell cz (fun h => h); have fz2 : w2.frozen? ⟨q0, 26, none⟩ = false := fzc (k2.at' HB.out.1 (fun h => h)) 26; clear wo)
  have e0 := setC 26 (.slice ya m yc) (k2.at' HB.out.1 (fun h => h))
  have e1 : (w2.setCell ⟨q0, 26, none⟩ (.slice ya m yc)).heap[q1]? = some (.cells Z28 48) := by
    have k3 : Kept (fun k => k = q0) w2 (w2.setCell ⟨q0, 26, none⟩ (.slice ya m yc)) := (Kept.refl (fun k => k = q0) w2).setCell (p := ⟨q0, 26, none⟩) (.inl rfl) _
    exact k3.at' (k2.at' HB.out.2.1 (fun h => h)) (fun e => by have := HQ.out.1; have := HQ.out.2; omega)
  have hB1 : (A.setIfInBounds 26 (.slice ya m yc)).size = 28 := by rw [Array.size_setIfInBounds]; exact HA.out.1
  have hB2 : (A.setIfInBounds 26 (.slice ya m yc)).all (·.oneCell') = true := by
    rw [Array.all_eq_true_iff_forall_mem]
    intro x hx
    rcases Array.mem_or_eq_of_mem_setIfInBounds hx with h | h
    · exact (Array.all_eq_true_iff_forall_mem.1 HA.out.2) x h
    · rw [h]; rfl
  have k4 : Kept No w (w2.setCell ⟨q0, 26, none⟩ (.slice ya m yc)) := (HB.out.2.2.1.trans k2 (fun _ e => e.elim)).setCell (.inr (by have := HQ.out.1; show _ ≤ q0; omega)) _
  have o4 : (w2.setCell ⟨q0, 26, none⟩ (.slice ya m yc)).ownsRow w1.heap.size 2 1 (.slice ya m yc) m (xs.map iv) := by
    have k3 : Kept (fun k => k = q0) w2 (w2.setCell ⟨q0, 26, none⟩ (.slice ya m yc)) := (Kept.refl (fun k => k = q0) w2).setCell (p := ⟨q0, 26, none⟩) (.inl rfl) _
    exact k3.owns o2 (fun k hk e => by have := own_at o2 k hk; have := HB.out.2.2.2.2.2; omega)
  have hk1 := HB.out.2.2.1.size
  have hk2 := HB.out.2.2.2.2.2
  clear cz2 fz2 cz fz o2 k2 HA HB
  obtain ⟨B, hBB⟩ : ∃ B, A.setIfInBounds 26 (.slice ya m yc) = B := ⟨_, rfl⟩
  have HBB : Hid (A.setIfInBounds 26 (.slice ya m yc) = B) := hBB
  rw [hBB] at hB1 hB2 e0
  clear hBB
  generalize (w2.setCell ⟨q0, 26, none⟩ (.slice ya m yc)) = w3 at *
  refine wp_region_lit ?_
  refine wpList_load_row rfl 48 (.tmp 1) rfl q0 rfl _ B (0, 0) _ e0 Try.underlying48 rfl (by rw [hB1]; exact Try.info48) ?_
  simp only [Act.put, List.setIfInBounds_toArray, List.set_cons_zero, List.set_cons_succ]
  refine wpList_store_row rfl 48 (.tmp 2) (.tmp 7) rfl q1 B rfl rfl _ Z28 e1 (by rw [hB1]; exact Try.info48) (by rw [hB1]; rfl) hB2 ?_
  simp only [Act.put]
  have hr := setRow_heap w3 q1 Z28 B 48 (0, 0) e1
  have k5 : Kept No w (w3.setRow q1 B) := k4.setRow (.inr (by have := HQ.out.2; omega)) B
  have o5 : (w3.setRow q1 B).ownsRow w.heap.size 2 1 (.slice ya m yc) m (xs.map iv) := by
    have kk : Kept (fun k => k = q1) w3 (w3.setRow q1 B) := (Kept.refl (fun k => k = q1) w3).setRow (.inl rfl) B
    exact own_down (kk.owns o4 (fun k hk e => by have := own_at o4 k hk; have := HQ.out.2; have := HQ.out.1; omega)) hk1
  have HR : Hid ((w3.setRow q1 B).heap[q1]? = some (.cells B 48) ∧ Kept No w (w3.setRow q1 B) ∧ (w3.setRow q1 B).ownsRow w.heap.size 2 1 (.slice ya m yc) m (xs.map iv)) := ⟨hr, k5, o5⟩
  clear hr k5 o5 o4 k4 e0 e1
  generalize w3.setRow q1 B = w4 at *
  go_wp2
  refine bodyPost_ret (results_cell_row rfl _ _ q1 48 B (0, 0) _ rfl HR.out.1 Try.underlying48 rfl (by rw [hB1]; exact Try.info48)) rfl ?_
  exact ⟨ya, yc, by rw [HBB.out], HR.out.2.2, HR.out.2.1⟩
section
variable {w : World} {a : Act} {o : Oper}
theorem er_mv (x : Operand) (ho : o.op = .move x) (v : Value) (hx : a.eval x = v) : (execOp a.eval o).run Try.prog w = .ok (.value v) w := by simp only [execOp, ho, hx]; rfl
theorem er_as (x : Operand) (ho : o.op = .assign x) (v : Value) (hx : a.eval x = v) : (execOp a.eval o).run Try.prog w = .ok (.value v) w := by simp only [execOp, ho, hx]; rfl
theorem er_nil (x : Operand) (ho : o.op = .nilCheck x) (p : Addr) (hx : a.eval x = .pointer (some p)) : (execOp a.eval o).run Try.prog w = .ok (.value (.pointer (some p))) w := by simp only [execOp, ho, hx]; simp [go_sem]
theorem er_p0 (x : Operand) (ho : o.op = .fieldAddr 91 x 0) (g k : Nat) (hx : a.eval x = .pointer (some ⟨g, k, none⟩)) : (execOp a.eval o).run Try.prog w = .ok (.value (.pointer (some ⟨g, k, none⟩))) w := by simp only [execOp, ho, hx]; simp [go_sem, add_none]
theorem er_c_copyOf (x : Operand) (t : TypeId) (ho : o.op = .call { callee := .value (.func 46), args := #[x], argTypes := #[t] }) (v : Value) (hx : a.eval x = v) : (execOp a.eval o).run Try.prog w = .ok (.enter 46 #[v]) w := by
  subst hx
  simp [execOp, ho, go_sem, Act.eval]
end
theorem list_val {ops : Array Oper} {Q : Exit → Act → World → Prop} {a : Act} {w : World} {rest : List Oper} {o : Oper} {v : Value} (hg : o.guard = none) (hr : (execOp a.eval o).run Try.prog w = .ok (.value v) w) (h : wpList Try.prog ops Q rest (a.put o.dst v) w) : wpList Try.prog ops Q (o :: rest) a w := by
  unfold wpList
  rw [if_pos (by simp [Region.wanted, hg])]
  left
  unfold Oper.wp
  rw [hr]
  exact h
theorem list_call {ops : Array Oper} {Q : Exit → Act → World → Prop} {a : Act} {w : World} {rest : List Oper} {o : Oper} (hg : o.guard = none) {f : FuncId} {args : Array Value} (hr : (execOp a.eval o).run Try.prog w = .ok (.enter f args) w) {R : Ending → World → Prop} (hc : Calls Try.prog f args w R) (hR : ∀ e w', R e w' → ∃ v, e = .returned v) (h : ∀ v w', R (.returned v) w' → wpList Try.prog ops Q rest (a.put o.dst v) w') : wpList Try.prog ops Q (o :: rest) a w := by
  refine wpList_plain hg fun K hK => ?_
  unfold Oper.wp
  rw [hr, Oper.upon_enter]
  refine hc.mono fun e w'' hh => ?_
  obtain ⟨v, rfl⟩ := hR e w'' hh
  exact hK _ _ (h v w'' hh)
section
variable {b g cap : Nat} {T : Tt}
theorem val_cell (p : Pr) : ∀ j v, (p.val p.da).toList[j]? = some v → v = p.cell j := by
  intro j v hv
  have hj : j < 28 := by have := (List.getElem?_eq_some_iff.1 hv).1; simpa [Pr.val] using this
  have h32 : ∀ x, x < 32 → x < 28 → (p.val p.da).toList[x]? = some (p.cell x) := cell_cases (by simp [Pr.val, Pr.cell])
  rw [h32 j (by omega) hj] at hv
  exact (Option.some.inj hv).symm
theorem Tw.range {w : World} (h : Tw w b g cap T) {i : Nat} (hi : i < T.n) : w.rangeAt g (i * 32) ((T.ps i).val (T.ps i).da).toList := by
  intro j v hv
  have hj : j < 28 := by have := (List.getElem?_eq_some_iff.1 hv).1; simpa [Pr.val] using this
  rw [h.at' i hi j (by omega), val_cell _ j v hv]
theorem val_one (p : Pr) {a : Option Addr} {m c : Nat} : (p.val (.slice a m c)).all (·.oneCell') = true := by simp [Pr.val, Value.oneCell']
theorem val_set (p : Pr) (u v : Value) : (p.val u).setIfInBounds 26 v = p.val v := rfl
theorem results_ct {P : Program} {fn : Func} {p u : Tmp} {ty : TypeId} (h : fn.results = #[.cell p ty, .tmp u]) (tmps : Array Value) (w : World) (g : Nat) (v : Value)
    (hp : tmps.getD p undef = .pointer (some ⟨g, 0, none⟩)) (hl : (loadVar ty ⟨g, 0, none⟩).run P w = .ok v w) : (results fn tmps).run P w = .ok (.tuple #[v, tmps.getD u undef]) w := by
  have hp' : tmps[p]?.getD undef = .pointer (some ⟨g, 0, none⟩) := by simpa using hp
  simp [results, h, hp', asAddr, hl]
set_option maxHeartbeats 4000000 in
theorem get_yes (w : World) (h : Tw w b g cap T) {i : Nat} (hi : i < T.n) (hn : T.n ≤ 1048576) (hm : (T.ps i).ws.length ≤ 1048576) :
    Calls Try.prog 16 #[.pointer (some ⟨b, 0, none⟩), .int .i64 ((i : Int) + 1)] w fun e w' => ∃ ya yc, e = .returned (.tuple #[.agg ((T.ps i).val (.slice ya (T.ps i).ws.length yc)), .bool true]) ∧ w'.ownsRow w.heap.size 2 1 (.slice ya (T.ps i).ws.length yc) (T.ps i).ws.length ((T.ps i).ws.map iv) ∧ Kept No w w' := by
  have k1 : Kept No w (w.alloc (.cells Z28 48)) := (Kept.refl No w).alloc _
  have hB := alloc_new w (.cells Z28 48)
  have t1 := h.keep k1
  have hr := t1.range hi
  obtain ⟨a, m, c, ed, hz⟩ := t1.da i hi
  have em := hz.len
  have fi := find_yes _ t1 hi hn
  have co := copyOf_any _ ((T.ps i).val (.slice a m c)) rfl rfl (val_one _) hz (fun k hk => hk.2.2) (by omega)
  rw [ed] at hr
  rw [em] at hm ⊢
  have hz28 : w.heap.size < (w.alloc (.cells Z28 48)).heap.size := by rw [World.size_alloc]; omega
  have HB : Hid ((w.alloc (.cells Z28 48)).heap[w.heap.size]? = some (.cells Z28 48) ∧ Kept No w (w.alloc (.cells Z28 48)) ∧ w.heap.size < (w.alloc (.cells Z28 48)).heap.size) := ⟨hB, k1, hz28⟩
  have hr2 : (w.alloc (.cells Z28 48)).rangeAt g (i * 32) ((T.ps i).val (.slice a m c)).toList := hr
  have HR : Hid ((w.alloc (.cells Z28 48)).rangeAt g (i * 32) ((T.ps i).val (.slice a m c)).toList) := hr
  have HV : Hid (∀ v : Value, ((T.ps i).val (.slice a m c)).setIfInBounds 26 v = (T.ps i).val v) := fun v => rfl
  have HO : Hid (∀ ya yc, ((T.ps i).val (.slice ya m yc)).all (·.oneCell') = true ∧ ((T.ps i).val (.slice ya m yc)).size = 28) := fun _ _ => ⟨val_one _, rfl⟩
  have HS : Hid (((T.ps i).val (.slice a m c)).toList.length = 28 ∧ ((T.ps i).val (.slice a m c)).toList.toArray = (T.ps i).val (.slice a m c)) := ⟨rfl, rfl⟩
  have ez : (w.alloc (.cells #[.int .i64 0, .int .i64 0, .int .i64 0, .int .i64 0, .int .i64 0, .int .i64 0, .int .i64 0, .int .i64 0, .int .i64 0, .int .i64 0, .int .i64 0, .int .i64 0, .int .i64 0, .int .i64 0, .int .i64 0, .int .i64 0, .int .i64 0, .int .i64 0, .int .i64 0, .int .i64 0, .int .i64 0, .int .i64 0, .int .i64 0, .bool false, .int .i64 0, .int .i64 0, .slice none 0 0, .int .i64 0] 48)) = w.alloc (.cells Z28 48) := rfl
  clear h k1 hB t1 hr hz hr2 ed em
  generalize (T.ps i).ws = xs at *
  go_enter Try.func16, Try.ntmps16
  go_upto_region 1 with fail
  clear ez
  generalize (w.alloc (.cells Z28 48)) = w1 at *
  go_upto_region 4 with (go_at_call 34; refine fi.mono ?_; rintro e w2 ⟨rfl, e2⟩; subst e2; clear fi)
  refine wp_region_lit ?_
  refine list_val rfl (er_mv _ rfl (.pointer (some ⟨g, i * 32, none⟩)) rfl) ?_
  simp only [Act.put, List.setIfInBounds_toArray, List.set_cons_zero, List.set_cons_succ]
  refine list_val rfl (er_nil _ rfl ⟨g, i * 32, none⟩ rfl) ?_
  simp only [Act.put, List.setIfInBounds_toArray, List.set_cons_zero, List.set_cons_succ]
  refine list_val rfl (er_p0 _ rfl g (i * 32) rfl) ?_
  simp only [Act.put, List.setIfInBounds_toArray, List.set_cons_zero, List.set_cons_succ]
  refine wpList_load_mid rfl 48 (.tmp 15) rfl g (i * 32) rfl _ _ HR.out Try.underlying48 rfl (by rw [HS.out.1]; exact Try.info48) ?_
  rw [show ((T.ps i).val (.slice a m c)).toList.toArray = (T.ps i).val (.slice a m c) from rfl]
  simp only [Act.put, List.setIfInBounds_toArray, List.set_cons_zero, List.set_cons_succ]
  refine list_call rfl (er_c_copyOf (.tmp 16) 48 rfl _ rfl) co (fun e w' ⟨ya, yc, he, _⟩ => ⟨_, he⟩) ?_
  rintro v w3 ⟨ya, yc, he, o3, k3⟩
  rw [HV.out] at he
  injection he with he
  subst he
  simp only [Act.put, List.setIfInBounds_toArray, List.set_cons_zero, List.set_cons_succ]
  have e3 := k3.at' HB.out.1 (fun h => h)
  refine wpList_store_row rfl 48 (.tmp 4) (.tmp 17) rfl w.heap.size ((T.ps i).val (.slice ya m yc)) rfl rfl _ Z28 e3 (by rw [(HO.out ya yc).2]; exact Try.info48) (by rw [(HO.out ya yc).2]; rfl) (HO.out ya yc).1 ?_
  simp only [Act.put]
  have hr := setRow_heap w3 w.heap.size Z28 ((T.ps i).val (.slice ya m yc)) 48 (0, 0) e3
  have k5 : Kept No w (w3.setRow w.heap.size ((T.ps i).val (.slice ya m yc))) := (HB.out.2.1.trans k3 (fun _ e => e.elim)).setRow (.inr (Nat.le_refl _)) _
  have o5 : (w3.setRow w.heap.size ((T.ps i).val (.slice ya m yc))).ownsRow w.heap.size 2 1 (.slice ya m yc) m (xs.map iv) := by
    have kk : Kept (fun k => k = w.heap.size) w3 (w3.setRow w.heap.size ((T.ps i).val (.slice ya m yc))) := (Kept.refl (fun k => k = w.heap.size) w3).setRow (.inl rfl) _
    exact own_down (kk.owns o3 (fun k hk e => by have := own_at o3 k hk; have := HB.out.2.2; omega)) (Nat.le_of_lt HB.out.2.2)
  have HZ : Hid ((w3.setRow w.heap.size ((T.ps i).val (.slice ya m yc))).heap[w.heap.size]? = some (.cells ((T.ps i).val (.slice ya m yc)) 48) ∧ Kept No w (w3.setRow w.heap.size ((T.ps i).val (.slice ya m yc))) ∧ (w3.setRow w.heap.size ((T.ps i).val (.slice ya m yc))).ownsRow w.heap.size 2 1 (.slice ya m yc) m (xs.map iv)) := ⟨hr, k5, o5⟩
  clear hr k5 o5 o3 k3 e3 co
  generalize (w3.setRow w.heap.size ((T.ps i).val (.slice ya m yc))) = w4 at *
  go_wp2
  refine bodyPost_ret (results_ct rfl _ _ w.heap.size (.agg ((T.ps i).val (.slice ya m yc))) rfl (run_loadVar_row (P := Try.prog) _ w.heap.size 48 48 _ (0, 0) _ HZ.out.1 Try.underlying48 rfl (by rw [(HO.out ya yc).2]; exact Try.info48))) rfl ?_
  exact ⟨ya, yc, rfl, HZ.out.2.2, HZ.out.2.1⟩
end
end Go.Proofs.Ytofkacfchkimiaa
