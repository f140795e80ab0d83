/-
  A row of a table of partitions: what it finds of one.
-/
import Derived.Test.YtggejpccjmolhaaGreatDoorCEach
import Derived.Test.YtggejpccjmolhaaGreatDoorG11
import Derived.BigQuiet
namespace Go.Proofs.YtggejpccjmolhaaGreatDoor
open Go.RowKit
set_option linter.unusedVariables false
set_option maxRecDepth 100000

section
variable {P : Program} {ops : Array Oper} {Q : Exit → Act → World → Prop} {rest : List Oper} {op : Oper} {a : Act} {w : World}
theorem wg_val {w' : World} {v : Value} (hw : Region.wanted op (yielded ops a.tmps) = true) (hr : (execOp a.eval op).run P w = .ok (.value v) w') (h : wpList P ops Q rest (a.put op.dst v) w') : wpList P ops Q (op :: rest) a w :=
  BigFrame.wpList_want hw fun K hK => by unfold Oper.wp; rw [hr]; exact hK _ _ h
theorem l_take (k : Nat) {v : Value} (hd : op.dst = some k) (hw : Region.wanted op (yielded ops a.tmps) = true) (hr : (execOp a.eval op).run P w = .ok (.value v) w) (h : wpList P ops Q rest (a.put (some k) v) w) : wpList P ops Q (op :: rest) a w :=
  wg_val hw hr (by rw [hd]; exact h)
theorem l_make (k : Nat) {v : Value} {w' : World} (hd : op.dst = some k) (hw : Region.wanted op (yielded ops a.tmps) = true) (hr : (execOp a.eval op).run P w = .ok (.value v) w') (h : wpList P ops Q rest (a.put (some k) v) w') : wpList P ops Q (op :: rest) a w :=
  wg_val hw hr (by rw [hd]; exact h)
theorem l_turn {w' : World} (hd : op.dst = none) (hw : Region.wanted op (yielded ops a.tmps) = true) (hr : (execOp a.eval op).run P w = .ok .skip w') (h : wpList P ops Q rest a w') : wpList P ops Q (op :: rest) a w :=
  BigFrame.wpList_want hw fun K hK => by unfold Oper.wp; rw [hr]; exact hK _ _ (by rw [hd]; exact h)
end

def Bk (w : World) (b : Nat) (cs : List Value) (t : TypeId) : Prop := w.heap[b]? = some (.cells cs.toArray t (0, 0))
theorem Bk.kept {G : Nat → Prop} {w w' : World} {b : Nat} {cs : List Value} {t : TypeId} (h : Bk w b cs t) (k : Kept G w w') (hb : ¬ G b) : Bk w' b cs t := k.at' h hb
theorem Bk.cell {w : World} {b : Nat} {cs : List Value} {t : TypeId} (h : Bk w b cs t) {j : Nat} {v : Value} (hj : cs[j]? = some v) : w.cell? ⟨b, j, none⟩ = some v := by
  unfold Bk at h; simp [World.cell?, h, hj]
theorem Bk.fz {w : World} {b : Nat} {cs : List Value} {t : TypeId} (h : Bk w b cs t) (j : Nat) : w.frozen? ⟨b, j, none⟩ = false := by
  unfold Bk at h; simp [World.frozen?, h]
theorem Bk.set {w : World} {b : Nat} {cs : List Value} {t : TypeId} (h : Bk w b cs t) (j : Nat) (v : Value) : Bk (w.setCell ⟨b, j, none⟩ v) b (cs.set j v) t := by
  unfold Bk at h ⊢
  simp [World.setCell, Array.getElem?_modify, h]
theorem Bk.other {w : World} {b b' : Nat} {cs : List Value} {t : TypeId} (h : Bk w b cs t) (j : Nat) (v : Value) (hne : b ≠ b') : Bk (w.setCell ⟨b', j, none⟩ v) b cs t :=
  ((Kept.refl (fun k => k = b') w).setCell (p := ⟨b', j, none⟩) (.inl rfl) v).at' h hne
theorem Bk.lt {w : World} {b : Nat} {cs : List Value} {t : TypeId} (h : Bk w b cs t) : b < w.heap.size := heap_lt h
theorem Bk.two (w : World) (o : Obj) (ds : List Value) (t : TypeId) : Bk ((w.alloc o).alloc (.cells ds.toArray t)) (w.heap.size + 1) ds t := by
  have e : (w.alloc o).heap.size = w.heap.size + 1 := by simp
  have h := heap_alloc_new (w.alloc o) (.cells ds.toArray t)
  rw [e] at h
  exact h


theorem Bk.range {w : World} {b : Nat} {cs : List Value} {t : TypeId} (h : Bk w b cs t) : w.rangeAt b 0 cs := fun j v hv => by
  rw [Nat.zero_add]; exact h.cell hv
theorem ldPn {w : World} {b : Nat} {cs : List Value} (h : w.rangeAt b 0 cs) (hl : cs.length = 21) : (Instr.loadAt 59 (.pointer (some ⟨b, 0, none⟩))).run Tryz.prog w = .ok (.agg cs.toArray) w :=
  run_loadAt_mid w b 0 _ cs _ h Tryz.underlying59 rfl (by rw [hl]; kernel_rfl)
theorem er_fR1 {w : World} {a : Act} {o : Oper} (x : Operand) (ho : o.op = .fieldAddr 132 x 1) (g : Nat) (hx : a.eval x = .pointer (some ⟨g, 0, none⟩)) : (execOp a.eval o).run Tryz.prog w = .ok (.value (.pointer (some ⟨g, 1, none⟩))) w := by simp only [execOp, ho, hx]; simp [go_sem, add_none]
theorem er_neqF {w : World} {a : Act} {o : Oper} (x : Operand) (ho : o.op = .binOp .neq 48 x (.const .nilFunc) 48) (k : Nat) (caps : Array Value) (hx : a.eval x = .func (.func k) #[] caps) : (execOp a.eval o).run Tryz.prog w = .ok (.value (.bool true)) w := by
  have q1 : ∀ w : World, (binOp .neq 48 (.func (.func k) #[] caps) .nilFunc).run Tryz.prog w = .ok (.bool true) w := fun w => by kernel_rfl
  simp only [execOp, ho, hx]
  simp [go_sem, q1, Act.eval]

set_option maxHeartbeats 4000000 in
theorem findsPn_alone_true (err : Int) (k : Nat) (caps : Array Value) (cs : List Value) (hl : cs.length = 21) (aa : Option Addr) (an ac : Nat) (w : World) (hen : Enters Tryz.prog k)
    (hc : ∀ w', Kept No w w' → Calls Tryz.prog k (#[.agg cs.toArray] ++ caps) w' fun e w'' => e = .returned (.bool true) ∧ Kept No w' w'') :
    Calls Tryz.prog 73 #[.agg #[.int .i64 err, .func (.func k) #[] caps, .nilFunc, .nilFunc], .agg cs.toArray, .slice aa an ac] w fun e w' => e = .returned (.int .i64 (0)) ∧ Kept No w w' := by
  have HK : Hid (Kept No w ((w.alloc (.cells #[.int .i64 err, .func (.func k) #[] caps, .nilFunc, .nilFunc] 132)).alloc (.cells cs.toArray 59))) := ((Kept.refl No w).alloc _).alloc _
  have hc1 := hc _ HK.out
  have HLD : Hid ((Instr.loadAt 59 (.pointer (some ⟨w.heap.size + 1, 0, none⟩))).run Tryz.prog ((w.alloc (.cells #[.int .i64 err, .func (.func k) #[] caps, .nilFunc, .nilFunc] 132)).alloc (.cells cs.toArray 59)) = .ok (.agg cs.toArray) ((w.alloc (.cells #[.int .i64 err, .func (.func k) #[] caps, .nilFunc, .nilFunc] 132)).alloc (.cells cs.toArray 59))) := ldPn (Bk.two w _ cs _).range hl
  have HM : Hid (∀ w', Kept No ((w.alloc (.cells #[.int .i64 err, .func (.func k) #[] caps, .nilFunc, .nilFunc] 132)).alloc (.cells cs.toArray 59)) w' → w'.cell? ⟨w.heap.size, 0, none⟩ = some (.int .i64 err) ∧ w'.cell? ⟨w.heap.size, 1, none⟩ = some (.func (.func k) #[] caps) ∧ w'.cell? ⟨w.heap.size, 2, none⟩ = some (.nilFunc) ∧ w'.cell? ⟨w.heap.size, 3, none⟩ = some (.nilFunc)) := fun w' k => ⟨k.cell (by simp) (fun h => h), k.cell (by simp) (fun h => h), k.cell (by simp) (fun h => h), k.cell (by simp) (fun h => h)⟩
  clear hc
  unfold Enters at hen
  have q1 : ∀ w : World, (binOp .neq 48 (.func (.func k) #[] caps) .nilFunc).run Tryz.prog w = .ok (.bool true) w := fun w => by kernel_rfl
  have q2 : ∀ w : World, (binOp .neq 129 (.nilFunc) .nilFunc).run Tryz.prog w = .ok (.bool false) w := fun w => by kernel_rfl
  have q3 : ∀ w : World, (binOp .neq 130 (.nilFunc) .nilFunc).run Tryz.prog w = .ok (.bool false) w := fun w => by kernel_rfl
  go_enter Tryz.func73, Tryz.ntmps73
  go_upto_region 1 with fail
  generalize (w.alloc (.cells #[.int .i64 err, .func (.func k) #[] caps, .nilFunc, .nilFunc] 132)).alloc (.cells cs.toArray 59) = w0 at *
  generalize Value.agg cs.toArray = av at *
  obtain ⟨n0, n1, n2, n3⟩ := HM.out w0 (Kept.refl No w0)
  have L1 : (Instr.loadAt 48 (.pointer (some ⟨w.heap.size, 1, none⟩))).run Tryz.prog w0 = .ok (.func (.func k) #[] caps) w0 := by simp [go_sem, n1]
  have HL1 : Hid ((Instr.loadAt 48 (.pointer (some ⟨w.heap.size, 1, none⟩))).run Tryz.prog w0 = .ok (.func (.func k) #[] caps) w0) := L1
  clear L1
  refine wp_region_lit ?_
  refine l_take 9 rfl rfl (er_fR1 _ rfl w.heap.size rfl) ?_
  simp only [Act.put, List.setIfInBounds_toArray, List.set_cons_zero, List.set_cons_succ]
  refine l_take 10 rfl rfl (er_ld _ _ rfl _ _ rfl HL1.out) ?_
  simp only [Act.put, List.setIfInBounds_toArray, List.set_cons_zero, List.set_cons_succ]
  refine l_take 11 rfl rfl (er_neqF _ rfl k caps rfl) ?_
  simp only [Act.put, List.setIfInBounds_toArray, List.set_cons_zero, List.set_cons_succ]
  refine l_take 12 rfl rfl (er_mv _ rfl (.bool true) rfl) ?_
  simp only [Act.put, List.setIfInBounds_toArray, List.set_cons_zero, List.set_cons_succ]
  refine l_take 13 rfl rfl (er_fR1 _ rfl w.heap.size rfl) ?_
  simp only [Act.put, List.setIfInBounds_toArray, List.set_cons_zero, List.set_cons_succ]
  refine l_take 14 rfl rfl (er_ld _ _ rfl _ _ rfl HL1.out) ?_
  simp only [Act.put, List.setIfInBounds_toArray, List.set_cons_zero, List.set_cons_succ]
  refine l_take 15 rfl rfl (er_ld _ _ rfl _ _ rfl HLD.out) ?_
  simp only [Act.put, List.setIfInBounds_toArray, List.set_cons_zero, List.set_cons_succ]
  go_wp2_with (first | (go_at_fn k; refine hc1.mono ?_; rintro e w' ⟨rfl, hk⟩; have HK2 : Hid (Kept No w w') := HK.out.trans hk (fun _ h => h.elim); obtain ⟨m0, m1, m2, m3⟩ := HM.out _ hk; clear hk))
  go_ret
  exact ⟨rfl, HK2.out⟩

set_option maxHeartbeats 4000000 in
theorem findsPn_alone_false (err : Int) (k : Nat) (caps : Array Value) (cs : List Value) (hl : cs.length = 21) (aa : Option Addr) (an ac : Nat) (w : World) (hen : Enters Tryz.prog k)
    (hc : ∀ w', Kept No w w' → Calls Tryz.prog k (#[.agg cs.toArray] ++ caps) w' fun e w'' => e = .returned (.bool false) ∧ Kept No w' w'') :
    Calls Tryz.prog 73 #[.agg #[.int .i64 err, .func (.func k) #[] caps, .nilFunc, .nilFunc], .agg cs.toArray, .slice aa an ac] w fun e w' => e = .returned (.int .i64 (err)) ∧ Kept No w w' := by
  have HK : Hid (Kept No w ((w.alloc (.cells #[.int .i64 err, .func (.func k) #[] caps, .nilFunc, .nilFunc] 132)).alloc (.cells cs.toArray 59))) := ((Kept.refl No w).alloc _).alloc _
  have hc1 := hc _ HK.out
  have HLD : Hid ((Instr.loadAt 59 (.pointer (some ⟨w.heap.size + 1, 0, none⟩))).run Tryz.prog ((w.alloc (.cells #[.int .i64 err, .func (.func k) #[] caps, .nilFunc, .nilFunc] 132)).alloc (.cells cs.toArray 59)) = .ok (.agg cs.toArray) ((w.alloc (.cells #[.int .i64 err, .func (.func k) #[] caps, .nilFunc, .nilFunc] 132)).alloc (.cells cs.toArray 59))) := ldPn (Bk.two w _ cs _).range hl
  have HM : Hid (∀ w', Kept No ((w.alloc (.cells #[.int .i64 err, .func (.func k) #[] caps, .nilFunc, .nilFunc] 132)).alloc (.cells cs.toArray 59)) w' → w'.cell? ⟨w.heap.size, 0, none⟩ = some (.int .i64 err) ∧ w'.cell? ⟨w.heap.size, 1, none⟩ = some (.func (.func k) #[] caps) ∧ w'.cell? ⟨w.heap.size, 2, none⟩ = some (.nilFunc) ∧ w'.cell? ⟨w.heap.size, 3, none⟩ = some (.nilFunc)) := fun w' k => ⟨k.cell (by simp) (fun h => h), k.cell (by simp) (fun h => h), k.cell (by simp) (fun h => h), k.cell (by simp) (fun h => h)⟩
  clear hc
  unfold Enters at hen
  have q1 : ∀ w : World, (binOp .neq 48 (.func (.func k) #[] caps) .nilFunc).run Tryz.prog w = .ok (.bool true) w := fun w => by kernel_rfl
  have q2 : ∀ w : World, (binOp .neq 129 (.nilFunc) .nilFunc).run Tryz.prog w = .ok (.bool false) w := fun w => by kernel_rfl
  have q3 : ∀ w : World, (binOp .neq 130 (.nilFunc) .nilFunc).run Tryz.prog w = .ok (.bool false) w := fun w => by kernel_rfl
  go_enter Tryz.func73, Tryz.ntmps73
  go_upto_region 1 with fail
  generalize (w.alloc (.cells #[.int .i64 err, .func (.func k) #[] caps, .nilFunc, .nilFunc] 132)).alloc (.cells cs.toArray 59) = w0 at *
  generalize Value.agg cs.toArray = av at *
  obtain ⟨n0, n1, n2, n3⟩ := HM.out w0 (Kept.refl No w0)
  have L1 : (Instr.loadAt 48 (.pointer (some ⟨w.heap.size, 1, none⟩))).run Tryz.prog w0 = .ok (.func (.func k) #[] caps) w0 := by simp [go_sem, n1]
  have HL1 : Hid ((Instr.loadAt 48 (.pointer (some ⟨w.heap.size, 1, none⟩))).run Tryz.prog w0 = .ok (.func (.func k) #[] caps) w0) := L1
  clear L1
  refine wp_region_lit ?_
  refine l_take 9 rfl rfl (er_fR1 _ rfl w.heap.size rfl) ?_
  simp only [Act.put, List.setIfInBounds_toArray, List.set_cons_zero, List.set_cons_succ]
  refine l_take 10 rfl rfl (er_ld _ _ rfl _ _ rfl HL1.out) ?_
  simp only [Act.put, List.setIfInBounds_toArray, List.set_cons_zero, List.set_cons_succ]
  refine l_take 11 rfl rfl (er_neqF _ rfl k caps rfl) ?_
  simp only [Act.put, List.setIfInBounds_toArray, List.set_cons_zero, List.set_cons_succ]
  refine l_take 12 rfl rfl (er_mv _ rfl (.bool true) rfl) ?_
  simp only [Act.put, List.setIfInBounds_toArray, List.set_cons_zero, List.set_cons_succ]
  refine l_take 13 rfl rfl (er_fR1 _ rfl w.heap.size rfl) ?_
  simp only [Act.put, List.setIfInBounds_toArray, List.set_cons_zero, List.set_cons_succ]
  refine l_take 14 rfl rfl (er_ld _ _ rfl _ _ rfl HL1.out) ?_
  simp only [Act.put, List.setIfInBounds_toArray, List.set_cons_zero, List.set_cons_succ]
  refine l_take 15 rfl rfl (er_ld _ _ rfl _ _ rfl HLD.out) ?_
  simp only [Act.put, List.setIfInBounds_toArray, List.set_cons_zero, List.set_cons_succ]
  go_wp2_with (first | (go_at_fn k; refine hc1.mono ?_; rintro e w' ⟨rfl, hk⟩; have HK2 : Hid (Kept No w w') := HK.out.trans hk (fun _ h => h.elim); obtain ⟨m0, m1, m2, m3⟩ := HM.out _ hk; clear hk))
  go_ret
  exact ⟨rfl, HK2.out⟩

set_option maxHeartbeats 4000000 in
theorem findsPn_inner (err : Int) (k : Nat) (caps : Array Value) (cs : List Value) (hl : cs.length = 21) (aa : Option Addr) (an ac : Nat) (w : World) (hg : Gl w) (hen : Enters Tryz.prog k) (fo : Option (Int × Int))
    (hc : ∀ w', Kept No w w' → Calls Tryz.prog k (#[.agg cs.toArray] ++ caps) w' fun e w'' => e = .returned (fv fo) ∧ Kept No w' w'') :
    Calls Tryz.prog 73 #[.agg #[.int .i64 err, .nilFunc, .nilFunc, .func (.func k) #[] caps], .agg cs.toArray, .slice aa an ac] w fun e w' => e = .returned (.int .i64 (fe fo)) ∧ Kept No w w' := by
  have HK : Hid (Kept No w ((w.alloc (.cells #[.int .i64 err, .nilFunc, .nilFunc, .func (.func k) #[] caps] 132)).alloc (.cells cs.toArray 59))) := ((Kept.refl No w).alloc _).alloc _
  have hc1 := hc _ HK.out
  have HLD : Hid ((Instr.loadAt 59 (.pointer (some ⟨w.heap.size + 1, 0, none⟩))).run Tryz.prog ((w.alloc (.cells #[.int .i64 err, .nilFunc, .nilFunc, .func (.func k) #[] caps] 132)).alloc (.cells cs.toArray 59)) = .ok (.agg cs.toArray) ((w.alloc (.cells #[.int .i64 err, .nilFunc, .nilFunc, .func (.func k) #[] caps] 132)).alloc (.cells cs.toArray 59))) := ldPn (Bk.two w _ cs _).range hl
  have HM : Hid (∀ w', Kept No ((w.alloc (.cells #[.int .i64 err, .nilFunc, .nilFunc, .func (.func k) #[] caps] 132)).alloc (.cells cs.toArray 59)) w' → w'.cell? ⟨w.heap.size, 0, none⟩ = some (.int .i64 err) ∧ w'.cell? ⟨w.heap.size, 1, none⟩ = some (.nilFunc) ∧ w'.cell? ⟨w.heap.size, 2, none⟩ = some (.nilFunc) ∧ w'.cell? ⟨w.heap.size, 3, none⟩ = some (.func (.func k) #[] caps)) := fun w' k => ⟨k.cell (by simp) (fun h => h), k.cell (by simp) (fun h => h), k.cell (by simp) (fun h => h), k.cell (by simp) (fun h => h)⟩
  have HG : Hid (Gl w) := hg
  clear hg
  clear hc
  unfold Enters at hen
  have q1 : ∀ w : World, (binOp .neq 48 (.nilFunc) .nilFunc).run Tryz.prog w = .ok (.bool false) w := fun w => by kernel_rfl
  have q2 : ∀ w : World, (binOp .neq 129 (.nilFunc) .nilFunc).run Tryz.prog w = .ok (.bool false) w := fun w => by kernel_rfl
  have q3 : ∀ w : World, (binOp .neq 130 (.func (.func k) #[] caps) .nilFunc).run Tryz.prog w = .ok (.bool true) w := fun w => by kernel_rfl
  go_enter Tryz.func73, Tryz.ntmps73
  go_upto_region 1 with fail
  generalize (w.alloc (.cells #[.int .i64 err, .nilFunc, .nilFunc, .func (.func k) #[] caps] 132)).alloc (.cells cs.toArray 59) = w0 at *
  generalize Value.agg cs.toArray = av at *
  obtain ⟨n0, n1, n2, n3⟩ := HM.out w0 (Kept.refl No w0)
  go_wp2_with (first | (refine l_take 40 rfl rfl (er_ld _ _ rfl _ _ rfl HLD.out) ?_) | (go_at_fn k; refine hc1.mono ?_; rintro e w' ⟨rfl, hk⟩; have HK2 : Hid (Kept No w w') := HK.out.trans hk (fun _ h => h.elim); obtain ⟨m0, m1, m2, m3⟩ := HM.out _ hk; clear hk) | (go_at_call 43; refine (told_any fo _ (HG.out.kept HK2.out)).mono ?_; rintro e w3 ⟨rfl, hk⟩; have HK3 : Hid (Kept No w w3) := HK2.out.trans hk (fun _ h => h.elim); clear hk))
  go_ret
  exact ⟨rfl, HK3.out⟩

end Go.Proofs.YtggejpccjmolhaaGreatDoor
