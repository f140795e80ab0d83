/-
  sameServer, sameMemory, sameWork, sameObjects, samePart.
-/
import Derived.Test.YtdohjhhflfnncaaDoorFEq
import Derived.Test.YtdohjhhflfnncaaDoorCHeld
import Derived.DeepKeys
import Derived.ChangeKeysEq
namespace Go.Proofs.YtdohjhhflfnncaaDoor
open Go.RowKit
set_option linter.unusedVariables false
set_option maxRecDepth 100000

section
variable {ops : Array Oper} {rest : List Oper} {op : Oper} {a : Act} {w : World} {Q : Exit → Act → World → Prop}
theorem wg_val {P : Program} {w' : World} {v : Value} (hw : Region.wanted op (yielded ops a.tmps) = true) (hr : (execOp a.eval op).run P w = .ok (.value v) w') (h : wpList P ops Q rest (a.put op.dst v) w') : wpList P ops Q (op :: rest) a w :=
  BigFrame.wpList_want hw fun K hK => by unfold Oper.wp; rw [hr]; exact hK _ _ h
end
section
variable {P : Program} {ops : Array Oper} {Q : Exit → Act → World → Prop} {rest : List Oper} {op : Oper} {a : Act} {w : World}
theorem l_take (k : Nat) {v : Value} (hd : op.dst = some k) (hw : Region.wanted op (yielded ops a.tmps) = true) (hr : (execOp a.eval op).run P w = .ok (.value v) w) (h : wpList P ops Q rest (a.put (some k) v) w) : wpList P ops Q (op :: rest) a w :=
  wg_val hw hr (by rw [hd]; exact h)
theorem l_make (k : Nat) {v : Value} {w' : World} (hd : op.dst = some k) (hw : Region.wanted op (yielded ops a.tmps) = true) (hr : (execOp a.eval op).run P w = .ok (.value v) w') (h : wpList P ops Q rest (a.put (some k) v) w') : wpList P ops Q (op :: rest) a w :=
  wg_val hw hr (by rw [hd]; exact h)
theorem l_turn {w' : World} (hd : op.dst = none) (hw : Region.wanted op (yielded ops a.tmps) = true) (hr : (execOp a.eval op).run P w = .ok .skip w') (h : wpList P ops Q rest a w') : wpList P ops Q (op :: rest) a w :=
  BigFrame.wpList_want hw fun K hK => by unfold Oper.wp; rw [hr]; exact hK _ _ (by rw [hd]; exact h)
theorem l_call (k : Nat) {f : FuncId} {args : Array Value} {R : Ending → World → Prop} (hd : op.dst = some k) (hw : Region.wanted op (yielded ops a.tmps) = true) (hr : (execOp a.eval op).run P w = .ok (.enter f args) w) (hc : Calls P f args w R)
    (h : ∀ e w', R e w' → ∃ v, e = .returned v ∧ wpList P ops Q rest (a.put (some k) v) w') : wpList P ops Q (op :: rest) a w :=
  BigFrame.wpList_want hw fun K hK => by
    unfold Oper.wp
    rw [hr]
    refine hc.mono ?_
    intro e w' he
    obtain ⟨v, rfl, h2⟩ := h e w' he
    exact hK _ _ (by rw [hd]; exact h2)
end


theorem box_cell (w : World) (A : Array Value) (t : TypeId) (k : Nat) : (w.alloc (.cells A t)).cell? ⟨w.heap.size, k, none⟩ = A[k]? := cell_blk (alloc_new w _) k
theorem box_two (w : World) (A A' : Array Value) (t : TypeId) (k : Nat) : ((w.alloc (.cells A t)).alloc (.cells A' t)).cell? ⟨w.heap.size + 1, k, none⟩ = A'[k]? := by
  have := cell_blk (alloc_new (w.alloc (.cells A t)) (.cells A' t)) k
  rw [World.size_alloc] at this
  exact this
theorem box_old (w : World) (A A' : Array Value) (t : TypeId) (k : Nat) (v : Value) (h : A[k]? = some v) : ((w.alloc (.cells A t)).alloc (.cells A' t)).cell? ⟨w.heap.size, k, none⟩ = some v :=
  ((Kept.refl No _).alloc _).cell ((box_cell w A t k).trans h) (fun h => h)

set_option maxHeartbeats 4000000 in
theorem server_yes {A A' : Array Value} {p0 p1 p2 p3 : Int} (w : World) (a0 : A[0]? = some (.int .i64 p0)) (a1 : A[1]? = some (.int .i64 p1)) (a2 : A[2]? = some (.int .i64 p2)) (a3 : A[3]? = some (.int .i64 p3)) (b0 : A'[0]? = some (.int .i64 p0)) (b1 : A'[1]? = some (.int .i64 p1)) (b2 : A'[2]? = some (.int .i64 p2)) (b3 : A'[3]? = some (.int .i64 p3)) :
    Calls Tryd.prog 24 #[.agg A, .agg A'] w fun e w' => e = .returned (.bool true) ∧ Kept No w w' := by
  have k1 : Kept No w ((w.alloc (.cells A 37)).alloc (.cells A' 37)) := ((Kept.refl No w).alloc _).alloc _
  have x0 := box_old w A A' 37 0 _ a0
  have x1 := box_old w A A' 37 1 _ a1
  have x2 := box_old w A A' 37 2 _ a2
  have x3 := box_old w A A' 37 3 _ a3
  have y0 := (box_two w A A' 37 0).trans b0
  have y1 := (box_two w A A' 37 1).trans b1
  have y2 := (box_two w A A' 37 2).trans b2
  have y3 := (box_two w A A' 37 3).trans b3
  have HK := hid k1
  clear a0 a1 a2 a3 b0 b1 b2 b3 k1
  go_enter Tryd.func24, Tryd.ntmps24
  go_wp2
  go_ret
  exact ⟨rfl, HK.out⟩

/-! ### the parts of a partition -/
set_option maxHeartbeats 4000000 in
theorem memory_yes {F : Nat → Prop} {A A' : Array Value} {p4 p5 : Int} {a : Option Addr} {n c : Nat} {xs : List Int} (w : World) (a4 : A[4]? = some (.int .i64 p4)) (a5 : A[5]? = some (.int .i64 p5)) (a6 : A[6]? = some (.slice a n c)) (b4 : A'[4]? = some (.int .i64 p4)) (b5 : A'[5]? = some (.int .i64 p5)) (b6 : A'[6]? = some (.slice a n c)) (h : Ls 1 elI w F a n c xs) :
    Calls Tryd.prog 34 #[.agg A, .agg A'] w fun e w' => e = .returned (.bool true) ∧ Kept No w w' := by
  have k1 : Kept No w ((w.alloc (.cells A 37)).alloc (.cells A' 37)) := ((Kept.refl No w).alloc _).alloc _
  have cE := eq_w64 _ (h.kept k1 (fun _ _ h => h) (elI_kept k1 (fun _ _ h => h)))
  have x4 := box_old w A A' 37 4 _ a4
  have x5 := box_old w A A' 37 5 _ a5
  have x6 := box_old w A A' 37 6 _ a6
  have y4 := (box_two w A A' 37 4).trans b4
  have y5 := (box_two w A A' 37 5).trans b5
  have y6 := (box_two w A A' 37 6).trans b6
  have HK := hid k1
  clear a4 a5 a6 b4 b5 b6 k1 h
  go_enter Tryd.func34, Tryd.ntmps34
  go_wp2_with (go_at_call 42; refine cE.mono ?_; rintro e w1 ⟨rfl, k2⟩)
  go_ret
  exact ⟨rfl, HK.out.trans k2 (fun _ h => .inl h)⟩

set_option maxHeartbeats 4000000 in
theorem objects_yes {F : Nat → Prop} {A A' : Array Value} {a a' a'' : Option Addr} {n c n' c' n'' c'' : Nat} {xs : List Sm} {ys : List Bool} {zs : List Bf} (w : World) (a4 : A[18]? = some (.slice a n c)) (a5 : A[19]? = some (.slice a' n' c')) (a6 : A[20]? = some (.slice a'' n'' c'')) (b4 : A'[18]? = some (.slice a n c)) (b5 : A'[19]? = some (.slice a' n' c')) (b6 : A'[20]? = some (.slice a'' n'' c'')) (h : Ls 2 elSm w F a n c xs) (h' : Ls 1 elB w F a' n' c' ys) (h'' : Ls 2 elBf w F a'' n'' c'' zs) :
    Calls Tryd.prog 36 #[.agg A, .agg A'] w fun e w' => e = .returned (.bool true) ∧ Kept No w w' := by
  have k1 : Kept No w ((w.alloc (.cells A 37)).alloc (.cells A' 37)) := ((Kept.refl No w).alloc _).alloc _
  have cE := eq_Sm _ (h.kept k1 (fun _ _ h => h) (elSm_kept k1 (fun _ _ h => h)))
  have x4 := box_old w A A' 37 18 _ a4
  have x5 := box_old w A A' 37 19 _ a5
  have x6 := box_old w A A' 37 20 _ a6
  have y4 := (box_two w A A' 37 18).trans b4
  have y5 := (box_two w A A' 37 19).trans b5
  have y6 := (box_two w A A' 37 20).trans b6
  have HK : Hid (Kept No w ((w.alloc (.cells A 37)).alloc (.cells A' 37)) ∧ Ls 1 elB w F a' n' c' ys ∧ Ls 2 elBf w F a'' n'' c'' zs) := ⟨k1, h', h''⟩
  clear a4 a5 a6 b4 b5 b6 k1 h h' h''
  go_enter Tryd.func36, Tryd.ntmps36
  go_wp2_with (first
    | (go_at_call 45; refine cE.mono ?_; rintro e w1 ⟨rfl, k2⟩; have kw1 := HK.out.1.trans k2 (fun _ h => .inl h); have cB := eq_bool w1 (HK.out.2.1.kept kw1 (fun _ _ h => h) (elB_kept kw1 (fun _ _ h => h))); replace x5 := k2.cell x5 (fun h => h); replace x6 := k2.cell x6 (fun h => h); replace y5 := k2.cell y5 (fun h => h); replace y6 := k2.cell y6 (fun h => h); have HK1 := hid kw1; clear k2 kw1 cE)
    | (go_at_call 46; refine cB.mono ?_; rintro e w2 ⟨rfl, k3⟩; have kw2 := HK1.out.trans k3 (fun _ h => .inl h); have cC := eq_Bf w2 (HK.out.2.2.kept kw2 (fun _ _ h => h) (elBf_kept kw2 (fun _ _ h => h))); replace x6 := k3.cell x6 (fun h => h); replace y6 := k3.cell y6 (fun h => h); have HK2 := hid kw2; clear k3 kw2 cB)
    | (go_at_call 47; refine cC.mono ?_; rintro e w3 ⟨rfl, k4⟩; have HK3 := hid (HK2.out.trans k4 (fun _ h => .inl h)); clear k4 cC))
  go_ret
  exact ⟨rfl, HK3.out⟩

theorem Tryd.infoH : (Tryd.prog.info? 3).map (fun i => (i.zero, i.size, i.bytes)) = some (some (.int .i64 0), 1, 8) := by kernel_rfl
theorem eqArr (w : World) (h0 h1 h2 h3 h4 h5 h6 h7 : Int) : (Op.equalIn 10000 32 (.agg #[.int .i64 h0, .int .i64 h1, .int .i64 h2, .int .i64 h3, .int .i64 h4, .int .i64 h5, .int .i64 h6, .int .i64 h7]) (.agg #[.int .i64 h0, .int .i64 h1, .int .i64 h2, .int .i64 h3, .int .i64 h4, .int .i64 h5, .int .i64 h6, .int .i64 h7])).run Tryd.prog w = .ok true w := by
  obtain ⟨i0, hi, _⟩ := info_parts Tryd.infoH
  rw [show (10000 : Nat) = 9999 + 1 from rfl, run_equalIn_array w 9999 _ _ Tryd.underlying32 hi]
  have hc : Tryd.prog.cellsOf 3 = 1 := by kernel_rfl
  simp [Op.eqItems, hc, List.range, List.range.loop, go_sem]

set_option maxHeartbeats 8000000 in
theorem work_yes {F : Nat → Prop} {A A' : Array Value} {a a' : Option Addr} {n c n' c' : Nat} {xs : List Ins} {ys : List Prc} {q h0 h1 h2 h3 h4 h5 h6 h7 : Int} (w : World) (a7 : A[7]? = some (.slice a n c)) (a8 : A[8]? = some (.slice a' n' c')) (a9 : A[9]? = some (.int .i64 q)) (a10 : A[10]? = some (.int .i64 h0)) (a11 : A[11]? = some (.int .i64 h1)) (a12 : A[12]? = some (.int .i64 h2)) (a13 : A[13]? = some (.int .i64 h3)) (a14 : A[14]? = some (.int .i64 h4)) (a15 : A[15]? = some (.int .i64 h5)) (a16 : A[16]? = some (.int .i64 h6)) (a17 : A[17]? = some (.int .i64 h7))
    (e7 : A'[7]? = some (.slice a n c)) (hA : ∀ k, 8 ≤ k → k < 18 → A'[k]? = A[k]?) (h : Ls 5 elIns w F a n c xs) (h' : Ls 6 elPrc w F a' n' c' ys) :
    Calls Tryd.prog 35 #[.agg A, .agg A'] w fun e w' => e = .returned (.bool true) ∧ Kept No w w' := by
  have k1 : Kept No w ((w.alloc (.cells A 37)).alloc (.cells A' 37)) := ((Kept.refl No w).alloc _).alloc _
  have cE := eq_Ins _ (h.kept k1 (fun _ _ h => h) (elIns_kept k1 (fun _ _ h => h)))
  have x7 := box_old w A A' 37 7 _ a7
  have x8 := box_old w A A' 37 8 _ a8
  have x9 := box_old w A A' 37 9 _ a9
  have x10 := box_old w A A' 37 10 _ a10
  have x11 := box_old w A A' 37 11 _ a11
  have x12 := box_old w A A' 37 12 _ a12
  have x13 := box_old w A A' 37 13 _ a13
  have x14 := box_old w A A' 37 14 _ a14
  have x15 := box_old w A A' 37 15 _ a15
  have x16 := box_old w A A' 37 16 _ a16
  have x17 := box_old w A A' 37 17 _ a17
  have y7 := (box_two w A A' 37 7).trans e7
  have y8 := (box_two w A A' 37 8).trans ((hA 8 (by omega) (by omega)).trans a8)
  have y9 := (box_two w A A' 37 9).trans ((hA 9 (by omega) (by omega)).trans a9)
  have y10 := (box_two w A A' 37 10).trans ((hA 10 (by omega) (by omega)).trans a10)
  have y11 := (box_two w A A' 37 11).trans ((hA 11 (by omega) (by omega)).trans a11)
  have y12 := (box_two w A A' 37 12).trans ((hA 12 (by omega) (by omega)).trans a12)
  have y13 := (box_two w A A' 37 13).trans ((hA 13 (by omega) (by omega)).trans a13)
  have y14 := (box_two w A A' 37 14).trans ((hA 14 (by omega) (by omega)).trans a14)
  have y15 := (box_two w A A' 37 15).trans ((hA 15 (by omega) (by omega)).trans a15)
  have y16 := (box_two w A A' 37 16).trans ((hA 16 (by omega) (by omega)).trans a16)
  have y17 := (box_two w A A' 37 17).trans ((hA 17 (by omega) (by omega)).trans a17)
  have HK : Hid (Kept No w ((w.alloc (.cells A 37)).alloc (.cells A' 37)) ∧ Ls 6 elPrc w F a' n' c' ys) := ⟨k1, h'⟩
  have HX : Hid (∀ W, Kept No ((w.alloc (.cells A 37)).alloc (.cells A' 37)) W → (W.cell? ⟨w.heap.size, 8, none⟩ = some (.slice a' n' c') ∧ W.cell? ⟨w.heap.size + 1, 8, none⟩ = some (.slice a' n' c')) ∧ (W.cell? ⟨w.heap.size, 9, none⟩ = some (.int .i64 q) ∧ W.cell? ⟨w.heap.size + 1, 9, none⟩ = some (.int .i64 q)) ∧ (W.cell? ⟨w.heap.size, 10, none⟩ = some (.int .i64 h0) ∧ W.cell? ⟨w.heap.size, 11, none⟩ = some (.int .i64 h1) ∧ W.cell? ⟨w.heap.size, 12, none⟩ = some (.int .i64 h2) ∧ W.cell? ⟨w.heap.size, 13, none⟩ = some (.int .i64 h3) ∧ W.cell? ⟨w.heap.size, 14, none⟩ = some (.int .i64 h4) ∧ W.cell? ⟨w.heap.size, 15, none⟩ = some (.int .i64 h5) ∧ W.cell? ⟨w.heap.size, 16, none⟩ = some (.int .i64 h6) ∧ W.cell? ⟨w.heap.size, 17, none⟩ = some (.int .i64 h7)) ∧ (W.cell? ⟨w.heap.size + 1, 10, none⟩ = some (.int .i64 h0) ∧ W.cell? ⟨w.heap.size + 1, 11, none⟩ = some (.int .i64 h1) ∧ W.cell? ⟨w.heap.size + 1, 12, none⟩ = some (.int .i64 h2) ∧ W.cell? ⟨w.heap.size + 1, 13, none⟩ = some (.int .i64 h3) ∧ W.cell? ⟨w.heap.size + 1, 14, none⟩ = some (.int .i64 h4) ∧ W.cell? ⟨w.heap.size + 1, 15, none⟩ = some (.int .i64 h5) ∧ W.cell? ⟨w.heap.size + 1, 16, none⟩ = some (.int .i64 h6) ∧ W.cell? ⟨w.heap.size + 1, 17, none⟩ = some (.int .i64 h7))) := fun W K =>
    ⟨⟨K.cell x8 (fun h => h), K.cell y8 (fun h => h)⟩, ⟨K.cell x9 (fun h => h), K.cell y9 (fun h => h)⟩, ⟨K.cell x10 (fun h => h), K.cell x11 (fun h => h), K.cell x12 (fun h => h), K.cell x13 (fun h => h), K.cell x14 (fun h => h), K.cell x15 (fun h => h), K.cell x16 (fun h => h), K.cell x17 (fun h => h)⟩, ⟨K.cell y10 (fun h => h), K.cell y11 (fun h => h), K.cell y12 (fun h => h), K.cell y13 (fun h => h), K.cell y14 (fun h => h), K.cell y15 (fun h => h), K.cell y16 (fun h => h), K.cell y17 (fun h => h)⟩⟩
  clear a7 a8 a9 a10 a11 a12 a13 a14 a15 a16 a17 e7 hA k1 h h' x8 x9 x10 x11 x12 x13 x14 x15 x16 x17 y8 y9 y10 y11 y12 y13 y14 y15 y16 y17
  go_enter Tryd.func35, Tryd.ntmps35
  go_wp2_with (first
    | (go_at_call 43; refine cE.mono ?_; rintro e w1 ⟨rfl, k2⟩; have kw1 := HK.out.1.trans k2 (fun _ h => .inl h); have cB := eq_Prc w1 (HK.out.2.kept kw1 (fun _ _ h => h) (elPrc_kept kw1 (fun _ _ h => h))); obtain ⟨⟨u8, v8⟩, _⟩ := HX.out w1 k2; have HK1 : Hid (Kept No w w1 ∧ Kept No ((w.alloc (.cells A 37)).alloc (.cells A' 37)) w1) := ⟨kw1, k2⟩; clear k2 kw1 cE x7 y7)
    | (go_at_call 44; refine cB.mono ?_; rintro e w2 ⟨rfl, k3⟩; have kw2 := HK1.out.2.trans k3 (fun _ h => .inl h); obtain ⟨_, ⟨u9, v9⟩, ⟨u10, u11, u12, u13, u14, u15, u16, u17⟩, ⟨v10, v11, v12, v13, v14, v15, v16, v17⟩⟩ := HX.out w2 kw2; have HK2 := hid (HK1.out.1.trans k3 (fun _ h => .inl h)); have ea := eqArr w2 h0 h1 h2 h3 h4 h5 h6 h7; clear k3 kw2 cB u8 v8))
  go_ret
  exact ⟨rfl, HK2.out⟩
theorem work_no {A A' : Array Value} {a b : Option Addr} {n c m d : Nat} (w : World) (a7 : A[7]? = some (.slice a n c)) (b7 : A'[7]? = some (.slice b m d)) (hn : n ≠ m) :
    Calls Tryd.prog 35 #[.agg A, .agg A'] w fun e w' => e = .returned (.bool false) ∧ Kept No w w' := by
  have k1 : Kept No w ((w.alloc (.cells A 37)).alloc (.cells A' 37)) := ((Kept.refl No w).alloc _).alloc _
  have cE := eqn_Ins (a := a) (a' := b) (c := c) (c' := d) ((w.alloc (.cells A 37)).alloc (.cells A' 37)) hn
  have x7 := box_old w A A' 37 7 _ a7
  have y7 := (box_two w A A' 37 7).trans b7
  have HK := hid k1
  clear a7 b7 k1 hn
  go_enter Tryd.func35, Tryd.ntmps35
  go_wp2_with (go_at_call 43; refine cE.mono ?_; rintro e w1 ⟨rfl, hw⟩; subst hw)
  go_ret
  exact ⟨rfl, HK.out⟩
end Go.Proofs.YtdohjhhflfnncaaDoor
