/-
  One text: YXm, YKn.
-/
import Derived.Test.YtnmhcnppdhdhfaaGreatDoorG44
import Derived.Deep.RegionWith
import Derived.BigQuiet
namespace Go.Proofs.YtnmhcnppdhdhfaaGreatDoor
open Go.RowKit Plain
set_option linter.unusedVariables false
set_option linter.unusedSimpArgs false
set_option maxRecDepth 100000

def exCs (v7 v8 : Value) : List Value := [.int .i64 4, .int .i64 2, .int .i64 0, .int .i64 1, .int .i64 0, .int .i64 0, .slice none 0 0, v7, v8, .int .i64 0, .int .i64 0, .int .i64 0, .int .i64 0, .int .i64 0, .int .i64 0, .int .i64 0, .int .i64 0, .int .i64 0, .slice none 0 0, .slice none 0 0, .slice none 0 0]
theorem exCs_one (a b : Option Addr) (n m c d : Nat) : ∀ v ∈ exCs (.slice a n c) (.slice b m d), v.oneCell' = true := by
  intro v hv
  simp only [exCs, List.mem_cons, List.not_mem_nil, or_false] at hv
  rcases hv with rfl | rfl | rfl | rfl | rfl | rfl | rfl | rfl | rfl | rfl | rfl | rfl | rfl | rfl | rfl | rfl | rfl | rfl | rfl | rfl | rfl <;> rfl
theorem lsNil {α : Type} {sz : Nat} {El : World → (Nat → Prop) → List Value → α → Prop} (w : World) (F : Nat → Prop) : Ls sz El w F none 0 0 ([] : List α) := ⟨rfl, Nat.le_refl _, by omega, fun _ => rfl, fun i x hx => by simp at hx⟩
theorem ex_img {w : World} {F : Nat → Prop} {c g1 g3 g4 : Nat} (hc : c ≤ 1000) (h1 : Bk w g1 [.int .u8 1, .int .u8 0, .int .u8 0, .int .u8 0, .int .i32 0] 84) (h3 : Bk w g3 [.int .i64 0, .int .i64 9, .int .i64 8, .int .i64 4, .int .i64 1, .bool true, .int .i64 0, .int .i64 5, .int .i64 8, .int .i64 8, .int .i64 c, .bool true] 54) (h4 : Bk w g4 (exCs (.slice (some ⟨g1, 0, none⟩) 1 1) (.slice (some ⟨g3, 0, none⟩) 2 2)) 48) (f1 : F g1) (f3 : F g3) (f4 : F g4) : Img w F (some ⟨g4, 0, none⟩) 1 1 none 0 0 none 0 0 (exIm c) := by
  have hins : Ls 5 elIns w F (some ⟨g1, 0, none⟩) 1 1 [⟨1, 0, 0, 0, 0⟩] := by
    refine ⟨rfl, Nat.le_refl _, by omega, fun h => (by cases h), fun i x hx => ?_⟩
    match i, hx with
    | 0, hx =>
      injection hx with hx
      subst hx
      exact ⟨g1, 0, _, rfl, f1, rfl, h1.range, rfl, by unfold okIns; simp [I6, U8, I3]⟩
    | n + 1, hx => simp at hx
  have hprc : Ls 6 elPrc w F (some ⟨g3, 0, none⟩) 2 2 (exPs c) := by
    refine ⟨rfl, Nat.le_refl _, by omega, fun h => (by cases h), fun i x hx => ?_⟩
    match i, hx with
    | 0, hx =>
      injection hx with hx
      subst hx
      refine ⟨g3, 0, [.int .i64 0, .int .i64 9, .int .i64 8, .int .i64 4, .int .i64 1, .bool true], rfl, f3, rfl, fun j v hv => ?_, rfl, by unfold okPrc; simp [I6]⟩
      have hj : j < 6 := (List.getElem?_eq_some_iff.1 hv).1
      refine h3.cell (j := 0 + 0 * 6 + j) ?_
      rw [show 0 + 0 * 6 + j = j by omega, ← hv]
      match j, hj with
      | 0, _ => rfl
      | 1, _ => rfl
      | 2, _ => rfl
      | 3, _ => rfl
      | 4, _ => rfl
      | 5, _ => rfl
    | 1, hx =>
      injection hx with hx
      subst hx
      refine ⟨g3, 0, [.int .i64 0, .int .i64 5, .int .i64 8, .int .i64 8, .int .i64 c, .bool true], rfl, f3, rfl, fun j v hv => ?_, rfl, by unfold okPrc; simp [I6]; omega⟩
      have hj : j < 6 := (List.getElem?_eq_some_iff.1 hv).1
      refine h3.cell (j := 0 + 1 * 6 + j) ?_
      rw [← hv]
      match j, hj with
      | 0, _ => rfl
      | 1, _ => rfl
      | 2, _ => rfl
      | 3, _ => rfl
      | 4, _ => rfl
      | 5, _ => rfl
    | n + 2, hx => simp [exPs] at hx
  refine ⟨⟨rfl, Nat.le_refl _, by omega, fun h => (by cases h), fun i x hx => ?_⟩, lsNil w F, lsNil w F⟩
  match i, hx with
  | 0, hx =>
    injection hx with hx
    subst hx
    refine ⟨g4, 0, _, rfl, f4, rfl, h4.range, ⟨⟨none, 0, 0, _, _, _, _, _, _, none, 0, 0, none, 0, 0, none, 0, 0, rfl, lsNil w F, hins, hprc, lsNil w F, lsNil w F, lsNil w F⟩, ?_⟩⟩
    have o1 := hins.all (fun _ _ h => h.2)
    have o2 := hprc.all (fun _ _ h => h.2)
    unfold okPn
    refine ⟨?_, ?_, ?_, ?_, ?_, ?_, ?_, o1, o2, ?_, ?_, ?_, ?_, ?_, ?_, ?_, ?_, ?_, ?_, ?_, ?_⟩ <;> simp [exP, I6, okL]
  | n + 1, hx => simp [exIm] at hx

section
variable {o : Oper} {a : Act} {w : World}
theorem er_buildX (t : TypeId) (parts : Array (Nat × Operand)) (ho : o.op = .build t parts) (l : List (Nat × Value)) (hl : (parts.map fun (i, x) => (i, a.eval x)).toList = l) (A : Array Value) (hb : Tryz.prog.built t l = some A) : (execOp a.eval o).run Tryz.prog w = .ok (.value (.agg A)) w := by
  subst hl
  unfold execOp
  simp only [ho, Sem.run_bind, run_build w t _ A hb, Result.andThen_ok]
  rfl
theorem er_bsIn (x : Operand) (ho : o.op = .buildSlice 41 1 #[(0, x)]) (hx : a.eval x = .agg #[.int .u8 1, .int .u8 0, .int .u8 0, .int .u8 0, .int .i32 0]) : (execOp a.eval o).run Tryz.prog w = .ok (.value (.slice (some ⟨w.heap.size, 0, none⟩) 1 1)) (w.alloc (.cells #[.int .u8 1, .int .u8 0, .int .u8 0, .int .u8 0, .int .i32 0] 84)) := by
  simp only [execOp, ho, List.map_toArray, List.map_cons, List.map_nil, hx]
  simp [go_sem]
theorem er_bsPr (c : Int) (x y : Operand) (ho : o.op = .buildSlice 42 2 #[(0, x), (1, y)]) (hx : a.eval x = .agg #[.int .i64 0, .int .i64 9, .int .i64 8, .int .i64 4, .int .i64 1, .bool true]) (hy : a.eval y = .agg #[.int .i64 0, .int .i64 5, .int .i64 8, .int .i64 8, .int .i64 c, .bool true]) : (execOp a.eval o).run Tryz.prog w = .ok (.value (.slice (some ⟨w.heap.size, 0, none⟩) 2 2)) (w.alloc (.cells #[.int .i64 0, .int .i64 9, .int .i64 8, .int .i64 4, .int .i64 1, .bool true, .int .i64 0, .int .i64 5, .int .i64 8, .int .i64 8, .int .i64 c, .bool true] 54)) := by
  simp only [execOp, ho, List.map_toArray, List.map_cons, List.map_nil, hx, hy]
  simp [go_sem]
theorem er_fPnPr (x : Operand) (ho : o.op = .fieldAddr 48 x 5) (g k : Nat) (hx : a.eval x = .pointer (some ⟨g, k, none⟩)) : (execOp a.eval o).run Tryz.prog w = .ok (.value (.pointer (some ⟨g, k + 8, none⟩))) w := by
  simp only [execOp, ho, hx]; simp [go_sem, add_none]
theorem er_stSPr (x y : Operand) (ho : o.op = .store 42 x y) (g off : Nat) (u : Value) (p : Option Addr) (n c : Nat) (hx : a.eval x = .pointer (some ⟨g, off, none⟩)) (hy : a.eval y = .slice p n c) (hr : w.cell? ⟨g, off, none⟩ = some u) (hf : w.frozen? ⟨g, off, none⟩ = false) : (execOp a.eval o).run Tryz.prog w = .ok .skip (w.setCell ⟨g, off, none⟩ (.slice p n c)) := by
  simp only [execOp, ho, hx, hy]; simp [go_sem, hr, hf]
end
theorem exB (b : Nat) : Tryz.prog.built 48 [(0, .agg #[.int .i64 4, .int .i64 2, .int .i64 0, .int .i64 1]), (4, .slice (some ⟨b, 0, none⟩) 1 1)] = some (exCs (.slice (some ⟨b, 0, none⟩) 1 1) (.slice none 0 0)).toArray := by kernel_rfl
theorem exBs : Tryz.prog.built 39 [(0, .int .i64 4), (1, .int .i64 2), (2, .int .i64 0), (3, .int .i64 1)] = some #[.int .i64 4, .int .i64 2, .int .i64 0, .int .i64 1] := by kernel_rfl
theorem exBi : Tryz.prog.built 84 [(0, .int .u8 1)] = some #[.int .u8 1, .int .u8 0, .int .u8 0, .int .u8 0, .int .i32 0] := by kernel_rfl
theorem exBa : Tryz.prog.built 54 [(1, .int .i64 9), (2, .int .i64 8), (3, .int .i64 4), (4, .int .i64 1), (5, .bool true)] = some #[.int .i64 0, .int .i64 9, .int .i64 8, .int .i64 4, .int .i64 1, .bool true] := by kernel_rfl
theorem exBb (c : Int) : Tryz.prog.built 54 [(1, .int .i64 5), (2, .int .i64 8), (3, .int .i64 8), (4, .int .i64 c), (5, .bool true)] = some #[.int .i64 0, .int .i64 5, .int .i64 8, .int .i64 8, .int .i64 c, .bool true] := by kernel_rfl
theorem exBm (a : Option Addr) (n c : Nat) : Tryz.prog.built 26 [(0, .slice a n c)] = some #[.slice a n c, .slice none 0 0, .slice none 0 0] := by kernel_rfl

set_option maxHeartbeats 4000000 in
theorem example_any (c : Nat) (hc : c ≤ 1000) (w : World) : Calls Tryz.prog 12 #[.int .i64 c] w fun e w' => ∃ gp, e = .returned (.agg #[.slice (some ⟨gp, 0, none⟩) 1 1, .slice none 0 0, .slice none 0 0]) ∧ Img w' (fun k => w.heap.size ≤ k ∧ k < w'.heap.size) (some ⟨gp, 0, none⟩) 1 1 none 0 0 none 0 0 (exIm c) ∧ Kept No w w' := by
  have B0 : Hid (Bk (w.alloc (.cells #[.slice none 0 0, .slice none 0 0, .slice none 0 0] 26)) w.heap.size [.slice none 0 0, .slice none 0 0, .slice none 0 0] 26) := heap_alloc_new w _
  have K0 : Hid (Kept No w (w.alloc (.cells #[.slice none 0 0, .slice none 0 0, .slice none 0 0] 26))) := (Kept.refl No w).alloc _
  go_enter Tryz.func12, Tryz.ntmps12
  go_upto_region 1 with fail
  generalize w.alloc (.cells #[.slice none 0 0, .slice none 0 0, .slice none 0 0] 26) = wI at *
  have B1 : Hid (Bk (wI.alloc (.cells #[.int .u8 1, .int .u8 0, .int .u8 0, .int .u8 0, .int .i32 0] 84)) wI.heap.size [.int .u8 1, .int .u8 0, .int .u8 0, .int .u8 0, .int .i32 0] 84) := heap_alloc_new wI _
  have K1 : Hid (Kept No wI (wI.alloc (.cells #[.int .u8 1, .int .u8 0, .int .u8 0, .int .u8 0, .int .i32 0] 84))) := (Kept.refl No wI).alloc _
  obtain ⟨w2, hst, hrg, hk2⟩ := box_PnE (wI.alloc (.cells #[.int .u8 1, .int .u8 0, .int .u8 0, .int .u8 0, .int .i32 0] 84)) (exCs (.slice (some ⟨wI.heap.size, 0, none⟩) 1 1) (.slice none 0 0)) rfl (exCs_one _ _ _ _ _ _)
  have B2 : Hid (Bk w2 (wI.alloc (.cells #[.int .u8 1, .int .u8 0, .int .u8 0, .int .u8 0, .int .i32 0] 84)).heap.size (exCs (.slice (some ⟨wI.heap.size, 0, none⟩) 1 1) (.slice none 0 0)) 48) := box_Bk rfl (exCs_one _ _ _ _ _ _) hst
  have K2 : Hid (Kept No (wI.alloc (.cells #[.int .u8 1, .int .u8 0, .int .u8 0, .int .u8 0, .int .i32 0] 84)) w2) := hk2
  have HST : Hid ((Instr.storeAt 48 (.pointer (some ⟨(wI.alloc (.cells #[.int .u8 1, .int .u8 0, .int .u8 0, .int .u8 0, .int .i32 0] 84)).heap.size, 0, none⟩)) (.agg (exCs (.slice (some ⟨wI.heap.size, 0, none⟩) 1 1) (.slice none 0 0)).toArray)).run Tryz.prog _ = .ok () w2) := hst
  clear hst hrg hk2
  refine wp_region_lit ?_
  refine l_take 4 rfl rfl (er_buildX _ _ rfl [(0, .int .i64 4), (1, .int .i64 2), (2, .int .i64 0), (3, .int .i64 1)] (by simp only [List.map_toArray, List.map_cons, List.map_nil]; rfl) _ exBs) ?_
  simp only [Act.put, List.setIfInBounds_toArray, List.set_cons_zero, List.set_cons_succ]
  refine l_take 5 rfl rfl (er_buildX _ _ rfl [(0, .int .u8 1)] (by simp only [List.map_toArray, List.map_cons, List.map_nil]; rfl) _ exBi) ?_
  simp only [Act.put, List.setIfInBounds_toArray, List.set_cons_zero, List.set_cons_succ]
  refine l_make 6 rfl rfl (er_bsIn _ rfl rfl) ?_
  simp only [Act.put, List.setIfInBounds_toArray, List.set_cons_zero, List.set_cons_succ]
  refine l_take 7 rfl rfl (er_buildX _ _ rfl [(0, .agg #[.int .i64 4, .int .i64 2, .int .i64 0, .int .i64 1]), (4, .slice (some ⟨wI.heap.size, 0, none⟩) 1 1)] (by simp only [List.map_toArray, List.map_cons, List.map_nil]; rfl) _ (exB _)) ?_
  simp only [Act.put, List.setIfInBounds_toArray, List.set_cons_zero, List.set_cons_succ]
  refine l_make 3 rfl rfl (er_alPn rfl) ?_
  simp only [Act.put, List.setIfInBounds_toArray, List.set_cons_zero, List.set_cons_succ]
  refine l_turn rfl rfl (er_st _ _ _ rfl _ _ rfl rfl HST.out) ?_
  clear HST
  have e1 : (wI.alloc (.cells #[.int .u8 1, .int .u8 0, .int .u8 0, .int .u8 0, .int .i32 0] 84)).heap.size = wI.heap.size + 1 := by simp
  have S1 : Hid (wI.heap.size < (wI.alloc (.cells #[.int .u8 1, .int .u8 0, .int .u8 0, .int .u8 0, .int .i32 0] 84)).heap.size) := by rw [e1]; exact Nat.lt_succ_self _
  have S0 : Hid (w.heap.size < wI.heap.size) := B0.out.lt
  clear e1
  generalize wI.alloc (.cells #[.int .u8 1, .int .u8 0, .int .u8 0, .int .u8 0, .int .i32 0] 84) = W1 at *
  obtain ⟨b1, hb1⟩ : ∃ b1, b1 = wI.heap.size := ⟨_, rfl⟩
  rw [← hb1] at B1 B2 S1 ⊢
  have HB1 : Hid (b1 = wI.heap.size) := hb1
  obtain ⟨b2, hb2⟩ : ∃ b2, b2 = W1.heap.size := ⟨_, rfl⟩
  rw [← hb2] at B2 S1 ⊢
  have HB2 : Hid (b2 = W1.heap.size) := hb2
  clear hb1 hb2
  go_upto_region 2 with fail
  refine wp_region_lit ?_
  refine l_take 8 rfl rfl (er_buildX _ _ rfl [(1, .int .i64 9), (2, .int .i64 8), (3, .int .i64 4), (4, .int .i64 1), (5, .bool true)] (by simp only [List.map_toArray, List.map_cons, List.map_nil]; rfl) _ exBa) ?_
  simp only [Act.put, List.setIfInBounds_toArray, List.set_cons_zero, List.set_cons_succ]
  refine l_take 9 rfl rfl (er_mv _ rfl (.int .i64 c) rfl) ?_
  simp only [Act.put, List.setIfInBounds_toArray, List.set_cons_zero, List.set_cons_succ]
  refine l_take 10 rfl rfl (er_buildX _ _ rfl [(1, .int .i64 5), (2, .int .i64 8), (3, .int .i64 8), (4, .int .i64 c), (5, .bool true)] (by simp only [List.map_toArray, List.map_cons, List.map_nil]; rfl) _ (exBb _)) ?_
  simp only [Act.put, List.setIfInBounds_toArray, List.set_cons_zero, List.set_cons_succ]
  refine l_make 11 rfl rfl (er_bsPr c _ _ rfl rfl rfl) ?_
  simp only [Act.put, List.setIfInBounds_toArray, List.set_cons_zero, List.set_cons_succ]
  have B3 : Hid (Bk (w2.alloc (.cells #[.int .i64 0, .int .i64 9, .int .i64 8, .int .i64 4, .int .i64 1, .bool true, .int .i64 0, .int .i64 5, .int .i64 8, .int .i64 8, .int .i64 c, .bool true] 54)) w2.heap.size [.int .i64 0, .int .i64 9, .int .i64 8, .int .i64 4, .int .i64 1, .bool true, .int .i64 0, .int .i64 5, .int .i64 8, .int .i64 8, .int .i64 c, .bool true] 54) := heap_alloc_new w2 _
  have K3 : Hid (Kept No w2 (w2.alloc (.cells #[.int .i64 0, .int .i64 9, .int .i64 8, .int .i64 4, .int .i64 1, .bool true, .int .i64 0, .int .i64 5, .int .i64 8, .int .i64 8, .int .i64 c, .bool true] 54))) := (Kept.refl No w2).alloc _
  generalize w2.alloc (.cells #[.int .i64 0, .int .i64 9, .int .i64 8, .int .i64 4, .int .i64 1, .bool true, .int .i64 0, .int .i64 5, .int .i64 8, .int .i64 8, .int .i64 c, .bool true] 54) = w3 at *
  have B2' : Hid (Bk w3 b2 (exCs (.slice (some ⟨b1, 0, none⟩) 1 1) (.slice none 0 0)) 48) := B2.out.kept K3.out (fun h => h)
  refine l_take 12 rfl rfl (er_fPnPr _ rfl b2 0 rfl) ?_
  simp only [Act.put, List.setIfInBounds_toArray, List.set_cons_zero, List.set_cons_succ]
  refine l_turn rfl rfl (er_stSPr _ _ rfl b2 (0 + 8) _ _ _ _ rfl rfl (B2'.out.cell (j := 8) rfl) (B2'.out.fz _)) ?_
  have B4 : Hid (Bk (w3.setCell ⟨b2, 0 + 8, none⟩ (.slice (some ⟨w2.heap.size, 0, none⟩) 2 2)) b2 (exCs (.slice (some ⟨b1, 0, none⟩) 1 1) (.slice (some ⟨w2.heap.size, 0, none⟩) 2 2)) 48) := B2'.out.set 8 _
  have K4 : Hid (Kept (fun k => k = b2) w3 (w3.setCell ⟨b2, 0 + 8, none⟩ (.slice (some ⟨w2.heap.size, 0, none⟩) 2 2))) := (Kept.refl (fun k => k = b2) w3).setCell (p := ⟨b2, 0 + 8, none⟩) (.inl rfl) _
  obtain ⟨b3, hb3⟩ : ∃ b3, b3 = w2.heap.size := ⟨_, rfl⟩
  rw [← hb3] at B3 B4 K4 ⊢
  have HB3 : Hid (b3 = w2.heap.size) := hb3
  clear hb3
  generalize w3.setCell ⟨b2, 0 + 8, none⟩ (.slice (some ⟨b3, 0, none⟩) 2 2) = w4 at *
  go_upto_region 3 with fail
  obtain ⟨C, hC⟩ : ∃ C, C = exCs (.slice (some ⟨b1, 0, none⟩) 1 1) (.slice (some ⟨b3, 0, none⟩) 2 2) := ⟨_, rfl⟩
  have hCl : C.length = 21 := by rw [hC]; rfl
  have hC1 : ∀ v ∈ C, v.oneCell' = true := by rw [hC]; exact exCs_one _ _ _ _ _ _
  rw [← hC] at B4
  have HLD := run_loadAt_mid w4 b2 0 _ C _ B4.out.range Tryz.underlying48 rfl (by rw [hCl]; exact sizePn)
  have HC : Hid (C = exCs (.slice (some ⟨b1, 0, none⟩) 1 1) (.slice (some ⟨b3, 0, none⟩) 2 2)) := hC
  clear hC
  have B5 : Hid (Bk (w4.alloc (.cells C.toArray 48)) w4.heap.size C 48) := heap_alloc_new w4 _
  have K5 : Hid (Kept No w4 (w4.alloc (.cells C.toArray 48))) := (Kept.refl No w4).alloc _
  refine wp_region_lit ?_
  refine l_take 13 rfl rfl (er_ld _ _ rfl _ _ rfl HLD) ?_
  simp only [Act.put, List.setIfInBounds_toArray, List.set_cons_zero, List.set_cons_succ]
  refine l_make 14 rfl rfl (er_bsPn _ rfl C hCl hC1 rfl) ?_
  simp only [Act.put, List.setIfInBounds_toArray, List.set_cons_zero, List.set_cons_succ]
  clear HLD hCl hC1
  generalize w4.alloc (.cells C.toArray 48) = w5 at *
  obtain ⟨b4, hb4⟩ : ∃ b4, b4 = w4.heap.size := ⟨_, rfl⟩
  rw [← hb4] at B5 ⊢
  have HB4 : Hid (b4 = w4.heap.size) := hb4
  clear hb4
  refine l_take 15 rfl rfl (er_buildX _ _ rfl [(0, .slice (some ⟨b4, 0, none⟩) 1 1)] (by simp only [List.map_toArray, List.map_cons, List.map_nil]; rfl) _ (exBm _ _ _)) ?_
  simp only [Act.put, List.setIfInBounds_toArray, List.set_cons_zero, List.set_cons_succ]
  have B6 : Hid (Bk w5 w.heap.size [.slice none 0 0, .slice none 0 0, .slice none 0 0] 26) := by
    have k := (K1.out.trans K2.out (fun _ h => h.elim)).trans K3.out (fun _ h => h.elim)
    have h1 := B0.out.kept k (fun h => h)
    exact (h1.kept K4.out (fun e => by have := S0.out; have := S1.out; have := HB1.out; omega)).kept K5.out (fun h => h)
  obtain ⟨b0, hb0⟩ : ∃ b0, b0 = w.heap.size := ⟨_, rfl⟩
  rw [← hb0] at B6 ⊢
  have HB0 : Hid (b0 = w.heap.size) := hb0
  clear hb0
  have i0 := B6.out.cell (j := 0) rfl
  have i1 := B6.out.cell (j := 1) rfl
  have i2 := B6.out.cell (j := 2) rfl
  have j0 := B6.out.fz 0
  have j1 := B6.out.fz 1
  have j2 := B6.out.fz 2
  have ks := setK3 w5 b0 (.slice (some ⟨b4, 0, none⟩) 1 1) (.slice none 0 0) (.slice none 0 0)
  have hld := set3 B6.out (.slice (some ⟨b4, 0, none⟩) 1 1) (.slice none 0 0) (.slice none 0 0)
  have KS : Hid (Kept (fun k => k = b0) w5 _) := ks
  have HLD : Hid (Bk _ b0 [.slice (some ⟨b4, 0, none⟩) 1 1, .slice none 0 0, .slice none 0 0] 26) := hld
  clear ks hld
  go_wp2
  refine bodyPost_ret (results_cell_row rfl _ _ b0 26 #[.slice (some ⟨b4, 0, none⟩) 1 1, .slice none 0 0, .slice none 0 0] (0, 0) _ rfl HLD.out Tryz.underlying26 rfl (by kernel_rfl)) rfl ?_
  have s0 := HB0.out
  have s1 := S0.out
  have s2 := HB1.out
  have s3 := S1.out
  have s4 := HB2.out
  have s5 := K2.out.size
  have s6 := HB3.out
  have s7 := K3.out.size
  have s8 := K4.out.size
  have s9 := HB4.out
  have s10 := K5.out.size
  have s11 := KS.out.size
  have l1 := B1.out.lt
  have l2 := B2.out.lt
  have l3 := B3.out.lt
  have l4 := B5.out.lt
  have n1 : b1 ≠ b2 := by omega
  refine ⟨b4, rfl, ?_, ?_⟩
  · refine ex_img (g1 := b1) (g3 := b3) hc ?_ ?_ ?_ ⟨by omega, by omega⟩ ⟨by omega, by omega⟩ ⟨by omega, by omega⟩
    · exact ((((B1.out.kept K2.out (fun h => h)).kept K3.out (fun h => h)).kept K4.out (fun e => by omega)).kept K5.out (fun h => h)).kept KS.out (fun e => by omega)
    · exact ((B3.out.kept K4.out (fun e => by omega)).kept K5.out (fun h => h)).kept KS.out (fun e => by omega)
    · have h5 := B5.out.kept KS.out (fun e => by omega)
      rw [HC.out] at h5
      exact h5
  · have k1 := ((K0.out.trans K1.out (fun _ h => h.elim)).trans K2.out (fun _ h => h.elim)).trans K3.out (fun _ h => h.elim)
    exact ((k1.trans K4.out (fun k e => .inr (by omega))).trans K5.out (fun _ h => h.elim)).trans KS.out (fun k e => .inr (by omega))
end Go.Proofs.YtnmhcnppdhdhfaaGreatDoor

namespace Go.Proofs.YtnmhcnppdhdhfaaGreatDoor
open Go.RowKit Plain
set_option linter.unusedVariables false
set_option linter.unusedSimpArgs false
set_option maxRecDepth 100000

/-- are the first n the same? -/
def eqB (f g : Nat → Int) : Nat → Bool
  | 0 => true
  | n + 1 => eqB f g n && (f n == g n)
theorem eqB_no {f g : Nat → Int} {k : Nat} (h : f k ≠ g k) : ∀ n, k < n → eqB f g n = false
  | 0, hn => by omega
  | n + 1, hn => by
    rcases Nat.lt_or_eq_of_le (Nat.lt_succ_iff.1 hn) with h1 | h1
    · rw [eqB, eqB_no h n h1]; rfl
    · subst h1; rw [eqB]; simp [h]
/-- numbers that are read -/
def RdN (w : World) (g n : Nat) (f : Nat → Int) : Prop := ∀ i, i < n → w.cell? ⟨g, i, none⟩ = some (.int .i64 (f i))
theorem RdN.kept {w w' : World} {g n : Nat} {f : Nat → Int} (h : RdN w g n f) (K : Kept No w w') : RdN w' g n f := fun i hi => K.cell (h i hi) (fun h => h)
set_option maxHeartbeats 4000000 in
theorem sameInts_any (a b n : Nat) (c d : Nat) (hn : n ≤ 9223372036854775807) (f g : Nat → Int) (w : World) (hf : RdN w a n f) (hg : RdN w b n g) :
    Calls Tryz.prog 14 #[.slice (some ⟨a, 0, none⟩) n c, .slice (some ⟨b, 0, none⟩) n d] w fun e w' => e = .returned (.bool (eqB f g n)) ∧ Kept No w w' := by
  have HF : Hid (RdN w a n f) := hf
  have HG : Hid (RdN w b n g) := hg
  clear hf hg
  go_enter Tryz.func14, Tryz.ntmps14
  go_wp2
  go_loopw [5] (fun i wr => ∃ k : Nat, k ≤ n ∧ i = .int .i64 k ∧ Kept No w wr ∧ eqB f g k = true) (fun i _ => n - (intOf i).toNat)
  case atStart => exact ⟨0, by omega, rfl, Kept.refl _ _, rfl⟩
  case round =>
    obtain ⟨k, hk, rfl, K, hb⟩ := hrel
    have HB : Hid (eqB f g k = true) := hb
    have HK : Hid (Kept No w wr) := K
    by_cases hlt : k < n
    · have df := HF.out.kept K k hlt
      have dg := HG.out.kept K k hlt
      have HS : Hid (eqB f g (k + 1) = (eqB f g k && (f k == g k))) := rfl
      have HN : Hid (f k ≠ g k → eqB f g n = false) := fun h => eqB_no h n hlt
      have hgk : (k : Int) < (n : Int) := by omega
      generalize f k = u at *
      generalize g k = v at *
      clear hb K
      by_cases e : u = v
      · subst e
        have HY : Hid (eqB f g (k + 1) = true) := HS.out.trans (by rw [HB.out]; simp)
        go_wp2
        go_quiet (fail)
        go_wp2
        go_roundw
        case rel => exact ⟨k + 1, by omega, by go_num, HK.out.drewN _, HY.out⟩
        case measure => simp [intOf]; omega
      · have HY : Hid (eqB f g n = false) := HN.out e
        go_wp2
        go_quiet (fail)
        go_wp2
        go_ret
        exact ⟨by rw [HY.out]; rfl, HK.out.drewN _⟩
    · have hkn : k = n := by omega
      subst hkn
      clear hb K
      go_wp2
      go_ret
      exact ⟨by rw [HB.out]; rfl, HK.out⟩
theorem ex_worst {c : Nat} {F : Nat → Prop} {gp : Nat} (P : (Nat → Int) → Prop) (hok : woE (exIm c) 1 = 0) (hP : ∀ (d : Array Wr) (f : Nat → Wr) (m g s : Nat) (w w' : World), Pyd exO (2 * m) 2 (exPs c) w w' g s d f → 1 ≤ m → 8 ∣ m → P (wsF d f s)) (w : World) (hg : Gl w) (hO : Lg.Ops w) (h : Img w F (some ⟨gp, 0, none⟩) 1 1 none 0 0 none 0 0 (exIm c)) (hF : ∀ k, F k → k < w.heap.size) :
    Calls Tryz.prog 6 #[.agg #[.slice (some ⟨gp, 0, none⟩) 1 1, .slice none 0 0, .slice none 0 0], .int .i64 1] w fun e w' => ∃ gl f, e = .returned (.tuple #[.slice (some ⟨gl, 0, none⟩) 2 2, .int .i64 0]) ∧ P f ∧ Nm w' gl 2 f ∧ Kept No w w' := by
  obtain ⟨q, hq, h1, h2, hc, hf, hl⟩ := woE_zero hok
  have hq1 : q = 1 := by omega
  subst hq1
  obtain ⟨m, m1, m2, m3, m4, m5, hw⟩ := worst_any 1 w hg hO h hF hc (Nat.le_refl 1) (Nat.le_refl 1) hf hl
  have h8 : 8 ∣ m := m4 0 (show 0 < 2 by decide)
  refine hw.mono ?_
  rintro e w' ⟨gl, g, s, d, f, W, w2, rfl, hp, hn, hge, hk⟩
  exact ⟨gl, wsF d f s, rfl, hP d f m g s W w2 hp m1 h8, hn, hk⟩
theorem ex_inTime {F : Nat → Prop} {gp : Nat} (w : World) (hg : Gl w) (hO : Lg.Ops w) (h : Img w F (some ⟨gp, 0, none⟩) 1 1 none 0 0 none 0 0 (exIm 3)) (hF : ∀ k, F k → k < w.heap.size) :
    Calls Tryz.prog 13 #[.agg #[.slice (some ⟨gp, 0, none⟩) 1 1, .slice none 0 0, .slice none 0 0], .int .i64 1] w fun e w' => e = .returned (.tuple #[.bool true, .int .i64 0]) ∧ Kept No w w' := by
  obtain ⟨K0, _⟩ := imb w (.slice (some ⟨gp, 0, none⟩) 1 1) (.slice none 0 0) (.slice none 0 0)
  have hw := ex_worst (c := 3) (fun f => f 0 = 1 ∧ f 1 = 6) ex3_ok (fun d f m g s w w' h h1 h8 => ex3_ws h h1 h8) _ (hg.kept K0) (ops_kept hO K0 (fun h => h)) (h.kept K0 (fun _ _ h => h)) (fun k hk => by have := hF k hk; have := K0.size; omega)
  refine (inTime_yes (.slice none 0 0) (.slice none 0 0) (exIm 3).parts w h.ps 1 2 (by decide) (by decide) rfl (by decide) (fun f => f 0 = 1 ∧ f 1 = 6) hw).mono ?_
  rintro e w' ⟨f, ⟨f0, f1⟩, rfl, k⟩
  refine ⟨?_, k⟩
  have : itB f ((exIm 3).parts.getD (1 - 1) dPn).procs 2 = true := by
    show ((true && (f 0 != -1 && decide (f 0 ≤ 4))) && (f 1 != -1 && decide (f 1 ≤ 8))) = true
    rw [f0, f1]; decide
  rw [this]
theorem ops_of {w w' : World} (h : Lg.Ops w) (k : Kept No w w') : Lg.Ops w' := ops_kept h k (fun h => h)

set_option maxHeartbeats 8000000 in
theorem known_yes (w : World) (hg : Gl w) (hO : Lg.Ops w) : Calls Tryz.prog 5 #[] w fun e w' => e = .returned (.bool true) ∧ Kept No w w' := by
  have HX : Hid (∀ c : Nat, c ≤ 1000 → ∀ W, Calls Tryz.prog 12 #[.int .i64 c] W fun e w' => ∃ gp, e = .returned (.agg #[.slice (some ⟨gp, 0, none⟩) 1 1, .slice none 0 0, .slice none 0 0]) ∧ Img w' (fun k => W.heap.size ≤ k ∧ k < w'.heap.size) (some ⟨gp, 0, none⟩) 1 1 none 0 0 none 0 0 (exIm c) ∧ Kept No W w') := fun c hc W => example_any c hc W
  have HG : Hid (Gl w ∧ Lg.Ops w) := ⟨hg, hO⟩
  clear hg hO
  go_enter Tryz.func5, Tryz.ntmps5
  go_upto_region 2 with (first
    | (go_at_call 12; refine (HX.out 3 (by decide) _).mono ?_; rintro e w1 ⟨gp, rfl, hI, k1⟩; have HI : Hid (Img w1 (fun k => w.heap.size ≤ k ∧ k < w1.heap.size) (some ⟨gp, 0, none⟩) 1 1 none 0 0 none 0 0 (exIm 3)) := hI; have K1 : Hid (Kept No w w1) := k1; clear hI k1)
    | (go_at_call 6; refine (ex_worst (c := 3) (fun f => f 0 = 1 ∧ f 1 = 6) ex3_ok (fun d f m g s w w' h h1 h8 => ex3_ws h h1 h8) _ (HG.out.1.kept K1.out) (ops_of HG.out.2 K1.out) HI.out (fun k hk => hk.2)).mono ?_; rintro e w2 ⟨gl, f, rfl, hf, hN, k2⟩; have HN : Hid (Nm w2 gl 2 f ∧ f 0 = 1 ∧ f 1 = 6) := ⟨hN, hf⟩; have K2 : Hid (Kept No w w2) := K1.out.trans k2 (fun _ h => h.elim); clear hN hf k2))
  clear HI
  go_upto_region 3 with (first
    | (go_at_call 12; refine (HX.out 4 (by decide) _).mono ?_; rintro e w3 ⟨gp4, rfl, hI, k1⟩; have HI : Hid (Img w3 (fun k => w2.heap.size ≤ k ∧ k < w3.heap.size) (some ⟨gp4, 0, none⟩) 1 1 none 0 0 none 0 0 (exIm 4)) := hI; have K3 : Hid (Kept No w2 w3) := k1; clear hI k1)
    | (go_at_call 6; refine (ex_worst (c := 4) (fun f => f 0 = 1 ∧ f 1 = -1) ex4_ok (fun d f m g s w w' h h1 h8 => ex4_ws h h1 h8) _ (HG.out.1.kept (K2.out.trans K3.out (fun _ h => h.elim))) (ops_of HG.out.2 (K2.out.trans K3.out (fun _ h => h.elim))) HI.out (fun k hk => hk.2)).mono ?_; rintro e w4 ⟨gl4, f4, rfl, hf, hN, k2⟩; have HN4 : Hid (Nm w4 gl4 2 f4 ∧ f4 0 = 1 ∧ f4 1 = -1) := ⟨hN, hf⟩; have K4 : Hid (Kept No w2 w4) := K3.out.trans k2 (fun _ h => h.elim); clear hN hf k2))
  clear HI
  go_upto_region 4 with (first
    | (go_at_call 12; refine (HX.out 3 (by decide) _).mono ?_; rintro e w5 ⟨gp5, rfl, hI, k1⟩; have HI : Hid (Img w5 (fun k => w4.heap.size ≤ k ∧ k < w5.heap.size) (some ⟨gp5, 0, none⟩) 1 1 none 0 0 none 0 0 (exIm 3)) := hI; have K5 : Hid (Kept No w4 w5) := k1; clear hI k1)
    | (go_at_call 13; refine (ex_inTime _ (HG.out.1.kept ((K2.out.trans K4.out (fun _ h => h.elim)).trans K5.out (fun _ h => h.elim))) (ops_of HG.out.2 ((K2.out.trans K4.out (fun _ h => h.elim)).trans K5.out (fun _ h => h.elim))) HI.out (fun k hk => hk.2)).mono ?_; rintro e w6 ⟨rfl, k2⟩; have K6 : Hid (Kept No w4 w6) := K5.out.trans k2 (fun _ h => h.elim); clear k2))
  clear HI
  have KA : Hid (∀ o, Kept No w6 (w6.alloc o)) := fun o => (Kept.refl No w6).alloc o
  have HR1 : Hid (∀ W, Kept No w2 W → RdN W gl 2 (fun i => if i = 0 then 1 else 6)) := fun W k i hi => by
    have h := k.cell (HN.out.1.2 i hi) (fun h => h)
    rw [h]
    match i, hi with
    | 0, _ => rw [HN.out.2.1]; rfl
    | 1, _ => rw [HN.out.2.2]; rfl
  have HR4 : Hid (∀ W, Kept No w4 W → RdN W gl4 2 (fun i => if i = 0 then 1 else -1)) := fun W k i hi => by
    have h := k.cell (HN4.out.1.2 i hi) (fun h => h)
    rw [h]
    match i, hi with
    | 0, _ => rw [HN4.out.2.1]; rfl
    | 1, _ => rw [HN4.out.2.2]; rfl
  have HL1 : Hid (∀ W : World, RdN (W.alloc (.cells #[.int .i64 1, .int .i64 6] 3)) W.heap.size 2 (fun i => if i = 0 then 1 else 6)) := fun W i hi => by
    match i, hi with
    | 0, _ => simp
    | 1, _ => simp
  have HL4 : Hid (∀ W : World, RdN (W.alloc (.cells #[.int .i64 1, .int .i64 (-1)] 3)) W.heap.size 2 (fun i => if i = 0 then 1 else -1)) := fun W i hi => by
    match i, hi with
    | 0, _ => simp
    | 1, _ => simp
  go_wp2_with fail
  refine (sameInts_any gl _ 2 2 2 (by decide) _ _ _ (HR1.out _ ((K4.out.trans K6.out (fun _ h => h.elim)).alloc _)) (HL1.out _)).mono ?_
  rintro e w7 ⟨rfl, k7⟩
  have E1 : eqB (fun i => if i = 0 then 1 else 6) (fun i => if i = 0 then 1 else 6) 2 = true := by decide
  rw [E1]
  have K7 : Hid (Kept No w6 w7) := (KA.out _).trans k7 (fun _ h => h.elim)
  clear k7 E1 HL1 HR1
  go_wp2_with fail
  refine (sameInts_any gl4 _ 2 2 2 (by decide) _ _ _ (HR4.out _ ((K6.out.trans K7.out (fun _ h => h.elim)).alloc _)) (HL4.out _)).mono ?_
  rintro e w8 ⟨rfl, k8⟩
  have E1 : eqB (fun i => if i = 0 then 1 else -1) (fun i => if i = 0 then 1 else -1) 2 = true := by decide
  rw [E1]
  have K8 : Hid (Kept No w7 w8) := ((Kept.refl No w7).alloc _).trans k8 (fun _ h => h.elim)
  clear k8 E1
  go_wp2
  go_ret
  exact ⟨rfl, ((((K2.out.trans K4.out (fun _ h => h.elim)).trans K6.out (fun _ h => h.elim)).trans K7.out (fun _ h => h.elim)).trans K8.out (fun _ h => h.elim))⟩
end Go.Proofs.YtnmhcnppdhdhfaaGreatDoor
