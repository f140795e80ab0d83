/-
  The law's own image: what it is, and what is told of it.
-/
import Derived.Test.YtggejpccjmolhaaGreatDoorWSf
import Derived.Test.YtggejpccjmolhaaGreatDoorYBase
import Derived.Deep.RegionWith
namespace Go.Proofs.YtggejpccjmolhaaGreatDoor
open Go.RowKit Plain
set_option linter.unusedVariables false
set_option linter.unusedSimpArgs false
set_option maxRecDepth 100000

def lvPn : Pn := ⟨1, 1, 0, 0, 0, 0, [], [⟨1, 0, 0, 0, 0⟩], [⟨0, 0, 0, 0, 0, false⟩], 0, 0, 0, 0, 0, 0, 0, 0, 0, [], [], []⟩
def lvIm : Im := ⟨[lvPn], [⟨1, 1, true, 1, 3, 0⟩], [⟨1, 1, [], 4, 10⟩]⟩
theorem lv_ok : chkF lvIm = none := by decide +kernel
theorem lv_stay : syV lvIm 1 = 30 ∧ cnB lvIm.chans 1 = true := by decide +kernel
theorem lv_rate : rtV lvIm.chans 1 21 = 3 ∧ rtB lvIm.chans 1 21 = true := by decide +kernel
def lvCs (v7 v8 : Value) : List Value := [.int .i64 1, .int .i64 1, .int .i64 0, .int .i64 0, .int .i64 0, .int .i64 0, .slice none 0 0, v7, v8, .int .i64 0, .int .i64 0, .int .i64 0, .int .i64 0, .int .i64 0, .int .i64 0, .int .i64 0, .int .i64 0, .int .i64 0, .slice none 0 0, .slice none 0 0, .slice none 0 0]
theorem lvCs_one (a b : Option Addr) (n m c d : Nat) : ∀ v ∈ lvCs (.slice a n c) (.slice b m d), v.oneCell' = true := by
  intro v hv
  simp only [lvCs, List.mem_cons, List.not_mem_nil, or_false] at hv
  rcases hv with rfl | rfl | rfl | rfl | rfl | rfl | rfl | rfl | rfl | rfl | rfl | rfl | rfl | rfl | rfl | rfl | rfl | rfl | rfl | rfl | rfl <;> rfl
theorem lsNil {α : Type} {sz : Nat} {El : World → (Nat → Prop) → List Value → α → Prop} (w : World) (F : Nat → Prop) : Ls sz El w F none 0 0 ([] : List α) := ⟨rfl, Nat.le_refl _, by omega, fun _ => rfl, fun i x hx => by simp at hx⟩
/-- a list of one thing, in a block of its own -/
theorem lsOne {α : Type} {sz : Nat} {El : World → (Nat → Prop) → List Value → α → Prop} {w : World} {F : Nat → Prop} {g : Nat} {t : TypeId} {cs : List Value} {x : α} (h : Bk w g cs t) (hl : cs.length = sz) (hF : F g) (hE : El w F cs x) : Ls sz El w F (some ⟨g, 0, none⟩) 1 1 [x] := by
  refine ⟨rfl, Nat.le_refl _, by omega, fun h => (by cases h), fun i y hy => ?_⟩
  match i, hy with
  | 0, hy =>
    injection hy with hy
    subst hy
    exact ⟨g, 0, cs, rfl, hF, hl, by rw [Nat.zero_mul, Nat.zero_add]; exact h.range, hE⟩
  | n + 1, hy => simp at hy
theorem lv_img {w : World} {F : Nat → Prop} {g1 g2 g3 g4 g5 : Nat} (h1 : Bk w g1 [.int .u8 1, .int .u8 0, .int .u8 0, .int .u8 0, .int .i32 0] 67) (h2 : Bk w g2 [.int .i64 0, .int .i64 0, .int .i64 0, .int .i64 0, .int .i64 0, .bool false] 69) (h3 : Bk w g3 (lvCs (.slice (some ⟨g1, 0, none⟩) 1 1) (.slice (some ⟨g2, 0, none⟩) 1 1)) 59)
    (h4 : Bk w g4 [.int .i64 1, .int .i64 1, .bool true, .int .i64 1, .int .i64 3, .int .i64 0] 41) (h5 : Bk w g5 [.int .i64 1, .int .i64 1, .slice none 0 0, .int .i64 4, .int .i64 10] 34) (f1 : F g1) (f2 : F g2) (f3 : F g3) (f4 : F g4) (f5 : F g5) :
    Img w F (some ⟨g3, 0, none⟩) 1 1 (some ⟨g4, 0, none⟩) 1 1 (some ⟨g5, 0, none⟩) 1 1 lvIm := by
  have l1 : Ls 5 elIns w F (some ⟨g1, 0, none⟩) 1 1 [⟨1, 0, 0, 0, 0⟩] := lsOne h1 rfl f1 ⟨rfl, by unfold okIns; simp [U8, I3]⟩
  have l2 : Ls 6 elPrc w F (some ⟨g2, 0, none⟩) 1 1 [⟨0, 0, 0, 0, 0, false⟩] := lsOne h2 rfl f2 ⟨rfl, by unfold okPrc; simp [I6]⟩
  refine ⟨lsOne h3 rfl f3 ⟨⟨none, 0, 0, _, _, _, _, _, _, none, 0, 0, none, 0, 0, none, 0, 0, rfl, lsNil w F, l1, l2, lsNil w F, lsNil w F, lsNil w F⟩, ?_⟩, lsOne h4 rfl f4 ⟨rfl, ?_⟩, lsOne h5 rfl f5 ⟨⟨none, 0, 0, rfl, lsNil w F⟩, ?_⟩⟩
  · have o1 := l1.all (fun _ _ h => h.2)
    have o2 := l2.all (fun _ _ h => h.2)
    unfold okPn
    refine ⟨?_, ?_, ?_, ?_, ?_, ?_, ?_, o1, o2, ?_, ?_, ?_, ?_, ?_, ?_, ?_, ?_, ?_, ?_, ?_, ?_⟩ <;> simp [lvPn, I6, okL]
  · unfold okPo; simp [I6]
  · unfold okCh; simp [I6, okL]

section
variable {o : Oper} {a : Act} {w : World}
theorem er_buildX (t : TypeId) (parts : Array (Nat × Operand)) (ho : o.op = .build t parts) (l : List (Nat × Value)) (hl : (parts.map fun (i, x) => (i, a.eval x)).toList = l) (A : Array Value) (hb : Tryz.prog.built t l = some A) : (execOp a.eval o).run Tryz.prog w = .ok (.value (.agg A)) w := by
  subst hl
  unfold execOp
  simp only [ho, Sem.run_bind, run_build w t _ A hb, Result.andThen_ok]
  rfl
theorem er_bsIn (x : Operand) (ho : o.op = .buildSlice 52 1 #[(0, x)]) (hx : a.eval x = .agg #[.int .u8 1, .int .u8 0, .int .u8 0, .int .u8 0, .int .i32 0]) : (execOp a.eval o).run Tryz.prog w = .ok (.value (.slice (some ⟨w.heap.size, 0, none⟩) 1 1)) (w.alloc (.cells #[.int .u8 1, .int .u8 0, .int .u8 0, .int .u8 0, .int .i32 0] 67)) := by
  simp only [execOp, ho, List.map_toArray, List.map_cons, List.map_nil, hx]
  simp [go_sem]
theorem er_bsPr (x : Operand) (ho : o.op = .buildSlice 53 1 #[(0, x)]) (hx : a.eval x = .agg #[.int .i64 0, .int .i64 0, .int .i64 0, .int .i64 0, .int .i64 0, .bool false]) : (execOp a.eval o).run Tryz.prog w = .ok (.value (.slice (some ⟨w.heap.size, 0, none⟩) 1 1)) (w.alloc (.cells #[.int .i64 0, .int .i64 0, .int .i64 0, .int .i64 0, .int .i64 0, .bool false] 69)) := by
  simp only [execOp, ho, List.map_toArray, List.map_cons, List.map_nil, hx]
  simp [go_sem]
theorem er_bsPo (x : Operand) (ho : o.op = .buildSlice 23 1 #[(0, x)]) (hx : a.eval x = .agg #[.int .i64 1, .int .i64 1, .bool true, .int .i64 1, .int .i64 3, .int .i64 0]) : (execOp a.eval o).run Tryz.prog w = .ok (.value (.slice (some ⟨w.heap.size, 0, none⟩) 1 1)) (w.alloc (.cells #[.int .i64 1, .int .i64 1, .bool true, .int .i64 1, .int .i64 3, .int .i64 0] 41)) := by
  simp only [execOp, ho, List.map_toArray, List.map_cons, List.map_nil, hx]
  simp [go_sem]
end
theorem lvB (b c : Nat) : Tryz.prog.built 59 [(0, .agg #[.int .i64 1, .int .i64 1, .int .i64 0, .int .i64 0]), (4, .slice (some ⟨b, 0, none⟩) 1 1), (5, .slice (some ⟨c, 0, none⟩) 1 1)] = some (lvCs (.slice (some ⟨b, 0, none⟩) 1 1) (.slice (some ⟨c, 0, none⟩) 1 1)).toArray := by kernel_rfl
theorem lvBs : Tryz.prog.built 50 [(0, .int .i64 1), (1, .int .i64 1)] = some #[.int .i64 1, .int .i64 1, .int .i64 0, .int .i64 0] := by kernel_rfl
theorem lvBi : Tryz.prog.built 67 [(0, .int .u8 1)] = some #[.int .u8 1, .int .u8 0, .int .u8 0, .int .u8 0, .int .i32 0] := by kernel_rfl
theorem lvBp : Tryz.prog.built 69 [] = some #[.int .i64 0, .int .i64 0, .int .i64 0, .int .i64 0, .int .i64 0, .bool false] := by kernel_rfl
theorem lvBo : Tryz.prog.built 41 [(0, .int .i64 1), (1, .int .i64 1), (2, .bool true), (3, .int .i64 1), (4, .int .i64 3)] = some #[.int .i64 1, .int .i64 1, .bool true, .int .i64 1, .int .i64 3, .int .i64 0] := by kernel_rfl
theorem lvBc : Tryz.prog.built 34 [(0, .int .i64 1), (1, .int .i64 1), (3, .int .i64 4), (4, .int .i64 10)] = some #[.int .i64 1, .int .i64 1, .slice none 0 0, .int .i64 4, .int .i64 10] := by kernel_rfl
theorem lvBm (a b c : Option Addr) : Tryz.prog.built 26 [(0, .slice a 1 1), (1, .slice b 1 1), (2, .slice c 1 1)] = some #[.slice a 1 1, .slice b 1 1, .slice c 1 1] := by kernel_rfl

set_option maxHeartbeats 8000000 in
theorem lives_yes (w : World) (hg : Gl w) : Calls Tryz.prog 7 #[] w fun e w' => e = .returned (.bool true) ∧ Kept No w w' := by
  have HG := hid hg
  clear hg
  go_enter Tryz.func7, Tryz.ntmps7
  go_upto_region 1 with fail
  refine wp_region_lit ?_
  refine l_take 6 rfl rfl (er_buildX _ _ rfl [(0, .int .i64 1), (1, .int .i64 1)] (by simp only [List.map_toArray, List.map_cons, List.map_nil] <;> rfl) _ lvBs) ?_
  simp only [Act.put, List.setIfInBounds_toArray, List.set_cons_zero, List.set_cons_succ]
  refine l_take 7 rfl rfl (er_buildX _ _ rfl [(0, .int .u8 1)] (by simp only [List.map_toArray, List.map_cons, List.map_nil] <;> rfl) _ lvBi) ?_
  simp only [Act.put, List.setIfInBounds_toArray, List.set_cons_zero, List.set_cons_succ]
  refine l_make 8 rfl rfl (er_bsIn _ rfl rfl) ?_
  simp only [Act.put, List.setIfInBounds_toArray, List.set_cons_zero, List.set_cons_succ]
  have B1 : Hid (Bk (w.alloc (.cells #[.int .u8 1, .int .u8 0, .int .u8 0, .int .u8 0, .int .i32 0] 67)) w.heap.size (#[.int .u8 1, .int .u8 0, .int .u8 0, .int .u8 0, .int .i32 0]).toList 67) := heap_alloc_new w _
  have K1 : Hid (Kept No w (w.alloc (.cells #[.int .u8 1, .int .u8 0, .int .u8 0, .int .u8 0, .int .i32 0] 67))) := (Kept.refl No w).alloc _
  generalize w.alloc (.cells #[.int .u8 1, .int .u8 0, .int .u8 0, .int .u8 0, .int .i32 0] 67) = w1 at *
  obtain ⟨g1, hg1⟩ : ∃ g, g = w.heap.size := ⟨_, rfl⟩
  rw [← hg1] at B1 ⊢
  have HS1 := hid hg1
  clear hg1
  refine l_take 9 rfl rfl (er_buildX _ _ rfl [] (by simp only [List.map_toArray, List.map_cons, List.map_nil] <;> rfl) _ lvBp) ?_
  simp only [Act.put, List.setIfInBounds_toArray, List.set_cons_zero, List.set_cons_succ]
  refine l_make 10 rfl rfl (er_bsPr _ rfl rfl) ?_
  simp only [Act.put, List.setIfInBounds_toArray, List.set_cons_zero, List.set_cons_succ]
  have B2 : Hid (Bk (w1.alloc (.cells #[.int .i64 0, .int .i64 0, .int .i64 0, .int .i64 0, .int .i64 0, .bool false] 69)) w1.heap.size (#[.int .i64 0, .int .i64 0, .int .i64 0, .int .i64 0, .int .i64 0, .bool false]).toList 69) := heap_alloc_new w1 _
  have K2 : Hid (Kept No w1 (w1.alloc (.cells #[.int .i64 0, .int .i64 0, .int .i64 0, .int .i64 0, .int .i64 0, .bool false] 69))) := (Kept.refl No w1).alloc _
  generalize w1.alloc (.cells #[.int .i64 0, .int .i64 0, .int .i64 0, .int .i64 0, .int .i64 0, .bool false] 69) = w2 at *
  obtain ⟨g2, hg2⟩ : ∃ g, g = w1.heap.size := ⟨_, rfl⟩
  rw [← hg2] at B2 ⊢
  have HS2 := hid hg2
  clear hg2
  obtain ⟨C, hC⟩ : ∃ C, C = lvCs (.slice (some ⟨g1, 0, none⟩) 1 1) (.slice (some ⟨g2, 0, none⟩) 1 1) := ⟨_, rfl⟩
  have hCb := lvB g1 g2
  rw [← hC] at hCb
  have hCl : C.length = 21 := by rw [hC]; rfl
  have hC1 : ∀ v ∈ C, v.oneCell' = true := by rw [hC]; exact lvCs_one _ _ _ _ _ _
  have HC := hid hC
  clear hC
  refine l_take 11 rfl rfl (er_buildX _ _ rfl [(0, .agg #[.int .i64 1, .int .i64 1, .int .i64 0, .int .i64 0]), (4, .slice (some ⟨g1, 0, none⟩) 1 1), (5, .slice (some ⟨g2, 0, none⟩) 1 1)] (by simp only [List.map_toArray, List.map_cons, List.map_nil] <;> rfl) _ hCb) ?_
  simp only [Act.put, List.setIfInBounds_toArray, List.set_cons_zero, List.set_cons_succ]
  refine l_make 12 rfl rfl (er_bsPn _ rfl C hCl hC1 rfl) ?_
  simp only [Act.put, List.setIfInBounds_toArray, List.set_cons_zero, List.set_cons_succ]
  have B3 : Hid (Bk (w2.alloc (.cells C.toArray 59)) w2.heap.size (C.toArray).toList 59) := heap_alloc_new w2 _
  have K3 : Hid (Kept No w2 (w2.alloc (.cells C.toArray 59))) := (Kept.refl No w2).alloc _
  generalize w2.alloc (.cells C.toArray 59) = w3 at *
  obtain ⟨g3, hg3⟩ : ∃ g, g = w2.heap.size := ⟨_, rfl⟩
  rw [← hg3] at B3 ⊢
  have HS3 := hid hg3
  clear hg3
  clear hCb hCl hC1
  refine l_take 13 rfl rfl (er_buildX _ _ rfl [(0, .int .i64 1), (1, .int .i64 1), (2, .bool true), (3, .int .i64 1), (4, .int .i64 3)] (by simp only [List.map_toArray, List.map_cons, List.map_nil] <;> rfl) _ lvBo) ?_
  simp only [Act.put, List.setIfInBounds_toArray, List.set_cons_zero, List.set_cons_succ]
  refine l_make 14 rfl rfl (er_bsPo _ rfl rfl) ?_
  simp only [Act.put, List.setIfInBounds_toArray, List.set_cons_zero, List.set_cons_succ]
  have B4 : Hid (Bk (w3.alloc (.cells #[.int .i64 1, .int .i64 1, .bool true, .int .i64 1, .int .i64 3, .int .i64 0] 41)) w3.heap.size (#[.int .i64 1, .int .i64 1, .bool true, .int .i64 1, .int .i64 3, .int .i64 0]).toList 41) := heap_alloc_new w3 _
  have K4 : Hid (Kept No w3 (w3.alloc (.cells #[.int .i64 1, .int .i64 1, .bool true, .int .i64 1, .int .i64 3, .int .i64 0] 41))) := (Kept.refl No w3).alloc _
  generalize w3.alloc (.cells #[.int .i64 1, .int .i64 1, .bool true, .int .i64 1, .int .i64 3, .int .i64 0] 41) = w4 at *
  obtain ⟨g4, hg4⟩ : ∃ g, g = w3.heap.size := ⟨_, rfl⟩
  rw [← hg4] at B4 ⊢
  have HS4 := hid hg4
  clear hg4
  refine l_take 15 rfl rfl (er_buildX _ _ rfl [(0, .int .i64 1), (1, .int .i64 1), (3, .int .i64 4), (4, .int .i64 10)] (by simp only [List.map_toArray, List.map_cons, List.map_nil] <;> rfl) _ lvBc) ?_
  simp only [Act.put, List.setIfInBounds_toArray, List.set_cons_zero, List.set_cons_succ]
  refine l_make 16 rfl rfl (er_bsCh _ rfl [.int .i64 1, .int .i64 1, .slice none 0 0, .int .i64 4, .int .i64 10] rfl (by intro v hv; simp at hv; rcases hv with rfl | rfl | rfl | rfl | rfl <;> rfl) rfl) ?_
  simp only [Act.put, List.setIfInBounds_toArray, List.set_cons_zero, List.set_cons_succ]
  have B5 : Hid (Bk (w4.alloc (.cells #[.int .i64 1, .int .i64 1, .slice none 0 0, .int .i64 4, .int .i64 10] 34)) w4.heap.size (#[.int .i64 1, .int .i64 1, .slice none 0 0, .int .i64 4, .int .i64 10]).toList 34) := heap_alloc_new w4 _
  have K5 : Hid (Kept No w4 (w4.alloc (.cells #[.int .i64 1, .int .i64 1, .slice none 0 0, .int .i64 4, .int .i64 10] 34))) := (Kept.refl No w4).alloc _
  generalize w4.alloc (.cells #[.int .i64 1, .int .i64 1, .slice none 0 0, .int .i64 4, .int .i64 10] 34) = w5 at *
  obtain ⟨g5, hg5⟩ : ∃ g, g = w4.heap.size := ⟨_, rfl⟩
  rw [← hg5] at B5 ⊢
  have HS5 := hid hg5
  clear hg5
  refine l_take 17 rfl rfl (er_buildX _ _ rfl [(0, .slice (some ⟨g3, 0, none⟩) 1 1), (1, .slice (some ⟨g4, 0, none⟩) 1 1), (2, .slice (some ⟨g5, 0, none⟩) 1 1)] (by simp only [List.map_toArray, List.map_cons, List.map_nil] <;> rfl) _ (lvBm _ _ _)) ?_
  simp only [Act.put, List.setIfInBounds_toArray, List.set_cons_zero, List.set_cons_succ]
  have HIM : Hid (Kept No w w5 ∧ Img w5 (fun _ => True) (some ⟨g3, 0, none⟩) 1 1 (some ⟨g4, 0, none⟩) 1 1 (some ⟨g5, 0, none⟩) 1 1 lvIm) := by
    have k25 := ((K3.out.trans K4.out (fun _ h => h.elim)).trans K5.out (fun _ h => h.elim))
    have k15 := K2.out.trans k25 (fun _ h => h.elim)
    refine ⟨K1.out.trans k15 (fun _ h => h.elim), lv_img (g1 := g1) (g2 := g2) (B1.out.kept k15 (fun h => h)) (B2.out.kept k25 (fun h => h)) ?_ (B4.out.kept K5.out (fun h => h)) B5.out trivial trivial trivial trivial trivial⟩
    have h3 := B3.out.kept (K4.out.trans K5.out (fun _ h => h.elim)) (fun h => h)
    rw [HC.out] at h3
    exact h3
  clear B1 B2 B3 B4 B5 K1 K2 K3 K4 K5 HS1 HS2 HS3 HS4 HS5 HC
  obtain ⟨K0, HM0⟩ := imb w5 (.slice (some ⟨g3, 0, none⟩) 1 1) (.slice (some ⟨g4, 0, none⟩) 1 1) (.slice (some ⟨g5, 0, none⟩) 1 1)
  have HK0 := hid K0
  have HM := hid HM0
  obtain ⟨m0, m1, m2, _⟩ := HM0 _ (Kept.refl _ _)
  clear K0 HM0
  have cS : Hid (∀ W, Kept No w5 W → Calls Tryz.prog 22 #[.agg #[.slice (some ⟨g3, 0, none⟩) 1 1, .slice (some ⟨g4, 0, none⟩) 1 1, .slice (some ⟨g5, 0, none⟩) 1 1], .int .i64 1] W fun e w' => e = .returned (.tuple #[.int .i64 30, .int .i64 0]) ∧ Kept No W w') := fun W k => by
    have h := ageStay_any (F := fun _ => True) 1 W (HG.out.kept (HIM.out.1.trans k (fun _ h => h.elim))) (HIM.out.2.kept k (fun _ _ h => h)) (by omega)
    rw [lv_ok, lv_stay.1, lv_stay.2] at h
    exact h
  have cR : Hid (∀ W, Kept No w5 W → Calls Tryz.prog 8 #[.agg #[.slice (some ⟨g3, 0, none⟩) 1 1, .slice (some ⟨g4, 0, none⟩) 1 1, .slice (some ⟨g5, 0, none⟩) 1 1], .int .i64 1, .int .i64 21] W fun e w' => e = .returned (.tuple #[.int .i64 3, .int .i64 0]) ∧ Kept No W w') := fun W k => by
    have h := ageRate_any (F := fun _ => True) 1 21 W (HG.out.kept (HIM.out.1.trans k (fun _ h => h.elim))) (HIM.out.2.kept k (fun _ _ h => h)) (by omega)
    rw [lv_ok, lv_rate.1, lv_rate.2] at h
    exact h
  go_upto_region 3 with (go_at_call 22; refine (cS.out _ HK0.out).mono ?_; rintro e w6 ⟨rfl, k1⟩; have K6 := hid (HK0.out.trans k1 (fun _ h => h.elim)); obtain ⟨n0, n1, n2, _⟩ := HM.out _ k1; clear k1)
  clear m0 m1 m2
  go_wp2_with (go_at_call 8; refine (cR.out _ K6.out).mono ?_; rintro e w7 ⟨rfl, k1⟩; have K7 := hid (K6.out.trans k1 (fun _ h => h.elim)); clear k1)
  go_ret
  exact ⟨rfl, HIM.out.1.trans K7.out (fun _ h => h.elim)⟩
end Go.Proofs.YtggejpccjmolhaaGreatDoor
