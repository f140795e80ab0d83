/-
  proc: dormant.
-/
import Derived.Test.YtofkacfchkimiaaPGet
namespace Go.Proofs.Ytofkacfchkimiaa
open Go.RowKit Plain
set_option linter.unusedVariables false
set_option maxRecDepth 100000

/-- a process as New makes it -/
def dorm (m en pp per lim : Int) : Pr := { st := 0, pri := 0, pl := 0, rg := fun _ => 0, pc := 0, rel := -1, dl := -1, un := -1, late := false, ob := 0, ad := 0, da := .slice none 0 0, ws := [], mis := m, en := en, pp := pp, per := per, lim := lim }
theorem list_build {ops : Array Oper} {rest : List Oper} {o : Oper} {a : Act} {w : World} {Q : Exit → Act → World → Prop} (hg : o.guard = none) (t : TypeId) (parts : Array (Nat × Operand)) (ho : o.op = .build t parts) (l : List (Nat × Value)) (hl : (parts.map fun (i, x) => (i, a.eval x)).toList = l) (A : Array Value) (hb : Try.prog.built t l = some A)
    (h : wpList Try.prog ops Q rest (a.put o.dst (.agg A)) w) : wpList Try.prog ops Q (o :: rest) a w := by
  subst hl
  refine wpList_build hg t parts ho (by rw [hb]; rfl) ?_
  rw [hb]
  exact h
set_option maxHeartbeats 2000000 in
theorem dormant_any (m : Int) (w : World) : Calls Try.prog 33 #[.int .i64 m] w fun e w' => e = .returned (.agg ((dorm m 0 0 0 0).val (.slice none 0 0))) ∧ Kept No w w' := by
  have k1 : Kept No w (w.alloc (.cells Z28 48)) := (Kept.refl No w).alloc _
  have hB := alloc_new w (.cells Z28 48)
  have ez : (w.alloc (.cells #[.int .i64 0, .int .i64 0, .int .i64 0, .int .i64 0, .int .i64 0, .int .i64 0, .int .i64 0, .int .i64 0, .int .i64 0, .int .i64 0, .int .i64 0, .int .i64 0, .int .i64 0, .int .i64 0, .int .i64 0, .int .i64 0, .int .i64 0, .int .i64 0, .int .i64 0, .int .i64 0, .int .i64 0, .int .i64 0, .int .i64 0, .bool false, .int .i64 0, .int .i64 0, .slice none 0 0, .int .i64 0] 48)) = w.alloc (.cells Z28 48) := rfl
  have hb : Hid (Try.prog.built 48 [(5, .int .i64 (-1)), (6, .int .i64 (-1)), (7, .int .i64 (-1)), (12, .int .i64 m)] = some ((dorm m 0 0 0 0).val (.slice none 0 0))) := by
    show Try.prog.built _ _ = _
    kernel_rfl
  go_enter Try.func33, Try.ntmps33
  go_upto_region 1 with fail
  clear ez
  refine wp_region_lit ?_
  refine list_val rfl (er_mv _ rfl (.int .i64 m) rfl) ?_
  simp only [Act.put, List.setIfInBounds_toArray, List.set_cons_zero, List.set_cons_succ]
  refine list_build rfl 48 _ rfl [(5, .int .i64 (-1)), (6, .int .i64 (-1)), (7, .int .i64 (-1)), (12, .int .i64 m)] (by kernel_rfl) _ hb.out ?_
  simp only [Act.put, List.setIfInBounds_toArray, List.set_cons_zero, List.set_cons_succ]
  refine wpList_store_row rfl 48 (.tmp 2) (.tmp 4) rfl w.heap.size ((dorm m 0 0 0 0).val (.slice none 0 0)) rfl rfl _ Z28 hB Try.info48 rfl (val_one _) ?_
  simp only [Act.put]
  have hr := setRow_heap _ w.heap.size Z28 ((dorm m 0 0 0 0).val (.slice none 0 0)) 48 (0, 0) hB
  have k5 : Kept No w ((w.alloc (.cells Z28 48)).setRow w.heap.size ((dorm m 0 0 0 0).val (.slice none 0 0))) := k1.setRow (.inr (Nat.le_refl _)) _
  have HZ : Hid (((w.alloc (.cells Z28 48)).setRow w.heap.size ((dorm m 0 0 0 0).val (.slice none 0 0))).heap[w.heap.size]? = some (.cells ((dorm m 0 0 0 0).val (.slice none 0 0)) 48) ∧ Kept No w ((w.alloc (.cells Z28 48)).setRow w.heap.size ((dorm m 0 0 0 0).val (.slice none 0 0)))) := ⟨hr, k5⟩
  clear hr k5 hB k1 hb
  generalize ((w.alloc (.cells Z28 48)).setRow w.heap.size ((dorm m 0 0 0 0).val (.slice none 0 0))) = w4 at *
  go_wp2
  refine bodyPost_ret (results_cell_row rfl _ _ w.heap.size 48 _ (0, 0) _ rfl HZ.out.1 Try.underlying48 rfl Try.info48) rfl ?_
  exact ⟨rfl, HZ.out.2⟩
end Go.Proofs.Ytofkacfchkimiaa
