/-
  'does', 'sure', 'known'.
-/
import Derived.Test.YtijeaonldhccmaaDoorStepAny
import Derived.Test.YtijeaonldhccmaaDoorEqs
import Derived.WalkSmall
namespace Go.Proofs.YtijeaonldhccmaaDoor
open Go.RowKit
set_option linter.unusedVariables false

def r2 (b c : Int) : Nat → Int := upd (upd zeroR 1 b) 2 c
theorem r2_3 (b c : Int) : r2 b c 3 = 0 := rfl
theorem r2_C (b c : Int) : #[Value.int .i64 0, .int .i64 b, .int .i64 c, .int .i64 0, .int .i64 0, .int .i64 0, .int .i64 0, .int .i64 0, .int .i64 0, .int .i64 0, .int .i64 0, .int .i64 0, .int .i64 0, .int .i64 0, .int .i64 0, .int .i64 0] = regC (r2 b c) := rfl
theorem upd_back (R : Nat → Int) (k : Nat) (v : Int) (i : Nat) : upd (upd R k v) k (R k) i = R i := by unfold upd; split <;> simp_all

theorem cs_one (w : World) (x : Ins) (hx : x.ok) : Cs (w.alloc (.cells #[.int .u8 x.o, .int .u8 x.a, .int .u8 x.b, .int .u8 x.c, .int .i32 x.n] 30)) (fun k => k = w.heap.size) (some ⟨w.heap.size, 0, none⟩) 1 1 [x] := by
  refine ⟨rfl, Nat.le_refl _, by omega, (fun h => by cases h), (fun y hy => by simp at hy; subst hy; exact hx), (fun i hi => ?_)⟩
  obtain rfl : i = 0 := by omega
  exact ⟨w.heap.size, 0, rfl, rfl, cell_of_row _ _ _ _ _ _ (heap_alloc_last w _), cell_of_row _ _ _ _ _ _ (heap_alloc_last w _), cell_of_row _ _ _ _ _ _ (heap_alloc_last w _), cell_of_row _ _ _ _ _ _ (heap_alloc_last w _), cell_of_row _ _ _ _ _ _ (heap_alloc_last w _)⟩
theorem ok3 {o : Nat} (h : o < 256) : Ins.ok ⟨o, 3, 1, 2, 0⟩ := by unfold Ins.ok; dsimp only; omega
theorem zs_nil (w : World) : Zs w No none 0 0 [] := ⟨rfl, Nat.le_refl _, by omega, fun _ => rfl, fun i hi => by omega⟩
theorem c21 {w : World} {g : Nat} {R : Nat → Int} {pc : Int} {st : Bool} {ad va fa ca : Int} (h : w.heap[g]? = some (.cells (effC R pc st ad va fa ca) 27)) :
    w.cell? ⟨g, 16, none⟩ = some (.int .i64 pc) ∧ w.cell? ⟨g, 17, none⟩ = some (.bool st) ∧ w.cell? ⟨g, 18, none⟩ = some (.int .i64 ad) ∧ w.cell? ⟨g, 19, none⟩ = some (.int .i64 va) ∧ w.cell? ⟨g, 20, none⟩ = some (.int .i64 fa) ∧ w.cell? ⟨g, 21, none⟩ = some (.int .i64 ca) ∧ ∀ i, w.frozen? ⟨g, i, none⟩ = false :=
  ⟨cell_of_row _ _ _ _ _ _ h, cell_of_row _ _ _ _ _ _ h, cell_of_row _ _ _ _ _ _ h, cell_of_row _ _ _ _ _ _ h, cell_of_row _ _ _ _ _ _ h, cell_of_row _ _ _ _ _ _ h, fun i => by simp [World.frozen?, h]⟩
theorem cR {w : World} {g : Nat} {R : Nat → Int} {pc : Int} {st : Bool} {ad va fa ca : Int} (h : w.heap[g]? = some (.cells (effC R pc st ad va fa ca) 27)) {k : Nat} (hk : k < 16) : w.cell? ⟨g, k, none⟩ = some (.int .i64 (R k)) :=
  (cell_of_row _ _ _ _ _ _ h).trans (effC_at R pc st ad va fa ca hk)
theorem setR_eff {w : World} {g : Nat} {R : Nat → Int} {pc : Int} {st : Bool} {ad va fa ca : Int} (h : w.heap[g]? = some (.cells (effC R pc st ad va fa ca) 27)) {k : Nat} (hk : k < 16) (v : Int) : (w.setCell ⟨g, k, none⟩ (.int .i64 v)).heap[g]? = some (.cells (effC (upd R k v) pc st ad va fa ca) 27) := by
  rw [← effC_set R pc st ad va fa ca hk v]; exact heap_setCell_eq h _
theorem new_store (w : World) (c c' : Array Value) (t : TypeId) : (w.alloc (.cells c t)).setRow w.heap.size c' = w.alloc (.cells c' t) := World.setRow_alloc_new w c c' t

set_option maxHeartbeats 1000000 in
set_option maxRecDepth 100000 in
theorem does_ok (o : Nat) (b c V : Int) (w : World) (ho : o < 256) (hO : Ops w) (hE : stepE [⟨o, 3, 1, 2, 0⟩] [] 0 (r2 b c) 0 = ⟨upd (r2 b c) 3 V, 1, false, 0, 0, 0, 0⟩) :
    Calls Tryd.prog 10 #[.int .u8 o, .int .i64 b, .int .i64 c] w fun ex w' => ex = .returned (.tuple #[.int .i64 V, .bool true]) ∧ Below w.heap.size w w' := by
  have HE : Hid (stepE [⟨o, 3, 1, 2, 0⟩] [] 0 (r2 b c) 0 = ⟨upd (r2 b c) 3 V, 1, false, 0, 0, 0, 0⟩) := hE
  have HOO : Hid (Ops w) := hO
  have H1 := heap_alloc_last w (.cells (regC (r2 b c)) 25)
  have B1 := (Below.refl _ w).alloc (Nat.le_refl _) (.cells (regC (r2 b c)) 25)
  clear hE hO
  go_enter Tryd.func10, Tryd.ntmps10
  go_upto_region 4 with fail
  rw [r2_C]
  generalize w.alloc (.cells (regC (r2 b c)) 25) = w1 at H1 B1 ⊢
  have hlt := heap_lt H1
  have c12 := step_any _ No (r2 b c) _ none 1 1 0 0 0 0 _ [] _ (cs_one w1 ⟨o, 3, 1, 2, 0⟩ (ok3 ho)) (zs_nil _) (HOO.out.below (B1.alloc B1.size _) HOO.out.pos)
  rw [HE.out, ef_v] at c12
  have B2 := B1.alloc B1.size (.cells #[.int .u8 o, .int .u8 3, .int .u8 1, .int .u8 2, .int .i32 0] 30)
  have H2 := (Below.heap_alloc w1 (.cells #[.int .u8 o, .int .u8 3, .int .u8 1, .int .u8 2, .int .i32 0] 30) _ hlt).trans H1
  go_upto_region 5 with (first
    | (refine wl_load25 _ rfl rfl (r2 b c) w.heap.size rfl H2 ?_)
    | (go_at_call 12; refine c12.mono ?_; rintro ex w3 ⟨rfl, b3⟩)
    | (refine wl_alloc27 rfl rfl ?_)
    | (refine wl_store27 _ _ rfl rfl (upd (r2 b c) 3 V) 1 false 0 0 0 0 _ _ rfl rfl (heap_alloc_last _ _) rfl ?_; rw [new_store]))
  have B3 : Below w.heap.size w w3 := B2.trans (b3.mono B2.size)
  have H3 : w3.heap[w.heap.size]? = some (.cells (regC (r2 b c)) 25) := (b3.block _ (heap_lt H2)).trans H2
  clear b3 c12 H2 B2 H1 B1
  have HQ := heap_alloc_last w3 (.cells (effC (upd (r2 b c) 3 V) 1 false 0 0 0 0) 27)
  have HR := (Below.heap_alloc w3 (.cells (effC (upd (r2 b c) 3 V) 1 false 0 0 0 0) 27) _ (heap_lt H3)).trans H3
  have B4 := B3.alloc B3.size (.cells (effC (upd (r2 b c) 3 V) 1 false 0 0 0 0) 27)
  have hq := heap_lt H3
  generalize w3.alloc (.cells (effC (upd (r2 b c) 3 V) 1 false 0 0 0 0) 27) = w4 at HQ HR B4 ⊢
  generalize w3.heap.size = q at HQ hq ⊢
  clear H3 B3 hlt
  have e3 := cR HQ (k := 3) (by decide)
  have z := (c21 HQ).2.2.2.2.2.2 3
  have e3' : w4.cell? ⟨q, 3, none⟩ = some (.int .i64 V) := e3
  have HQ2 : Hid ((w4.setCell ⟨q, 3, none⟩ (.int .i64 0)).heap[q]? = some (.cells (effC (upd (upd (r2 b c) 3 V) 3 0) 1 false 0 0 0 0) 27)) := setR_eff HQ (by decide) 0
  have HR2 : Hid ((w4.setCell ⟨q, 3, none⟩ (.int .i64 0)).heap[w.heap.size]? = some (.cells (regC (r2 b c)) 25)) := (heap_setCell_ne _ _ _ _ (by show w.heap.size ≠ q; omega)).trans HR
  have B5 : Hid (Below w.heap.size w (w4.setCell ⟨q, 3, none⟩ (.int .i64 0))) := B4.setCell (p := ⟨q, 3, none⟩) (by show w.heap.size ≤ q; omega) _
  clear e3
  go_upto_region 7 with fail
  generalize w4.setCell ⟨q, 3, none⟩ (.int .i64 0) = w5 at HQ2 HR2 B5 ⊢
  clear HQ HR B4 z e3'
  obtain ⟨e16, e17, _, _, e20, e21, _⟩ := c21 HQ2.out
  have EQ : eqR (upd (upd (r2 b c) 3 V) 3 0) (r2 b c) = true := eqR_iff.2 fun i _ => upd_back (r2 b c) 3 V i
  refine wp_region_quiet_lit (by kernel_rfl) (by kernel_rfl) ?_
  repeat (first
    | (refine BigFrame.wpQuiet_want rfl (fun K hK => ?_); first
        | (refine quiet_load25 _ rfl q 0 (upd (upd (r2 b c) 3 V) 3 0) rfl (fun w0 hw0 => by obtain ⟨n0, rfl⟩ := hw0; exact range_drewN (range_eff HQ2.out)) ?_; refine hK _ ?_; clear hK K)
        | (refine quiet_load25 _ rfl w.heap.size 0 (r2 b c) rfl (fun w0 hw0 => by obtain ⟨n0, rfl⟩ := hw0; exact range_drewN (range_reg HR2.out)) ?_; refine hK _ ?_; clear hK K)
        | (refine quiet_eq25 _ _ _ rfl (upd (upd (r2 b c) 3 V) 3 0) (r2 b c) rfl rfl ?_; rw [EQ]; refine hK _ ?_; clear hK K))
    | go_big_quiet_step (fail) | quiet_step (fail))
  refine wpQuiet_nil ?_
  intro _ hw'
  obtain ⟨nq, hw''⟩ := hw'
  subst hw''
  go_wp2
  go_ret2
  exact ⟨rfl, below_drewN B5.out _⟩

set_option maxHeartbeats 1000000 in
set_option maxRecDepth 100000 in
theorem does_no (o : Nat) (b c : Int) (w : World) (ho : o < 256) (hO : Ops w) (hE : stepE [⟨o, 3, 1, 2, 0⟩] [] 0 (r2 b c) 0 = ⟨r2 b c, 1, false, 0, 0, 3, 0⟩) :
    Calls Tryd.prog 10 #[.int .u8 o, .int .i64 b, .int .i64 c] w fun ex w' => ex = .returned (.tuple #[.int .i64 0, .bool false]) ∧ Below w.heap.size w w' := by
  have HE : Hid (stepE [⟨o, 3, 1, 2, 0⟩] [] 0 (r2 b c) 0 = ⟨r2 b c, 1, false, 0, 0, 3, 0⟩) := hE
  have HOO : Hid (Ops w) := hO
  have H1 := heap_alloc_last w (.cells (regC (r2 b c)) 25)
  have B1 := (Below.refl _ w).alloc (Nat.le_refl _) (.cells (regC (r2 b c)) 25)
  clear hE hO
  go_enter Tryd.func10, Tryd.ntmps10
  go_upto_region 4 with fail
  rw [r2_C]
  generalize w.alloc (.cells (regC (r2 b c)) 25) = w1 at H1 B1 ⊢
  have hlt := heap_lt H1
  have c12 := step_any _ No (r2 b c) _ none 1 1 0 0 0 0 _ [] _ (cs_one w1 ⟨o, 3, 1, 2, 0⟩ (ok3 ho)) (zs_nil _) (HOO.out.below (B1.alloc B1.size _) HOO.out.pos)
  rw [HE.out, ef_v] at c12
  have B2 := B1.alloc B1.size (.cells #[.int .u8 o, .int .u8 3, .int .u8 1, .int .u8 2, .int .i32 0] 30)
  have H2 := (Below.heap_alloc w1 (.cells #[.int .u8 o, .int .u8 3, .int .u8 1, .int .u8 2, .int .i32 0] 30) _ hlt).trans H1
  go_upto_region 5 with (first
    | (refine wl_load25 _ rfl rfl (r2 b c) w.heap.size rfl H2 ?_)
    | (go_at_call 12; refine c12.mono ?_; rintro ex w3 ⟨rfl, b3⟩)
    | (refine wl_alloc27 rfl rfl ?_)
    | (refine wl_store27 _ _ rfl rfl (r2 b c) 1 false 0 0 3 0 _ _ rfl rfl (heap_alloc_last _ _) rfl ?_; rw [new_store]))
  have B3 : Below w.heap.size w w3 := B2.trans (b3.mono B2.size)
  have H3 : w3.heap[w.heap.size]? = some (.cells (regC (r2 b c)) 25) := (b3.block _ (heap_lt H2)).trans H2
  clear b3 c12 H2 B2 H1 B1
  have HQ := heap_alloc_last w3 (.cells (effC (r2 b c) 1 false 0 0 3 0) 27)
  have HR := (Below.heap_alloc w3 (.cells (effC (r2 b c) 1 false 0 0 3 0) 27) _ (heap_lt H3)).trans H3
  have B4 := B3.alloc B3.size (.cells (effC (r2 b c) 1 false 0 0 3 0) 27)
  have hq := heap_lt H3
  generalize w3.alloc (.cells (effC (r2 b c) 1 false 0 0 3 0) 27) = w4 at HQ HR B4 ⊢
  generalize w3.heap.size = q at HQ hq ⊢
  clear H3 B3 hlt
  have e3 := cR HQ (k := 3) (by decide)
  have z := (c21 HQ).2.2.2.2.2.2 3
  have e3' : w4.cell? ⟨q, 3, none⟩ = some (.int .i64 0) := e3
  have HQ2 : Hid ((w4.setCell ⟨q, 3, none⟩ (.int .i64 0)).heap[q]? = some (.cells (effC (upd (r2 b c) 3 0) 1 false 0 0 3 0) 27)) := setR_eff HQ (by decide) 0
  have B5 : Hid (Below w.heap.size w (w4.setCell ⟨q, 3, none⟩ (.int .i64 0))) := B4.setCell (p := ⟨q, 3, none⟩) (by show w.heap.size ≤ q; omega) _
  clear e3
  go_upto_region 7 with fail
  generalize w4.setCell ⟨q, 3, none⟩ (.int .i64 0) = w5 at HQ2 B5 ⊢
  clear HQ HR B4 z e3'
  obtain ⟨e16, e17, _, _, e20, e21, _⟩ := c21 HQ2.out
  go_quiet (fail)
  go_wp2
  go_ret2
  exact ⟨rfl, below_drewN B5.out _⟩

end Go.Proofs.YtijeaonldhccmaaDoor
