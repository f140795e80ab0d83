/-
  samePart.
-/
import Derived.Test.YtdohjhhflfnncaaDoorFSp
import Derived.Test.YtdohjhhflfnncaaDoorCPrd
namespace Go.Proofs.YtdohjhhflfnncaaDoor
open Go.RowKit
set_option linter.unusedVariables false
set_option maxRecDepth 100000

theorem Tryd.infoPt : (Tryd.prog.info? 37).map (·.size) = some 21 := by kernel_rfl
theorem er_ldP {w : World} {a : Act} {o : Oper} (x : Operand) (ho : o.op = .load 37 x) (g : Nat) (A : Array Value) (hx : a.eval x = .pointer (some ⟨g, 0, none⟩)) (hg : w.heap[g]? = some (.cells A 37)) (hA : A.size = 21) : (execOp a.eval o).run Tryd.prog w = .ok (.value (.agg A)) w := by
  have h := run_loadVar_row (P := Tryd.prog) w g 37 37 A (0, 0) _ hg Tryd.underlying37 rfl (by rw [hA]; exact Tryd.infoPt)
  unfold execOp
  simp only [ho, hx, Instr.loadAt, Instr.sureAddr, Sem.run_bind, Sem.run_pure, Result.andThen_ok, h]
/-- two partitions' cells: the same but for the code -/
structure Tw (w : World) (F : Nat → Prop) (A A' : Array Value) (x : Pn) : Prop where
  sz : A.size = 21
  sz' : A'.size = 21
  el : elPn w F A.toList x
  eq : ∀ k, k ≠ 7 → A'[k]? = A[k]?
theorem Tw.kept {w w' : World} {F : Nat → Prop} {A A' : Array Value} {x : Pn} (h : Tw w F A A' x) (k : Kept No w w') : Tw w' F A A' x := ⟨h.sz, h.sz', elPn_kept k (fun _ _ h => h) _ _ h.el, h.eq⟩
theorem arr_at {A : Array Value} {l : List Value} (h : A.toList = l) (k : Nat) : A[k]? = l[k]? := by rw [← h]; simp
theorem Tw.server {w : World} {F : Nat → Prop} {A A' : Array Value} {x : Pn} (h : Tw w F A A' x) : Calls Tryd.prog 24 #[.agg A, .agg A'] w fun e w' => e = .returned (.bool true) ∧ Kept No w w' := by
  obtain ⟨⟨c0, m0, d0, c1, m1, d1, c2, m2, d2, c3, m3, d3, c4, m4, d4, c5, m5, d5, hl, _⟩, _⟩ := h.el
  have g := arr_at hl
  exact server_yes w (g 0) (g 1) (g 2) (g 3) ((h.eq 0 (by omega)).trans (g 0)) ((h.eq 1 (by omega)).trans (g 1)) ((h.eq 2 (by omega)).trans (g 2)) ((h.eq 3 (by omega)).trans (g 3))
theorem Tw.memory {w : World} {F : Nat → Prop} {A A' : Array Value} {x : Pn} (h : Tw w F A A' x) : Calls Tryd.prog 34 #[.agg A, .agg A'] w fun e w' => e = .returned (.bool true) ∧ Kept No w w' := by
  obtain ⟨⟨c0, m0, d0, c1, m1, d1, c2, m2, d2, c3, m3, d3, c4, m4, d4, c5, m5, d5, hl, l0, _⟩, _⟩ := h.el
  have g := arr_at hl
  exact memory_yes w (g 4) (g 5) (g 6) ((h.eq 4 (by omega)).trans (g 4)) ((h.eq 5 (by omega)).trans (g 5)) ((h.eq 6 (by omega)).trans (g 6)) l0
theorem Tw.objects {w : World} {F : Nat → Prop} {A A' : Array Value} {x : Pn} (h : Tw w F A A' x) : Calls Tryd.prog 36 #[.agg A, .agg A'] w fun e w' => e = .returned (.bool true) ∧ Kept No w w' := by
  obtain ⟨⟨c0, m0, d0, c1, m1, d1, c2, m2, d2, c3, m3, d3, c4, m4, d4, c5, m5, d5, hl, _, _, _, l3, l4, l5⟩, _⟩ := h.el
  have g := arr_at hl
  exact objects_yes w (g 18) (g 19) (g 20) ((h.eq 18 (by omega)).trans (g 18)) ((h.eq 19 (by omega)).trans (g 19)) ((h.eq 20 (by omega)).trans (g 20)) l3 l4 l5
theorem Tw.work {w : World} {F : Nat → Prop} {A A' : Array Value} {x : Pn} (h : Tw w F A A' x) (h7 : A'[7]? = A[7]?) : Calls Tryd.prog 35 #[.agg A, .agg A'] w fun e w' => e = .returned (.bool true) ∧ Kept No w w' := by
  obtain ⟨⟨c0, m0, d0, c1, m1, d1, c2, m2, d2, c3, m3, d3, c4, m4, d4, c5, m5, d5, hl, _, l1, l2, _⟩, _⟩ := h.el
  have g := arr_at hl
  exact work_yes w (g 7) (g 8) (g 9) (g 10) (g 11) (g 12) (g 13) (g 14) (g 15) (g 16) (g 17) (h7.trans (g 7)) (fun k a b => h.eq k (by omega)) l1 l2
theorem Tw.workn {w : World} {F : Nat → Prop} {A A' : Array Value} {x : Pn} (h : Tw w F A A' x) {b : Option Addr} {m d : Nat} (h7 : A'[7]? = some (.slice b m d)) (hm : m ≠ x.code.length) : Calls Tryd.prog 35 #[.agg A, .agg A'] w fun e w' => e = .returned (.bool false) ∧ Kept No w w' := by
  obtain ⟨⟨c0, m0, d0, c1, m1, d1, c2, m2, d2, c3, m3, d3, c4, m4, d4, c5, m5, d5, hl, _, l1, _⟩, _⟩ := h.el
  exact work_no w (arr_at hl 7) h7 (fun e => hm (by rw [← e]; exact l1.len.symm))
theorem Tw.worknr {w : World} {F : Nat → Prop} {A A' : Array Value} {x : Pn} (h : Tw w F A A' x) {b : Option Addr} {m d : Nat} (h7 : A'[7]? = some (.slice b m d)) (hm : m ≠ x.code.length) : Calls Tryd.prog 35 #[.agg A', .agg A] w fun e w' => e = .returned (.bool false) ∧ Kept No w w' := by
  obtain ⟨⟨c0, m0, d0, c1, m1, d1, c2, m2, d2, c3, m3, d3, c4, m4, d4, c5, m5, d5, hl, _, l1, _⟩, _⟩ := h.el
  exact work_no w h7 (arr_at hl 7) (fun e => hm (by rw [e]; exact l1.len.symm))

set_option maxHeartbeats 8000000 in
theorem samePart_yes {F : Nat → Prop} {A A' : Array Value} {x : Pn} (w : World) (h : Tw w F A A' x) (h7 : A'[7]? = A[7]?) :
    Calls Tryd.prog 28 #[.agg A, .agg A'] w fun e w' => e = .returned (.bool true) ∧ Kept No w w' := by
  have k1 : Kept No w ((w.alloc (.cells A 37)).alloc (.cells A' 37)) := ((Kept.refl No w).alloc _).alloc _
  have hb0 : ((w.alloc (.cells A 37)).alloc (.cells A' 37)).heap[w.heap.size]? = some (.cells A 37) := ((Kept.refl No _).alloc _).at' (alloc_new w _) (fun h => h)
  have hb1 : ((w.alloc (.cells A 37)).alloc (.cells A' 37)).heap[w.heap.size + 1]? = some (.cells A' 37) := by
    have := alloc_new (w.alloc (.cells A 37)) (.cells A' 37)
    rw [World.size_alloc] at this
    exact this
  have HH : Hid (Tw w F A A' x ∧ A'[7]? = A[7]? ∧ A.size = 21 ∧ A'.size = 21) := ⟨h, h7, h.sz, h.sz'⟩
  have HB : Hid (((w.alloc (.cells A 37)).alloc (.cells A' 37)).heap[w.heap.size]? = some (.cells A 37) ∧ ((w.alloc (.cells A 37)).alloc (.cells A' 37)).heap[w.heap.size + 1]? = some (.cells A' 37) ∧ Kept No w ((w.alloc (.cells A 37)).alloc (.cells A' 37))) := ⟨hb0, hb1, k1⟩
  have cA := (h.kept k1).server
  clear h h7 hb0 hb1 k1
  go_enter Tryd.func28, Tryd.ntmps28
  go_wp2_with (first
    | (refine l_take 5 rfl rfl (er_ldP _ rfl w.heap.size A rfl HB.out.1 HH.out.2.2.1) ?_)
    | (refine l_take 6 rfl rfl (er_ldP _ rfl (w.heap.size + 1) A' rfl HB.out.2.1 HH.out.2.2.2) ?_)
    | (go_at_call 24; refine cA.mono ?_; rintro e w1 ⟨rfl, k2⟩; have HC : Hid (w1.heap[w.heap.size]? = some (.cells A 37) ∧ w1.heap[w.heap.size + 1]? = some (.cells A' 37) ∧ Kept No w w1) := ⟨k2.at' HB.out.1 (fun h => h), k2.at' HB.out.2.1 (fun h => h), HB.out.2.2.trans k2 (fun _ h => .inl h)⟩; have cB := (HH.out.1.kept HC.out.2.2).memory; clear k2 cA HB)
    | (refine l_take 9 rfl rfl (er_ldP _ rfl w.heap.size A rfl HC.out.1 HH.out.2.2.1) ?_)
    | (refine l_take 10 rfl rfl (er_ldP _ rfl (w.heap.size + 1) A' rfl HC.out.2.1 HH.out.2.2.2) ?_)
    | (go_at_call 34; refine cB.mono ?_; rintro e w2 ⟨rfl, k3⟩; have HD : Hid (w2.heap[w.heap.size]? = some (.cells A 37) ∧ w2.heap[w.heap.size + 1]? = some (.cells A' 37) ∧ Kept No w w2) := ⟨k3.at' HC.out.1 (fun h => h), k3.at' HC.out.2.1 (fun h => h), HC.out.2.2.trans k3 (fun _ h => .inl h)⟩; have cC := (HH.out.1.kept HD.out.2.2).work HH.out.2.1; clear k3 cB HC)
    | (refine l_take 14 rfl rfl (er_ldP _ rfl w.heap.size A rfl HD.out.1 HH.out.2.2.1) ?_)
    | (refine l_take 15 rfl rfl (er_ldP _ rfl (w.heap.size + 1) A' rfl HD.out.2.1 HH.out.2.2.2) ?_)
    | (go_at_call 35; refine cC.mono ?_; rintro e w3 ⟨rfl, k4⟩; have HE : Hid (w3.heap[w.heap.size]? = some (.cells A 37) ∧ w3.heap[w.heap.size + 1]? = some (.cells A' 37) ∧ Kept No w w3) := ⟨k4.at' HD.out.1 (fun h => h), k4.at' HD.out.2.1 (fun h => h), HD.out.2.2.trans k4 (fun _ h => .inl h)⟩; have cD := (HH.out.1.kept HE.out.2.2).objects; clear k4 cC HD)
    | (refine l_take 19 rfl rfl (er_ldP _ rfl w.heap.size A rfl HE.out.1 HH.out.2.2.1) ?_)
    | (refine l_take 20 rfl rfl (er_ldP _ rfl (w.heap.size + 1) A' rfl HE.out.2.1 HH.out.2.2.2) ?_)
    | (go_at_call 36; refine cD.mono ?_; rintro e w4 ⟨rfl, k5⟩; have HF := hid (HE.out.2.2.trans k5 (fun _ h => .inl h)); clear k5 cD))
  go_ret
  exact ⟨rfl, HF.out⟩
end Go.Proofs.YtdohjhhflfnncaaDoor
