/-
  samePart, where the code is longer.
-/
import Derived.Test.YtdohjhhflfnncaaDoorFSm
namespace Go.Proofs.YtdohjhhflfnncaaDoor
open Go.RowKit
set_option linter.unusedVariables false
set_option maxRecDepth 100000

theorem Tw.serverr {w : World} {F : Nat → Prop} {A A' : Array Value} {x : Pn} (h : Tw w F A A' x) : Calls Tryd.prog 24 #[.agg A', .agg A] w fun e w' => e = .returned (.bool true) ∧ Kept No w w' := by
  obtain ⟨⟨c0, m0, d0, c1, m1, d1, c2, m2, d2, c3, m3, d3, c4, m4, d4, c5, m5, d5, hl, _⟩, _⟩ := h.el
  have g := arr_at hl
  exact server_yes w ((h.eq 0 (by omega)).trans (g 0)) ((h.eq 1 (by omega)).trans (g 1)) ((h.eq 2 (by omega)).trans (g 2)) ((h.eq 3 (by omega)).trans (g 3)) (g 0) (g 1) (g 2) (g 3)
theorem Tw.memoryr {w : World} {F : Nat → Prop} {A A' : Array Value} {x : Pn} (h : Tw w F A A' x) : Calls Tryd.prog 34 #[.agg A', .agg A] w fun e w' => e = .returned (.bool true) ∧ Kept No w w' := by
  obtain ⟨⟨c0, m0, d0, c1, m1, d1, c2, m2, d2, c3, m3, d3, c4, m4, d4, c5, m5, d5, hl, l0, _⟩, _⟩ := h.el
  have g := arr_at hl
  exact memory_yes w ((h.eq 4 (by omega)).trans (g 4)) ((h.eq 5 (by omega)).trans (g 5)) ((h.eq 6 (by omega)).trans (g 6)) (g 4) (g 5) (g 6) l0

set_option maxHeartbeats 8000000 in
theorem samePart_no {F : Nat → Prop} {A A' : Array Value} {x : Pn} (w : World) (h : Tw w F A A' x) {b : Option Addr} {m d : Nat} (h7 : A'[7]? = some (.slice b m d)) (hm : m ≠ x.code.length) :
    Calls Tryd.prog 28 #[.agg A, .agg A'] w fun e w' => e = .returned (.bool false) ∧ Kept No w w' := by
  have k1 : Kept No w ((w.alloc (.cells A 37)).alloc (.cells A' 37)) := ((Kept.refl No w).alloc _).alloc _
  have hb0 : ((w.alloc (.cells A 37)).alloc (.cells A' 37)).heap[w.heap.size]? = some (.cells A 37) := ((Kept.refl No _).alloc _).at' (alloc_new w _) (fun h => h)
  have hb1 : ((w.alloc (.cells A 37)).alloc (.cells A' 37)).heap[w.heap.size + 1]? = some (.cells A' 37) := by
    have := alloc_new (w.alloc (.cells A 37)) (.cells A' 37)
    rw [World.size_alloc] at this
    exact this
  have HH : Hid (Tw w F A A' x ∧ (A'[7]? = some (.slice b m d) ∧ m ≠ x.code.length) ∧ A.size = 21 ∧ A'.size = 21) := ⟨h, ⟨h7, hm⟩, h.sz, h.sz'⟩
  have HB : Hid (((w.alloc (.cells A 37)).alloc (.cells A' 37)).heap[w.heap.size]? = some (.cells A 37) ∧ ((w.alloc (.cells A 37)).alloc (.cells A' 37)).heap[w.heap.size + 1]? = some (.cells A' 37) ∧ Kept No w ((w.alloc (.cells A 37)).alloc (.cells A' 37))) := ⟨hb0, hb1, k1⟩
  have cA := (h.kept k1).server
  clear h h7 hm hb0 hb1 k1
  go_enter Tryd.func28, Tryd.ntmps28
  go_wp2_with (first
    | (refine l_take 5 rfl rfl (er_ldP _ rfl w.heap.size A rfl HB.out.1 HH.out.2.2.1) ?_)
    | (refine l_take 6 rfl rfl (er_ldP _ rfl (w.heap.size + 1) A' rfl HB.out.2.1 HH.out.2.2.2) ?_)
    | (go_at_call 24; refine cA.mono ?_; rintro e w1 ⟨rfl, k2⟩; have HC : Hid (w1.heap[w.heap.size]? = some (.cells A 37) ∧ w1.heap[w.heap.size + 1]? = some (.cells A' 37) ∧ Kept No w w1) := ⟨k2.at' HB.out.1 (fun h => h), k2.at' HB.out.2.1 (fun h => h), HB.out.2.2.trans k2 (fun _ h => .inl h)⟩; have cB := (HH.out.1.kept HC.out.2.2).memory; clear k2 cA HB)
    | (refine l_take 9 rfl rfl (er_ldP _ rfl w.heap.size A rfl HC.out.1 HH.out.2.2.1) ?_)
    | (refine l_take 10 rfl rfl (er_ldP _ rfl (w.heap.size + 1) A' rfl HC.out.2.1 HH.out.2.2.2) ?_)
    | (go_at_call 34; refine cB.mono ?_; rintro e w2 ⟨rfl, k3⟩; have HD : Hid (w2.heap[w.heap.size]? = some (.cells A 37) ∧ w2.heap[w.heap.size + 1]? = some (.cells A' 37) ∧ Kept No w w2) := ⟨k3.at' HC.out.1 (fun h => h), k3.at' HC.out.2.1 (fun h => h), HC.out.2.2.trans k3 (fun _ h => .inl h)⟩; have cC := (HH.out.1.kept HD.out.2.2).workn HH.out.2.1.1 HH.out.2.1.2; clear k3 cB HC)
    | (refine l_take 14 rfl rfl (er_ldP _ rfl w.heap.size A rfl HD.out.1 HH.out.2.2.1) ?_)
    | (refine l_take 15 rfl rfl (er_ldP _ rfl (w.heap.size + 1) A' rfl HD.out.2.1 HH.out.2.2.2) ?_)
    | (go_at_call 35; refine cC.mono ?_; rintro e w3 ⟨rfl, k4⟩; have HE := hid (HD.out.2.2.trans k4 (fun _ h => .inl h)); clear k4 cC))
  go_ret
  exact ⟨rfl, HE.out⟩

set_option maxHeartbeats 8000000 in
theorem samePart_nor {F : Nat → Prop} {A A' : Array Value} {x : Pn} (w : World) (h : Tw w F A A' x) {b : Option Addr} {m d : Nat} (h7 : A'[7]? = some (.slice b m d)) (hm : m ≠ x.code.length) :
    Calls Tryd.prog 28 #[.agg A', .agg A] w fun e w' => e = .returned (.bool false) ∧ Kept No w w' := by
  have k1 : Kept No w ((w.alloc (.cells A' 37)).alloc (.cells A 37)) := ((Kept.refl No w).alloc _).alloc _
  have hb0 : ((w.alloc (.cells A' 37)).alloc (.cells A 37)).heap[w.heap.size]? = some (.cells A' 37) := ((Kept.refl No _).alloc _).at' (alloc_new w _) (fun h => h)
  have hb1 : ((w.alloc (.cells A' 37)).alloc (.cells A 37)).heap[w.heap.size + 1]? = some (.cells A 37) := by
    have := alloc_new (w.alloc (.cells A' 37)) (.cells A 37)
    rw [World.size_alloc] at this
    exact this
  have HH : Hid (Tw w F A A' x ∧ (A'[7]? = some (.slice b m d) ∧ m ≠ x.code.length) ∧ A.size = 21 ∧ A'.size = 21) := ⟨h, ⟨h7, hm⟩, h.sz, h.sz'⟩
  have HB : Hid (((w.alloc (.cells A' 37)).alloc (.cells A 37)).heap[w.heap.size]? = some (.cells A' 37) ∧ ((w.alloc (.cells A' 37)).alloc (.cells A 37)).heap[w.heap.size + 1]? = some (.cells A 37) ∧ Kept No w ((w.alloc (.cells A' 37)).alloc (.cells A 37))) := ⟨hb0, hb1, k1⟩
  have cA := (h.kept k1).serverr
  clear h h7 hm hb0 hb1 k1
  go_enter Tryd.func28, Tryd.ntmps28
  go_wp2_with (first
    | (refine l_take 5 rfl rfl (er_ldP _ rfl w.heap.size A' rfl HB.out.1 HH.out.2.2.2) ?_)
    | (refine l_take 6 rfl rfl (er_ldP _ rfl (w.heap.size + 1) A rfl HB.out.2.1 HH.out.2.2.1) ?_)
    | (go_at_call 24; refine cA.mono ?_; rintro e w1 ⟨rfl, k2⟩; have HC : Hid (w1.heap[w.heap.size]? = some (.cells A' 37) ∧ w1.heap[w.heap.size + 1]? = some (.cells A 37) ∧ Kept No w w1) := ⟨k2.at' HB.out.1 (fun h => h), k2.at' HB.out.2.1 (fun h => h), HB.out.2.2.trans k2 (fun _ h => .inl h)⟩; have cB := (HH.out.1.kept HC.out.2.2).memoryr; clear k2 cA HB)
    | (refine l_take 9 rfl rfl (er_ldP _ rfl w.heap.size A' rfl HC.out.1 HH.out.2.2.2) ?_)
    | (refine l_take 10 rfl rfl (er_ldP _ rfl (w.heap.size + 1) A rfl HC.out.2.1 HH.out.2.2.1) ?_)
    | (go_at_call 34; refine cB.mono ?_; rintro e w2 ⟨rfl, k3⟩; have HD : Hid (w2.heap[w.heap.size]? = some (.cells A' 37) ∧ w2.heap[w.heap.size + 1]? = some (.cells A 37) ∧ Kept No w w2) := ⟨k3.at' HC.out.1 (fun h => h), k3.at' HC.out.2.1 (fun h => h), HC.out.2.2.trans k3 (fun _ h => .inl h)⟩; have cC := (HH.out.1.kept HD.out.2.2).worknr HH.out.2.1.1 HH.out.2.1.2; clear k3 cB HC)
    | (refine l_take 14 rfl rfl (er_ldP _ rfl w.heap.size A' rfl HD.out.1 HH.out.2.2.2) ?_)
    | (refine l_take 15 rfl rfl (er_ldP _ rfl (w.heap.size + 1) A rfl HD.out.2.1 HH.out.2.2.1) ?_)
    | (go_at_call 35; refine cC.mono ?_; rintro e w3 ⟨rfl, k4⟩; have HE := hid (HD.out.2.2.trans k4 (fun _ h => .inl h)); clear k4 cC))
  go_ret
  exact ⟨rfl, HE.out⟩
end Go.Proofs.YtdohjhhflfnncaaDoor
