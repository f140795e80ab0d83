/-
  'works'; a slice that is written out.
-/
import Derived.Test.YtgapljgnedbkiaaMarks
namespace Go.Proofs.Ytgapljgnedbkiaa
open Go.RowKit
set_option linter.unusedVariables false

theorem zs_new (w : World) (xs : List Int) (h : xs.length ≤ 1000) (t : TypeId) : Zs (w.alloc (.cells (xs.map iv).toArray t)) (fun k => k = w.heap.size) (some ⟨w.heap.size, 0, none⟩) xs.length xs.length xs := by
  refine ⟨rfl, Nat.le_refl _, by omega, fun h => (by cases h), fun i hi => ⟨w.heap.size, 0, rfl, rfl, ?_⟩⟩
  have e : (w.alloc (.cells (xs.map iv).toArray t)).heap[w.heap.size]? = some (.cells (xs.map iv).toArray t (0, 0)) := heap_alloc_new _ _
  unfold World.cell?
  rw [e]
  simp [List.getD, hi]

theorem Mm.of_yes {w' : World} {B : Nat} {v : Value} {xs : List Int} (h : w'.ownsRow B 2 1 v xs.length (xs.map iv)) (hx : 0 < xs.length) : ∃ g cap, v = .slice (some ⟨g, 0, none⟩) xs.length cap ∧ B ≤ g ∧ Mm w' B v xs [] ∧ cap ≤ 9223372036854775807 ∧ xs.length ≤ cap := by
  have h2 := Mm.of_owns h
  rcases owns_cells h with ⟨_, h0⟩ | ⟨g, cap, rfl, hb, hg, hn, hm, _⟩
  · omega
  · exact ⟨g, cap, rfl, hb, h2, hm, hn⟩

set_option maxHeartbeats 1000000 in
theorem works_any (w : World) : Calls Try.prog 7 #[] w fun ex w' => ex = .returned (.bool true) ∧ Kept No w w' := by
  have c6 := new_yes _ 4 _ 2 2 [10, 20] _ (zs_new w [10, 20] (by decide) 2) (by decide)
  rw [show nwX 4 [10, 20] = [10, 20, 0, 0] from rfl] at c6
  go_enter Try.func7, Try.ntmps7
  go_wp2_with (first
    | (go_at_call 6; refine c6.mono ?_; rintro ex w1 ⟨v, rfl, own, kp⟩; obtain ⟨g, cap, hv, hg, hm, hcm, hcn⟩ := Mm.of_yes own (by decide); obtain rfl : v = .slice (some ⟨g, 0, none⟩) 4 cap := hv; have d0 : w1.cell? ⟨g, 0, none⟩ = some (.int .i64 10) := hm.at_ rfl (by decide); have d1 : w1.cell? ⟨g, 1, none⟩ = some (.int .i64 20) := hm.at_ rfl (by decide); have d2 : w1.cell? ⟨g, 2, none⟩ = some (.int .i64 0) := hm.at_ rfl (by decide); have c13 := store_any _ 2 3 7 (some ⟨g, 0, none⟩) 4 cap [10, 20, 0, 0] [] w1 hm rfl; have KP : Hid (Kept No w w1 ∧ w.heap.size ≤ g) := ⟨((Kept.refl No w).alloc _).trans kp (fun k h => h.elim), by simp at hg; omega⟩; clear own hg hm kp hcn c6)
    | (go_at_call 13; refine c13.mono ?_; rintro ex w2 ⟨rfl, hm2, kp2⟩; obtain ⟨a2, c2, hv2, hz2⟩ := hm2.zs; have c10 := load_any _ 3 (some ⟨g, 0, none⟩) 4 cap [10, 20, 0, 7] w2 (by injection hv2 with e1 e2 e3; rw [e1, e3]; exact hz2); have KP2 : Hid (Kept (fun k => (Value.slice (some ⟨g, 0, none⟩) 4 cap).ownBlock = some k) w1 w2) := kp2; clear hm2 hz2 kp2 hv2)
    | (go_at_call 10; refine c10.mono ?_; rintro ex w3 ⟨rfl, hw⟩; obtain rfl := hw.symm))
  go_ret
  refine ⟨rfl, KP.out.1.trans KP2.out (fun k e => ?_)⟩
  simp [Value.ownBlock] at e
  have := KP.out.2
  exact .inr (by omega)

end Go.Proofs.Ytgapljgnedbkiaa
