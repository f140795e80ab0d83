/-
  What the sort leaves in the memory; the closure.
-/
import Derived.Test.YtffgcijicmfmlaaGreatDoorWNext
import Derived.Shelf.SlSortCmp.InsertionK
namespace Go.Proofs.YtffgcijicmfmlaaGreatDoor
open Go.RowKit Go.Shelf
set_option linter.unusedVariables false

instance : Inhabited Fi := ⟨⟨0, 0⟩⟩
theorem flat_fcL (d : Array Fi) : Sort.flatK fc 2 d = (fcL d.toList).toArray := by
  refine Sort.ext_get! (by rw [Sort.size_flatK]; simp [fcL_length]) (fun t ht => ?_)
  rw [Sort.size_flatK] at ht
  rw [Sort.get_flatK _ _ _ _ ht]
  have hd : t / 2 < d.size := by omega
  have hx : d.toList[t / 2]? = some d[t / 2]! := by
    rw [Array.getElem?_toList, getElem!_pos d (t / 2) hd, Array.getElem?_eq_getElem hd]
  have key : ∀ u, (fcL d.toList)[t]? = some u → (fcL d.toList).toArray[t]! = u := by
    intro u hu
    rw [List.getElem!_toArray, List.getElem!_eq_getElem?_getD, hu]
    rfl
  by_cases h2 : t % 2 = 0
  · rw [h2]
    refine (key _ ?_).symm
    have := fcL_at0 _ _ _ hx
    rw [show t / 2 * 2 = t by omega] at this
    rw [this]
    rfl
  · rw [show t % 2 = 1 by omega]
    refine (key _ ?_).symm
    have := fcL_at1 _ _ _ hx
    rw [show t / 2 * 2 + 1 = t by omega] at this
    rw [this]
    rfl
theorem holds_own {w : World} {B g m cap : Nat} {d : Array Fi} (h : w.ownsRow B 98 2 (.slice (some ⟨g, 0, none⟩) m cap) m (fcL d.toList)) : Sort.HoldsK fc 2 w g 0 d := by
  unfold Sort.HoldsK
  rw [flat_fcL]
  intro j hj
  have hc := h.cells (g := g) rfl j _ (by
    show (fcL d.toList)[j]? = some ((fcL d.toList).toArray[j]!)
    rw [getElem!_pos _ j hj]
    simp only [List.size_toArray] at hj
    rw [List.getElem?_eq_getElem hj]
    rfl)
  rw [add_none] at hc
  refine ⟨hc, ?_⟩
  obtain ⟨_, ⟨h1, _⟩ | ⟨g', cap', cur, hv, hb, hg, _⟩⟩ := h
  · cases h1
  · injection hv with e1 _ _
    injection e1 with e1
    injection e1 with e1 _ _
    subst e1
    simp [World.frozen?, hg]
theorem sort_kept (w : World) (g n : Nat) (d : Array Fi) (os : Array Obj) : Kept (fun j => j = g) w (sortWorldK fc 2 w g 0 n d os) := by
  refine ⟨rfl, rfl, rfl, ?_, fun j hj hn => ?_⟩
  · simp [sortWorldK, Sort.grow, Sort.putRowK, Sort.ahead]
  · simp only [sortWorldK, Sort.grow, Sort.putRowK, Sort.putRow, Sort.mapBlock, Sort.ahead]
    rw [Array.getElem?_append_left (by simpa using hj), Array.getElem?_modify, if_neg (fun e => hn e.symm)]
theorem sort_owns {w : World} {B g m cap n : Nat} {xs : List Fi} {d : Array Fi} {os : Array Obj} (h : w.ownsRow B 98 2 (.slice (some ⟨g, 0, none⟩) m cap) m (fcL xs)) (hd : d.size = m) : (sortWorldK fc 2 w g 0 n d os).ownsRow B 98 2 (.slice (some ⟨g, 0, none⟩) m cap) m (fcL d.toList) := by
  obtain ⟨hl, ⟨h1, _⟩ | ⟨g', cap', cur, hv, hb, hg, hn, hm, hs, ht⟩⟩ := h
  · cases h1
  · injection hv with e1 _ e3
    injection e1 with e1
    injection e1 with e1 _ _
    subst e1 e3
    have hlt := heap_lt hg
    refine ⟨by rw [fcL_length]; simp [hd], .inr ⟨g, cap, Sort.putCells id 0 (Sort.flatK fc 2 d) cur, rfl, hb, ?_, hn, hm, by simp [Sort.putCells, hs], ?_⟩⟩
    · simp only [sortWorldK, Sort.grow, Sort.putRowK, Sort.putRow, Sort.mapBlock, Sort.ahead]
      rw [Array.getElem?_append_left (by simpa using hlt), Array.getElem?_modify, if_pos rfl, hg]
      rfl
    · rw [flat_fcL]
      apply List.ext_getElem?
      intro j
      rw [List.getElem?_take]
      by_cases hj : j < m * 2
      · rw [if_pos hj]
        have hjc : j < cur.size := by rw [hs]; have := Nat.mul_le_mul_right 2 hn; omega
        have hjd : j < (fcL d.toList).length := by rw [fcL_length]; simp [hd]; exact hj
        rw [Array.getElem?_toList]
        unfold Sort.putCells
        rw [Array.getElem?_mapIdx, Array.getElem?_eq_getElem hjc]
        simp only [Option.map_some]
        rw [if_pos (by simp; exact hjd), List.getElem?_eq_getElem hjd]
        simp [hjd]
      · rw [if_neg hj, List.getElem?_eq_none (by rw [fcL_length]; simp [hd]; omega)]

/-- comparing numbers -/
def cmpI (x y : Fi) : Int := if x.i < y.i then -1 else if x.i > y.i then 1 else 0
theorem compare_any (x y : Int) (w : World) : Calls Tryz.prog 121 #[.int .i64 x, .int .i64 y] w fun ex w' => ex = .returned (.int .i64 (if x < y then -1 else if x > y then 1 else 0)) ∧ w' = w := by
  by_cases h1 : x < y
  · rw [if_pos h1]
    go_enter Tryz.func121, Tryz.ntmps121
    go_wp2
    go_ret
    exact ⟨rfl, rfl⟩
  · rw [if_neg h1]
    by_cases h2 : x > y
    · rw [if_pos h2]
      go_enter Tryz.func121, Tryz.ntmps121
      go_wp2
      go_ret
      exact ⟨rfl, rfl⟩
    · rw [if_neg h2]
      go_enter Tryz.func121, Tryz.ntmps121
      go_wp2
      go_ret
      exact ⟨rfl, rfl⟩
theorem closure_any (x y : Fi) (W : World) : Calls Tryz.prog 120 #[.agg #[.int .i64 x.t, .int .i64 x.i], .agg #[.int .i64 y.t, .int .i64 y.i]] W fun e w' => e = .returned (.int .i64 (cmpI x y)) ∧ ∃ q os', w' = Sort.grow (W.drewN q) os' := by
  have hcon := fun W' => compare_any x.i y.i W'
  unfold cmpI
  generalize (if x.i < y.i then (-1 : Int) else if x.i > y.i then 1 else 0) = r at hcon ⊢
  go_enter Tryz.func120, Tryz.ntmps120
  go_wp2_with (go_at_call 121; refine (hcon _).mono ?_; rintro e w' ⟨rfl, rfl⟩)
  go_ret
  exact ⟨rfl, 0, _, by rw [Sort.alloc_eq_grow, Sort.alloc_eq_grow, Sort.grow_grow]; rfl⟩

end Go.Proofs.YtffgcijicmfmlaaGreatDoor
