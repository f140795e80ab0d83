/-
  One text: OJoin, OAgain0.
-/
import Derived.Test.YtnmhcnppdhdhfaaGreatDoorG27
import Derived.Test.YtnmhcnppdhdhfaaGreatDoorG08
namespace Go.Proofs.YtnmhcnppdhdhfaaGreatDoor
open Go.RowKit Plain
set_option linter.unusedVariables false
set_option linter.unusedSimpArgs false
set_option maxRecDepth 100000

def slL : List (Nat × Nat) → List Value
  | [] => []
  | x :: r => nv x.1 :: nv x.2 :: slL r
theorem slL_len : ∀ L : List (Nat × Nat), (slL L).length = L.length * 2
  | [] => rfl
  | x :: r => by simp only [slL, List.length_cons, slL_len r]; omega
theorem slL_app : ∀ L K : List (Nat × Nat), slL (L ++ K) = slL L ++ slL K
  | [], K => rfl
  | x :: r, K => by simp only [slL, List.cons_append, slL_app r K]
theorem slL_one : ∀ L : List (Nat × Nat), ∀ u ∈ slL L, u.oneCell' = true
  | [], u, h => by cases h
  | x :: r, u, h => by
    simp only [slL, List.mem_cons] at h
    rcases h with rfl | rfl | h
    · rfl
    · rfl
    · exact slL_one r u h
theorem slL_at : ∀ (L : List (Nat × Nat)) (i : Nat) (x : Nat × Nat), L[i]? = some x → (slL L)[i * 2]? = some (nv x.1) ∧ (slL L)[i * 2 + 1]? = some (nv x.2)
  | [], i, x, h => by simp at h
  | y :: r, 0, x, h => by simp at h; subst h; exact ⟨rfl, rfl⟩
  | y :: r, i + 1, x, h => by
    simp at h
    have := slL_at r i x h
    have e : (i + 1) * 2 = i * 2 + 2 := by omega
    rw [e]
    exact this
/-- v is an owned list of slots -/
def Ow (w : World) (base : Nat) (v : Value) (L : List (Nat × Nat)) : Prop := w.ownsRow base 75 2 v L.length (slL L)
theorem Tryz.infoSo : (Tryz.prog.info? 75).map (fun i => (i.zero, i.size, i.bytes)) = some (some (.agg #[.int .i64 0, .int .i64 0]), 2, 16) := by kernel_rfl
theorem cell_two (w : World) (x y : Nat) (t : TypeId) : ∀ j u, (slL [(x, y)])[j]? = some u → (w.alloc (.cells #[.int .i64 x, .int .i64 y] t)).cell? (Addr.add ⟨w.heap.size, 0, none⟩ j) = some u := by
  intro j u hj
  match j, hj with
  | 0, hj => simp [slL] at hj; subst hj; simp [Addr.add, nv]
  | 1, hj => simp [slL] at hj; subst hj; simp [Addr.add, nv]
  | j + 2, hj => simp [slL] at hj

/-- what join leaves -/
def Joined (w : World) (base : Nat) (v : Value) (L : List (Nat × Nat)) (x : Nat × Nat) (e : Ending) (w' : World) : Prop :=
  ∃ v', e = .returned v' ∧ Ow w' base v' (Rule.joinL L x) ∧ Kept (fun k => v.ownBlock = some k) w w' ∧ ∀ k, v'.ownBlock = some k → v.ownBlock = some k ∨ w.heap.size ≤ k

set_option maxHeartbeats 1000000 in
theorem join_nil (base : Nat) (a : Option Addr) (c : Nat) (x p : Nat) (w : World) (h : Ow w base (.slice a 0 c) ([])) (hb : base ≤ w.heap.size) :
    Calls Tryz.prog 22 #[.slice a 0 c, .agg #[.int .i64 x, .int .i64 p]] w (Joined w base (.slice a 0 c) ([]) (x, p)) := by
  obtain ⟨i0, hi, hz0, hz1, hz2⟩ := info_parts Tryz.infoSo
  have HJ : Hid (Rule.joinL [] (x, p) = [] ++ [(x, p)]) := rfl
  have HO : Hid (Ow w base (.slice a 0 c) ([])) := h
  clear h
  go_enter Tryz.func22, Tryz.ntmps22
  go_upto_region 2 with fail
  have d0 : (w.alloc (.cells #[.int .i64 x, .int .i64 p] 75)).heap[w.heap.size]? = some (.cells #[.int .i64 x, .int .i64 p] 75) := World.alloc_heap_new _ _
  have HA : Hid (Kept No w (w.alloc (.cells #[.int .i64 x, .int .i64 p] 75)) ∧ Ow (w.alloc (.cells #[.int .i64 x, .int .i64 p] 75)) base (.slice a 0 c) ([])) := ⟨(Kept.refl No w).alloc _, HO.out.alloc _⟩
  obtain ⟨r0, r1⟩ := cells2' d0
  clear d0 HO
  generalize w.alloc (.cells #[.int .i64 x, .int .i64 p] 75) = w1 at *
  go_quiet (fail)
  have r0' : (w1.drewN nq).cell? ⟨w.heap.size, 0, none⟩ = some (.int .i64 x) := r0
  have r1' : (w1.drewN nq).cell? ⟨w.heap.size, 1, none⟩ = some (.int .i64 p) := r1
  have HA' : Hid (Kept No w (w1.drewN nq) ∧ Ow (w1.drewN nq) base (.slice a 0 c) ([])) := ⟨HA.out.1.drewN _, HA.out.2⟩
  clear r0 r1 HA
  generalize w1.drewN nq = w2 at *
  go_wp2_with (at_builtin; refine wpList_append_own_at _ rfl _ _ 33 rfl base 75 i0 (.agg #[.int .i64 0, .int .i64 0]) 2 16 Tryz.underlying33 hi hz0 hz1 hz2 rfl (by decide) _ _ _ rfl (HA'.out.2.alloc _) ⟨w2.heap.size, 0, none⟩ 1 1 (slL [(x, p)]) rfl rfl (cell_two w2 x p _) (slL_one _) (by unfold maxLen; simp) (by simp) (by have := HA'.out.1.size; simp; omega) ?_; intro v9 w10 own10 grow10 _ at10)
  have HN : Hid (Joined w base (.slice a 0 c) ([]) (x, p) (.returned v9) w10) := by
    refine ⟨v9, rfl, ?_, ?_, ?_⟩
    · unfold Ow
      rw [HJ.out, slL_app, List.length_append]
      exact own10
    · exact ((HA'.out.1.alloc _).mono (fun _ h => h.elim)).grown grow10 (fun b e => .inl e)
    · intro k hk
      rcases at10 with h | h
      · rw [h] at hk; exact .inl hk
      · rw [h] at hk; injection hk with hk; have := HA'.out.1.size; simp at hk; exact .inr (by omega)
  clear own10 grow10 at10 r0' r1'
  go_wp2
  go_ret
  exact HN.out

set_option maxHeartbeats 1000000 in
theorem join_more (base : Nat) (g c : Nat) (K : List (Nat × Nat)) (y : Nat × Nat) (x p : Nat) (w : World) (h : Ow w base (.slice (some ⟨g, 0, none⟩) (K.length + 1) c) (K ++ [y])) (hb : base ≤ w.heap.size) (hn : K.length ≤ 4000000) (hne : y.2 ≠ p) :
    Calls Tryz.prog 22 #[.slice (some ⟨g, 0, none⟩) (K.length + 1) c, .agg #[.int .i64 x, .int .i64 p]] w (Joined w base (.slice (some ⟨g, 0, none⟩) (K.length + 1) c) (K ++ [y]) (x, p)) := by
  obtain ⟨i0, hi, hz0, hz1, hz2⟩ := info_parts Tryz.infoSo
  have HJ : Hid (Rule.joinL (K ++ [y]) (x, p) = (K ++ [y]) ++ [(x, p)]) := by show _ = _; rw [Rule.joinL_snoc, if_neg hne]
  have hl : (K ++ [y]).length = K.length + 1 := by simp
  have HC := (slL_at (K ++ [y]) K.length y (by simp)).2
  have HC : Hid (w.cell? ⟨g, K.length * 2 + 1, none⟩ = some (.int .i64 y.2)) := by
    show _ = _
    have := h.cells (g := g) rfl (K.length * 2 + 1) _ HC
    rw [add_none, Nat.zero_add] at this
    exact this
  have hgl : g < w.heap.size := (h.lt g rfl).2
  have HE : Hid (¬ ((y.2 : Int) = (p : Int))) := (show ¬ ((y.2 : Int) = (p : Int)) by omega)
  have HO : Hid (Ow w base (.slice (some ⟨g, 0, none⟩) (K.length + 1) c) (K ++ [y])) := h
  clear h
  go_enter Tryz.func22, Tryz.ntmps22
  go_upto_region 2 with fail
  have d0 : (w.alloc (.cells #[.int .i64 x, .int .i64 p] 75)).heap[w.heap.size]? = some (.cells #[.int .i64 x, .int .i64 p] 75) := World.alloc_heap_new _ _
  have HA : Hid (Kept No w (w.alloc (.cells #[.int .i64 x, .int .i64 p] 75)) ∧ Ow (w.alloc (.cells #[.int .i64 x, .int .i64 p] 75)) base (.slice (some ⟨g, 0, none⟩) (K.length + 1) c) (K ++ [y])) := ⟨(Kept.refl No w).alloc _, HO.out.alloc _⟩
  obtain ⟨r0, r1⟩ := cells2' d0
  clear d0 HO
  have q1 : (w.alloc (.cells #[.int .i64 x, .int .i64 p] 75)).cell? ⟨g, K.length * 2 + 1, none⟩ = some (.int .i64 y.2) := (World.cell?_alloc_lt _ _ _ hgl).trans HC.out
  have hne' := HE.out
  clear HC hgl hne
  generalize w.alloc (.cells #[.int .i64 x, .int .i64 p] 75) = w1 at *
  go_quiet (fail)
  have r0' : (w1.drewN nq).cell? ⟨w.heap.size, 0, none⟩ = some (.int .i64 x) := r0
  have r1' : (w1.drewN nq).cell? ⟨w.heap.size, 1, none⟩ = some (.int .i64 p) := r1
  have HA' : Hid (Kept No w (w1.drewN nq) ∧ Ow (w1.drewN nq) base (.slice (some ⟨g, 0, none⟩) (K.length + 1) c) (K ++ [y])) := ⟨HA.out.1.drewN _, HA.out.2⟩
  clear r0 r1 HA
  generalize w1.drewN nq = w2 at *
  go_wp2_with (at_builtin; refine wpList_append_own_at _ rfl _ _ 33 rfl base 75 i0 (.agg #[.int .i64 0, .int .i64 0]) 2 16 Tryz.underlying33 hi hz0 hz1 hz2 rfl (by decide) _ _ _ rfl (HA'.out.2.alloc _) ⟨w2.heap.size, 0, none⟩ 1 1 (slL [(x, p)]) rfl rfl (cell_two w2 x p _) (slL_one _) (by unfold maxLen; simp; omega) (by simp; omega) (by have := HA'.out.1.size; simp; omega) ?_; intro v9 w10 own10 grow10 _ at10)
  have HN : Hid (Joined w base (.slice (some ⟨g, 0, none⟩) (K.length + 1) c) (K ++ [y]) (x, p) (.returned v9) w10) := by
    refine ⟨v9, rfl, ?_, ?_, ?_⟩
    · unfold Ow
      rw [HJ.out, slL_app, List.length_append]
      exact own10
    · exact ((HA'.out.1.alloc _).mono (fun _ h => h.elim)).grown grow10 (fun b e => .inl e)
    · intro k hk
      rcases at10 with h | h
      · rw [h] at hk; exact .inl hk
      · rw [h] at hk; injection hk with hk; have := HA'.out.1.size; simp at hk; exact .inr (by omega)
  clear own10 grow10 at10 r0' r1'
  go_wp2
  go_ret
  exact HN.out

theorem ow_set {w : World} {base g c : Nat} {K : List (Nat × Nat)} {y : Nat × Nat} {z : Nat} (h : Ow w base (.slice (some ⟨g, 0, none⟩) (K.length + 1) c) (K ++ [y])) : Ow (w.drew.setCell ⟨g, K.length * 2, none⟩ (.int .i64 z)) base (.slice (some ⟨g, 0, none⟩) (K.length + 1) c) (K ++ [(z, y.2)]) := by
  obtain ⟨hl, ⟨h1, _⟩ | ⟨g', cap, cur, hv, hb, hg, hn, hm, hs, ht⟩⟩ := h
  · cases h1
  · injection hv with e1 _ e3
    injection e1 with e1
    injection e1 with e1 _ _
    subst e1 e3
    have hll : (K ++ [(z, y.2)]).length = (K ++ [y]).length := by simp
    refine ⟨by rw [slL_len], .inr ⟨g, c, cur.setIfInBounds (K.length * 2) (.int .i64 z), by rw [hll]; simp, hb, ?_, by rw [hll]; exact hn, hm, by simpa using hs, ?_⟩⟩
    · show (w.drew.heap.modify g _)[g]? = _
      rw [Array.getElem?_modify, if_pos rfl, show w.drew.heap = w.heap from rfl, hg]
      rfl
    · rw [hll, slL_app, Array.toList_setIfInBounds, List.take_set, ht, slL_app]
      rw [List.set_append_right _ _ (by rw [slL_len]; omega), slL_len]
      simp [slL, nv]
set_option maxHeartbeats 1000000 in
theorem join_same (base : Nat) (g c : Nat) (K : List (Nat × Nat)) (y : Nat × Nat) (x : Nat) (w : World) (h : Ow w base (.slice (some ⟨g, 0, none⟩) (K.length + 1) c) (K ++ [y])) (hb : base ≤ w.heap.size) (hn : K.length ≤ 4000000) (hx : y.1 + x ≤ 4611686018427387904) :
    Calls Tryz.prog 22 #[.slice (some ⟨g, 0, none⟩) (K.length + 1) c, .agg #[.int .i64 x, .int .i64 y.2]] w (Joined w base (.slice (some ⟨g, 0, none⟩) (K.length + 1) c) (K ++ [y]) (x, y.2)) := by
  have HJ : Hid (Rule.joinL (K ++ [y]) (x, y.2) = K ++ [(y.1 + x, y.2)]) := by show _ = _; rw [Rule.joinL_snoc, if_pos rfl]
  have hl : (K ++ [y]).length = K.length + 1 := by simp
  obtain ⟨C0, C1⟩ := slL_at (K ++ [y]) K.length y (by simp)
  have HC : Hid (w.cell? ⟨g, K.length * 2, none⟩ = some (.int .i64 y.1) ∧ w.cell? ⟨g, K.length * 2 + 1, none⟩ = some (.int .i64 y.2)) := by
    have c0 := h.cells (g := g) rfl (K.length * 2) _ C0
    have c1 := h.cells (g := g) rfl (K.length * 2 + 1) _ C1
    rw [add_none, Nat.zero_add] at c0 c1
    exact ⟨c0, c1⟩
  have hgl : g < w.heap.size := (h.lt g rfl).2
  have HW : Hid (wrap64 ((y.1 : Int) + x) = ((y.1 + x : Nat) : Int)) := by show wrap64 ((y.1 : Int) + x) = ((y.1 + x : Nat) : Int); unfold wrap64; omega
  have HFZ : Hid (w.frozen? ⟨g, K.length * 2, none⟩ = false) := by
    obtain ⟨_, ⟨h1, _⟩ | ⟨g', cap', cur, hv, hb', hg, _⟩⟩ := h
    · cases h1
    · injection hv with e1 _ _
      injection e1 with e1
      injection e1 with e1 _ _
      subst e1
      show World.frozen? w _ = false
      simp [World.frozen?, hg]
  have HO : Hid (Ow w base (.slice (some ⟨g, 0, none⟩) (K.length + 1) c) (K ++ [y])) := h
  clear h C0 C1 hx
  go_enter Tryz.func22, Tryz.ntmps22
  go_upto_region 2 with fail
  have d0 : (w.alloc (.cells #[.int .i64 x, .int .i64 y.2] 75)).heap[w.heap.size]? = some (.cells #[.int .i64 x, .int .i64 y.2] 75) := World.alloc_heap_new _ _
  have HA : Hid (Kept No w (w.alloc (.cells #[.int .i64 x, .int .i64 y.2] 75)) ∧ Ow (w.alloc (.cells #[.int .i64 x, .int .i64 y.2] 75)) base (.slice (some ⟨g, 0, none⟩) (K.length + 1) c) (K ++ [y]) ∧ (w.alloc (.cells #[.int .i64 x, .int .i64 y.2] 75)).frozen? ⟨g, K.length * 2, none⟩ = false) := ⟨(Kept.refl No w).alloc _, HO.out.alloc _, by
    have e := Below.heap_alloc w (.cells #[.int .i64 x, .int .i64 y.2] 75) g hgl
    have := HFZ.out
    simp only [World.frozen?] at this ⊢
    rw [e]; exact this⟩
  obtain ⟨r0, r1⟩ := cells2' d0
  have q0 : (w.alloc (.cells #[.int .i64 x, .int .i64 y.2] 75)).cell? ⟨g, K.length * 2, none⟩ = some (.int .i64 y.1) := (World.cell?_alloc_lt _ _ _ hgl).trans HC.out.1
  have q1 : (w.alloc (.cells #[.int .i64 x, .int .i64 y.2] 75)).cell? ⟨g, K.length * 2 + 1, none⟩ = some (.int .i64 y.2) := (World.cell?_alloc_lt _ _ _ hgl).trans HC.out.2
  have HNE : Hid (g < w.heap.size) := hgl
  clear d0 HO HC HFZ hgl
  generalize w.alloc (.cells #[.int .i64 x, .int .i64 y.2] 75) = w1 at *
  go_quiet (fail)
  have r0' : (w1.drewN nq).cell? ⟨w.heap.size, 0, none⟩ = some (.int .i64 x) := r0
  have q0' : (w1.drewN nq).cell? ⟨g, K.length * 2, none⟩ = some (.int .i64 y.1) := q0
  have HA' : Hid (Kept No w (w1.drewN nq) ∧ Ow (w1.drewN nq) base (.slice (some ⟨g, 0, none⟩) (K.length + 1) c) (K ++ [y]) ∧ (w1.drewN nq).frozen? ⟨g, K.length * 2, none⟩ = false) := ⟨HA.out.1.drewN _, HA.out.2.1, HA.out.2.2⟩
  clear r0 r1 q0 q1 HA
  generalize w1.drewN nq = w2 at *
  have HFR : Hid (w2.frozen? ⟨g, 0 + K.length * 2, none⟩ = false) := by show w2.frozen? _ = false; rw [Nat.zero_add]; exact HA'.out.2.2
  generalize hB : w.heap.size = B at *
  have HBB : Hid (w.heap.size = B) := hB
  clear hB
  go_upto_region 3 with fail
  have e0 : 0 + K.length * 2 = K.length * 2 := Nat.zero_add _
  rw [← e0] at q0'
  try simp only [Act.put, List.setIfInBounds_toArray, List.set_cons_zero, List.set_cons_succ]
  refine wp_region_held_drew (S := fun w' => w'.cell? ⟨B, 0, none⟩ = some (.int .i64 x)) (by kernel_rfl) r0' (fun hS => ?_)
  refine d_take 0 21 rfl rfl (by kernel_rfl) (by kernel_rfl) (by kernel_rfl) (fun _ _ _ h => h) rfl (fun w' hw' => er_mv _ rfl (.slice (some ⟨g, 0, none⟩) (K.length + 1) c) rfl) hS ?_
  simp only [Act.put, List.setIfInBounds_toArray, List.set_cons_zero, List.set_cons_succ]
  refine d_take 1 22 rfl rfl (by kernel_rfl) (by kernel_rfl) (by kernel_rfl) (fun _ _ _ h => h) rfl (fun w' hw' => er_mv _ rfl (.int .i64 K.length) rfl) hS ?_
  simp only [Act.put, List.setIfInBounds_toArray, List.set_cons_zero, List.set_cons_succ]
  refine d_take 2 23 rfl rfl (by kernel_rfl) (by kernel_rfl) (by kernel_rfl) (fun _ _ _ h => h) rfl (fun w' hw' => er_idxso _ _ rfl g 0 (K.length + 1) c K.length (by omega) (by omega) rfl rfl) hS ?_
  simp only [Act.put, List.setIfInBounds_toArray, List.set_cons_zero, List.set_cons_succ]
  refine d_take 3 24 rfl rfl (by kernel_rfl) (by kernel_rfl) (by kernel_rfl) (fun _ _ _ h => h) rfl (fun w' hw' => er_so0 _ rfl g (0 + K.length * 2) rfl) hS ?_
  simp only [Act.put, List.setIfInBounds_toArray, List.set_cons_zero, List.set_cons_succ]
  refine d_take 5 26 rfl rfl (by kernel_rfl) (by kernel_rfl) (by kernel_rfl) (fun _ _ _ h => h) rfl (fun w' hw' => er_so0 _ rfl B (0) rfl) hS ?_
  simp only [Act.put, List.setIfInBounds_toArray, List.set_cons_zero, List.set_cons_succ]
  refine d_take 6 27 rfl rfl (by kernel_rfl) (by kernel_rfl) (by kernel_rfl) (fun _ _ _ h => h) rfl (fun w' hw' => er_ld3 _ rfl B 0 (.int .i64 x) rfl hw') hS ?_
  simp only [Act.put, List.setIfInBounds_toArray, List.set_cons_zero, List.set_cons_succ]
  refine d_read 4 25 (by kernel_rfl) rfl rfl rfl (er_ld3 _ rfl g (0 + K.length * 2) (.int .i64 y.1) rfl q0') hS ?_
  simp only [Act.put, List.setIfInBounds_toArray, List.set_cons_zero, List.set_cons_succ]
  refine d_take 7 28 rfl rfl (by kernel_rfl) (by kernel_rfl) (by kernel_rfl) (fun _ _ _ h => h) rfl (fun w' hw' => er_add _ _ rfl y.1 x ((y.1 + x : Nat) : Int) rfl rfl HW.out) hS ?_
  simp only [Act.put, List.setIfInBounds_toArray, List.set_cons_zero, List.set_cons_succ]
  refine d_take 8 29 rfl rfl (by kernel_rfl) (by kernel_rfl) (by kernel_rfl) (fun _ _ _ h => h) rfl (fun w' hw' => er_idxso _ _ rfl g 0 (K.length + 1) c K.length (by omega) (by omega) rfl rfl) hS ?_
  simp only [Act.put, List.setIfInBounds_toArray, List.set_cons_zero, List.set_cons_succ]
  refine d_take 9 30 rfl rfl (by kernel_rfl) (by kernel_rfl) (by kernel_rfl) (fun _ _ _ h => h) rfl (fun w' hw' => er_so0 _ rfl g (0 + K.length * 2) rfl) hS ?_
  simp only [Act.put, List.setIfInBounds_toArray, List.set_cons_zero, List.set_cons_succ]
  refine d_turn 10 (by kernel_rfl) rfl rfl rfl (er_st3 _ _ rfl g (0 + K.length * 2) (.int .i64 y.1) ((y.1 + x : Nat) : Int) rfl rfl q0' HFR.out) ?_ ?_
  · rw [World.cell?_setCell_far _ _ _ _ (by have := HNE.out; show g ≠ B; omega)]; exact hS
  refine wpAnyH_done (by kernel_rfl) ?_ _
  have HN : Hid (Joined w base (.slice (some ⟨g, 0, none⟩) (K.length + 1) c) (K ++ [y]) (x, y.2) (.returned (.slice (some ⟨g, 0, none⟩) (K.length + 1) c)) (w2.drew.setCell ⟨g, 0 + K.length * 2, none⟩ (.int .i64 ((y.1 + x : Nat) : Int)))) := by
    refine ⟨_, rfl, ?_, ?_, fun k hk => .inl hk⟩
    · rw [HJ.out, Nat.zero_add]
      exact ow_set HA'.out.2.1
    · have k1 : Kept (fun k => (Value.slice (some ⟨g, 0, none⟩) (K.length + 1) c).ownBlock = some k) w w2.drew := (HA'.out.1.drew).mono (fun _ h => h.elim)
      exact k1.setCell (p := ⟨g, 0 + K.length * 2, none⟩) (.inl rfl) _
  clear hS q0' r0'
  generalize w2.drew.setCell ⟨g, 0 + K.length * 2, none⟩ (.int .i64 ((y.1 + x : Nat) : Int)) = w3 at *
  go_wp2
  go_ret
  exact HN.out

theorem join_any (base : Nat) (v : Value) (L : List (Nat × Nat)) (x p : Nat) (w : World) (h : Ow w base v L) (hb : base ≤ w.heap.size) (hn : L.length ≤ 4000000) (hx : ∀ y ∈ L, y.1 + x ≤ 4611686018427387904) :
    Calls Tryz.prog 22 #[v, .agg #[.int .i64 x, .int .i64 p]] w (Joined w base v L (x, p)) := by
  rcases List.eq_nil_or_concat L with rfl | ⟨K, y, rfl⟩
  · obtain ⟨_, ⟨rfl, _⟩ | ⟨g, cap, cur, rfl, h2⟩⟩ := id h
    · exact join_nil base none 0 x p w h hb
    · exact join_nil base (some ⟨g, 0, none⟩) cap x p w h hb
  · rw [List.concat_eq_append] at *
    have hl : (K ++ [y]).length = K.length + 1 := by simp
    obtain ⟨_, ⟨rfl, h0⟩ | ⟨g, cap, cur, rfl, h2⟩⟩ := id h
    · omega
    · rw [hl] at h ⊢
      by_cases e : y.2 = p
      · subst e
        exact join_same base g cap K y x w h hb (by omega) (hx y (by simp))
      · exact join_more base g cap K y x p w h hb (by omega) e

end Go.Proofs.YtnmhcnppdhdhfaaGreatDoor

namespace Go.Proofs.YtnmhcnppdhdhfaaGreatDoor
open Go.RowKit Go.Shelf Plain
attribute [local go_sem] Oper.semAt_some
set_option linter.unusedVariables false
set_option maxRecDepth 100000

/-- the slots of one turn, of H ticks; from from on f goes by it -/
structure Turn (f : Nat → Nat) (H from' : Nat) (T : List (Nat × Nat)) : Prop where
  tile : Rule.Tile (fun u => f (from' + u)) 0 H T
  per : ∀ u, f (from' + u) = f (from' + u % H)
  pos : 1 ≤ H

theorem Turn.one {f : Nat → Nat} {H from' : Nat} {x : Nat × Nat} (h : Turn f H from' [x]) (u : Nat) : f (from' + u) = x.2 := by
  have hs : x.1 = H := by have := h.tile.sum; simpa using this
  rw [h.per u]
  have := h.tile.at' 0 x rfl (u % H) (by rw [Rule.pre_zero]; omega) (by rw [Rule.pre_zero, hs]; have := Nat.mod_lt u (show H > 0 from h.pos); omega)
  rw [Nat.zero_add] at this
  exact this
theorem Turn.next {f : Nat → Nat} {H from' : Nat} {T : List (Nat × Nat)} (h : Turn f H from' T) {i k : Nat} {x : Nat × Nat} (hx : T[i]? = some x) : ∀ u, Rule.pre T i ≤ u → u < Rule.pre T i + x.1 → f (from' + k * H + u) = x.2 := by
  intro u h1 h2
  have e1 : from' + k * H + u = from' + (k * H + u) := by omega
  have hle : Rule.pre T i + x.1 ≤ H := by
    have := Rule.pre_le h.tile (i + 1)
    rw [Rule.pre_succ hx] at this
    exact this
  have e2 : (k * H + u) % H = u := by
    rw [Nat.mul_comm, Nat.mul_add_mod]
    exact Nat.mod_eq_of_lt (by omega)
  rw [e1, h.per, e2]
  have := h.tile.at' i x hx u h1 h2
  rw [Nat.zero_add] at this
  exact this

end Go.Proofs.YtnmhcnppdhdhfaaGreatDoor
