/-
  One text: OJoinP, OJoin, OAgain0.
-/
import Derived.Test.YthdmbikmjimmkaaGreatDoorGG
import Derived.Test.YthdmbikmjimmkaaGreatDoorOEach
import Derived.Test.YthdmbikmjimmkaaGreatDoorOCatch
import Derived.Test.YthdmbikmjimmkaaGreatDoorOPlayI
namespace Go.Proofs.YthdmbikmjimmkaaGreatDoor
namespace Rule
set_option linter.unusedVariables false
set_option linter.unusedSimpArgs false

/-- a slot at the end of a list: its length, its occupant -/
def joinL (L : List (Nat × Nat)) (x : Nat × Nat) : List (Nat × Nat) :=
  match L.getLast? with
  | some y => if y.2 = x.2 then L.dropLast ++ [(y.1 + x.1, x.2)] else L ++ [x]
  | none => [x]
theorem joinL_nil (x : Nat × Nat) : joinL [] x = [x] := rfl
theorem joinL_snoc (L : List (Nat × Nat)) (y x : Nat × Nat) : joinL (L ++ [y]) x = if y.2 = x.2 then L ++ [(y.1 + x.1, x.2)] else L ++ [y] ++ [x] := by
  unfold joinL
  simp only [List.getLast?_append, List.getLast?_singleton, Option.or_some, List.dropLast_concat]
  simp
theorem joinL_two (L : List (Nat × Nat)) (a b p : Nat) : joinL (joinL L (a, p)) (b, p) = joinL L (a + b, p) := by
  rcases List.eq_nil_or_concat L with rfl | ⟨K, y, rfl⟩
  · rw [joinL_nil, joinL_nil]
    show joinL ([] ++ [(a, p)]) (b, p) = _
    rw [joinL_snoc, if_pos rfl]; rfl
  · rw [List.concat_eq_append, joinL_snoc, joinL_snoc]
    by_cases h : y.2 = p
    · rw [if_pos h, if_pos h, joinL_snoc, if_pos rfl, Nat.add_assoc]
    · rw [if_neg h, if_neg h, joinL_snoc, if_pos rfl]

/-- the ticks from a on, m of them, as slots -/
def runsOf (f : Nat → Nat) (a : Nat) : Nat → List (Nat × Nat)
  | 0 => []
  | m + 1 => joinL (runsOf f a m) (1, f (a + m))
theorem runsOf_join (f : Nat → Nat) (a m k p : Nat) (hk : 1 ≤ k) (h : ∀ u, a + m ≤ u → u < a + m + k → f u = p) : runsOf f a (m + k) = joinL (runsOf f a m) (k, p) := by
  induction k with
  | zero => omega
  | succ k ih =>
    by_cases e : k = 0
    · subst e
      show joinL (runsOf f a m) (1, f (a + m)) = _
      rw [h (a + m) (by omega) (by omega)]
    · have := ih (by omega) (fun u x y => h u x (by omega))
      show joinL (runsOf f a (m + k)) (1, f (a + (m + k))) = _
      rw [this, h (a + (m + k)) (by omega) (by omega), joinL_two]

/-- how many ticks the first i slots have -/
def pre (L : List (Nat × Nat)) (i : Nat) : Nat := ((L.take i).map (·.1)).sum
/-- L tells the m ticks of f from a on -/
structure Tile (f : Nat → Nat) (a m : Nat) (L : List (Nat × Nat)) : Prop where
  sum : (L.map (·.1)).sum = m
  pos : ∀ x ∈ L, 1 ≤ x.1
  at' : ∀ i x, L[i]? = some x → ∀ u, pre L i ≤ u → u < pre L i + x.1 → f (a + u) = x.2
theorem pre_all (L : List (Nat × Nat)) : pre L L.length = (L.map (·.1)).sum := by unfold pre; rw [List.take_length]
theorem pre_zero (L : List (Nat × Nat)) : pre L 0 = 0 := rfl
theorem pre_succ {L : List (Nat × Nat)} {i : Nat} {x : Nat × Nat} (h : L[i]? = some x) : pre L (i + 1) = pre L i + x.1 := by
  unfold pre
  rw [List.take_add_one, h]
  simp
theorem pre_app {L K : List (Nat × Nat)} {i : Nat} (h : i ≤ L.length) : pre (L ++ K) i = pre L i := by
  unfold pre
  rw [List.take_append_of_le_length h]
theorem Tile.snoc {f : Nat → Nat} {a m : Nat} {L : List (Nat × Nat)} (h : Tile f a m L) (x : Nat × Nat) (hx : 1 ≤ x.1) (hf : ∀ u, m ≤ u → u < m + x.1 → f (a + u) = x.2) : Tile f a (m + x.1) (L ++ [x]) := by
  refine ⟨by simp [h.sum], fun y hy => ?_, fun i y hy u h1 h2 => ?_⟩
  · rcases List.mem_append.1 hy with h1 | h1
    · exact h.pos y h1
    · simp at h1; subst h1; exact hx
  · by_cases hi : i < L.length
    · rw [List.getElem?_append_left hi] at hy
      rw [pre_app (by omega)] at h1 h2
      exact h.at' i y hy u h1 h2
    · have e : i = L.length := by
        apply Decidable.byContradiction
        intro hn
        rw [List.getElem?_append_right (by omega), List.getElem?_eq_none (by simp; omega)] at hy
        cases hy
      subst e
      simp at hy
      subst hy
      rw [pre_app (Nat.le_refl _), pre_all, h.sum] at h1 h2
      exact hf u h1 h2
theorem Tile.join {f : Nat → Nat} {a m : Nat} {L : List (Nat × Nat)} (h : Tile f a m L) (x : Nat × Nat) (hx : 1 ≤ x.1) (hf : ∀ u, m ≤ u → u < m + x.1 → f (a + u) = x.2) : Tile f a (m + x.1) (joinL L x) := by
  rcases List.eq_nil_or_concat L with rfl | ⟨K, y, rfl⟩
  · rw [joinL_nil]
    exact h.snoc x hx hf
  · rw [List.concat_eq_append] at h ⊢
    rw [joinL_snoc]
    by_cases e : y.2 = x.2
    · rw [if_pos e]
      have hK : (K.map (·.1)).sum + y.1 = m := by have := h.sum; simpa using this
      have hy : (K ++ [y])[K.length]? = some y := by simp
      have hT : Tile f a (K.map (·.1)).sum K := by
        refine ⟨rfl, fun z hz => h.pos z (List.mem_append_left _ hz), fun i z hz u h1 h2 => ?_⟩
        have hi : i < K.length := (List.getElem?_eq_some_iff.1 hz).1
        refine h.at' i z (by rw [List.getElem?_append_left hi]; exact hz) u ?_ ?_
        · rw [pre_app (by omega)]; exact h1
        · rw [pre_app (by omega)]; exact h2
      have := hT.snoc (y.1 + x.1, x.2) (by show 1 ≤ y.1 + x.1; omega) (fun u h1 h2 => by
        by_cases hu : u < m
        · have := h.at' K.length y hy u (by rw [pre_app (Nat.le_refl _), pre_all]; exact h1) (by rw [pre_app (Nat.le_refl _), pre_all]; omega)
          rw [this]; exact e
        · exact hf u (by omega) (by simp only at h2; omega))
      have e2 : (K.map (·.1)).sum + (y.1 + x.1, x.2).1 = m + x.1 := by show (K.map (·.1)).sum + (y.1 + x.1) = m + x.1; omega
      rw [e2] at this
      exact this
    · rw [if_neg e]
      exact h.snoc x hx hf
theorem runsOf_tile (f : Nat → Nat) (a m : Nat) : Tile f a m (runsOf f a m) := by
  induction m with
  | zero => exact ⟨rfl, (fun x hx => by cases hx), (fun i x hx => by simp [runsOf] at hx)⟩
  | succ m ih => exact ih.join (1, f (a + m)) (Nat.le_refl _) (fun u h1 h2 => by
      have : u = m := by simp only at h2; omega
      subst this; rfl)
theorem pre_le {f : Nat → Nat} {a m : Nat} {L : List (Nat × Nat)} (h : Tile f a m L) (i : Nat) : pre L i ≤ m := by
  rw [← h.sum]
  unfold pre
  have : (L.map (·.1)).sum = ((L.take i).map (·.1)).sum + ((L.drop i).map (·.1)).sum := by
    rw [← List.sum_append, ← List.map_append, List.take_append_drop]
  omega
theorem len_le_sum (L : List (Nat × Nat)) (h : ∀ x ∈ L, 1 ≤ x.1) : L.length ≤ (L.map (·.1)).sum := by
  induction L with
  | nil => exact Nat.le_refl _
  | cons x r ih =>
    have h1 := h x (List.mem_cons_self)
    have h2 := ih (fun y hy => h y (List.mem_cons_of_mem _ hy))
    simp only [List.length_cons, List.map_cons, List.sum_cons]
    omega
theorem Tile.len {f : Nat → Nat} {a m : Nat} {L : List (Nat × Nat)} (h : Tile f a m L) : L.length ≤ m := by
  have := len_le_sum L h.pos
  rw [h.sum] at this
  exact this
theorem Tile.elt {f : Nat → Nat} {a m : Nat} {L : List (Nat × Nat)} (h : Tile f a m L) {x : Nat × Nat} (hx : x ∈ L) : x.1 ≤ m := by
  obtain ⟨i, hi, rfl⟩ := List.getElem_of_mem hx
  have h1 := pre_le h (i + 1)
  rw [pre_succ (List.getElem?_eq_getElem hi)] at h1
  omega
end Rule
end Go.Proofs.YthdmbikmjimmkaaGreatDoor

namespace Go.Proofs.YthdmbikmjimmkaaGreatDoor
open Go.RowKit Plain
set_option linter.unusedVariables false
set_option linter.unusedSimpArgs false
set_option maxRecDepth 100000

def slL : List (Nat × Nat) → List Value
  | [] => []
  | x :: r => nv x.1 :: nv x.2 :: slL r
theorem slL_len : ∀ L : List (Nat × Nat), (slL L).length = L.length * 2
  | [] => rfl
  | x :: r => by simp only [slL, List.length_cons, slL_len r]; omega
theorem slL_app : ∀ L K : List (Nat × Nat), slL (L ++ K) = slL L ++ slL K
  | [], K => rfl
  | x :: r, K => by simp only [slL, List.cons_append, slL_app r K]
theorem slL_one : ∀ L : List (Nat × Nat), ∀ u ∈ slL L, u.oneCell' = true
  | [], u, h => by cases h
  | x :: r, u, h => by
    simp only [slL, List.mem_cons] at h
    rcases h with rfl | rfl | h
    · rfl
    · rfl
    · exact slL_one r u h
theorem slL_at : ∀ (L : List (Nat × Nat)) (i : Nat) (x : Nat × Nat), L[i]? = some x → (slL L)[i * 2]? = some (nv x.1) ∧ (slL L)[i * 2 + 1]? = some (nv x.2)
  | [], i, x, h => by simp at h
  | y :: r, 0, x, h => by simp at h; subst h; exact ⟨rfl, rfl⟩
  | y :: r, i + 1, x, h => by
    simp at h
    have := slL_at r i x h
    have e : (i + 1) * 2 = i * 2 + 2 := by omega
    rw [e]
    exact this
/-- v is an owned list of slots -/
def Ow (w : World) (base : Nat) (v : Value) (L : List (Nat × Nat)) : Prop := w.ownsRow base 33 2 v L.length (slL L)
theorem Tryz.infoSo : (Tryz.prog.info? 33).map (fun i => (i.zero, i.size, i.bytes)) = some (some (.agg #[.int .i64 0, .int .i64 0]), 2, 16) := by kernel_rfl
theorem cell_two (w : World) (x y : Nat) (t : TypeId) : ∀ j u, (slL [(x, y)])[j]? = some u → (w.alloc (.cells #[.int .i64 x, .int .i64 y] t)).cell? (Addr.add ⟨w.heap.size, 0, none⟩ j) = some u := by
  intro j u hj
  match j, hj with
  | 0, hj => simp [slL] at hj; subst hj; simp [Addr.add, nv]
  | 1, hj => simp [slL] at hj; subst hj; simp [Addr.add, nv]
  | j + 2, hj => simp [slL] at hj

/-- what join leaves -/
def Joined (w : World) (base : Nat) (v : Value) (L : List (Nat × Nat)) (x : Nat × Nat) (e : Ending) (w' : World) : Prop :=
  ∃ v', e = .returned v' ∧ Ow w' base v' (Rule.joinL L x) ∧ Kept (fun k => v.ownBlock = some k) w w' ∧ ∀ k, v'.ownBlock = some k → v.ownBlock = some k ∨ w.heap.size ≤ k

set_option maxHeartbeats 1000000 in
theorem join_nil (base : Nat) (a : Option Addr) (c : Nat) (x p : Nat) (w : World) (h : Ow w base (.slice a 0 c) ([])) (hb : base ≤ w.heap.size) :
    Calls Tryz.prog 22 #[.slice a 0 c, .agg #[.int .i64 x, .int .i64 p]] w (Joined w base (.slice a 0 c) ([]) (x, p)) := by
  obtain ⟨i0, hi, hz0, hz1, hz2⟩ := info_parts Tryz.infoSo
  have HJ : Hid (Rule.joinL [] (x, p) = [] ++ [(x, p)]) := rfl
  have HO : Hid (Ow w base (.slice a 0 c) ([])) := h
  clear h
  go_enter Tryz.func22, Tryz.ntmps22
  go_upto_region 2 with fail
  have d0 : (w.alloc (.cells #[.int .i64 x, .int .i64 p] 33)).heap[w.heap.size]? = some (.cells #[.int .i64 x, .int .i64 p] 33) := World.alloc_heap_new _ _
  have HA : Hid (Kept No w (w.alloc (.cells #[.int .i64 x, .int .i64 p] 33)) ∧ Ow (w.alloc (.cells #[.int .i64 x, .int .i64 p] 33)) base (.slice a 0 c) ([])) := ⟨(Kept.refl No w).alloc _, HO.out.alloc _⟩
  obtain ⟨r0, r1⟩ := cells2' d0
  clear d0 HO
  generalize w.alloc (.cells #[.int .i64 x, .int .i64 p] 33) = w1 at *
  go_quiet (fail)
  have r0' : (w1.drewN nq).cell? ⟨w.heap.size, 0, none⟩ = some (.int .i64 x) := r0
  have r1' : (w1.drewN nq).cell? ⟨w.heap.size, 1, none⟩ = some (.int .i64 p) := r1
  have HA' : Hid (Kept No w (w1.drewN nq) ∧ Ow (w1.drewN nq) base (.slice a 0 c) ([])) := ⟨HA.out.1.drewN _, HA.out.2⟩
  clear r0 r1 HA
  generalize w1.drewN nq = w2 at *
  go_wp2_with (at_builtin; refine wpList_append_own_at _ rfl _ _ 29 rfl base 33 i0 (.agg #[.int .i64 0, .int .i64 0]) 2 16 Tryz.underlying29 hi hz0 hz1 hz2 rfl (by decide) _ _ _ rfl (HA'.out.2.alloc _) ⟨w2.heap.size, 0, none⟩ 1 1 (slL [(x, p)]) rfl rfl (cell_two w2 x p _) (slL_one _) (by unfold maxLen; simp) (by simp) (by have := HA'.out.1.size; simp; omega) ?_; intro v9 w10 own10 grow10 _ at10)
  have HN : Hid (Joined w base (.slice a 0 c) ([]) (x, p) (.returned v9) w10) := by
    refine ⟨v9, rfl, ?_, ?_, ?_⟩
    · unfold Ow
      rw [HJ.out, slL_app, List.length_append]
      exact own10
    · exact ((HA'.out.1.alloc _).mono (fun _ h => h.elim)).grown grow10 (fun b e => .inl e)
    · intro k hk
      rcases at10 with h | h
      · rw [h] at hk; exact .inl hk
      · rw [h] at hk; injection hk with hk; have := HA'.out.1.size; simp at hk; exact .inr (by omega)
  clear own10 grow10 at10 r0' r1'
  go_wp2
  go_ret
  exact HN.out

set_option maxHeartbeats 1000000 in
theorem join_more (base : Nat) (g c : Nat) (K : List (Nat × Nat)) (y : Nat × Nat) (x p : Nat) (w : World) (h : Ow w base (.slice (some ⟨g, 0, none⟩) (K.length + 1) c) (K ++ [y])) (hb : base ≤ w.heap.size) (hn : K.length ≤ 4000000) (hne : y.2 ≠ p) :
    Calls Tryz.prog 22 #[.slice (some ⟨g, 0, none⟩) (K.length + 1) c, .agg #[.int .i64 x, .int .i64 p]] w (Joined w base (.slice (some ⟨g, 0, none⟩) (K.length + 1) c) (K ++ [y]) (x, p)) := by
  obtain ⟨i0, hi, hz0, hz1, hz2⟩ := info_parts Tryz.infoSo
  have HJ : Hid (Rule.joinL (K ++ [y]) (x, p) = (K ++ [y]) ++ [(x, p)]) := by show _ = _; rw [Rule.joinL_snoc, if_neg hne]
  have hl : (K ++ [y]).length = K.length + 1 := by simp
  have HC := (slL_at (K ++ [y]) K.length y (by simp)).2
  have HC : Hid (w.cell? ⟨g, K.length * 2 + 1, none⟩ = some (.int .i64 y.2)) := by
    show _ = _
    have := h.cells (g := g) rfl (K.length * 2 + 1) _ HC
    rw [add_none, Nat.zero_add] at this
    exact this
  have hgl : g < w.heap.size := (h.lt g rfl).2
  have HE : Hid (¬ ((y.2 : Int) = (p : Int))) := (show ¬ ((y.2 : Int) = (p : Int)) by omega)
  have HO : Hid (Ow w base (.slice (some ⟨g, 0, none⟩) (K.length + 1) c) (K ++ [y])) := h
  clear h
  go_enter Tryz.func22, Tryz.ntmps22
  go_upto_region 2 with fail
  have d0 : (w.alloc (.cells #[.int .i64 x, .int .i64 p] 33)).heap[w.heap.size]? = some (.cells #[.int .i64 x, .int .i64 p] 33) := World.alloc_heap_new _ _
  have HA : Hid (Kept No w (w.alloc (.cells #[.int .i64 x, .int .i64 p] 33)) ∧ Ow (w.alloc (.cells #[.int .i64 x, .int .i64 p] 33)) base (.slice (some ⟨g, 0, none⟩) (K.length + 1) c) (K ++ [y])) := ⟨(Kept.refl No w).alloc _, HO.out.alloc _⟩
  obtain ⟨r0, r1⟩ := cells2' d0
  clear d0 HO
  have q1 : (w.alloc (.cells #[.int .i64 x, .int .i64 p] 33)).cell? ⟨g, K.length * 2 + 1, none⟩ = some (.int .i64 y.2) := (World.cell?_alloc_lt _ _ _ hgl).trans HC.out
  have hne' := HE.out
  clear HC hgl hne
  generalize w.alloc (.cells #[.int .i64 x, .int .i64 p] 33) = w1 at *
  go_quiet (fail)
  have r0' : (w1.drewN nq).cell? ⟨w.heap.size, 0, none⟩ = some (.int .i64 x) := r0
  have r1' : (w1.drewN nq).cell? ⟨w.heap.size, 1, none⟩ = some (.int .i64 p) := r1
  have HA' : Hid (Kept No w (w1.drewN nq) ∧ Ow (w1.drewN nq) base (.slice (some ⟨g, 0, none⟩) (K.length + 1) c) (K ++ [y])) := ⟨HA.out.1.drewN _, HA.out.2⟩
  clear r0 r1 HA
  generalize w1.drewN nq = w2 at *
  go_wp2_with (at_builtin; refine wpList_append_own_at _ rfl _ _ 29 rfl base 33 i0 (.agg #[.int .i64 0, .int .i64 0]) 2 16 Tryz.underlying29 hi hz0 hz1 hz2 rfl (by decide) _ _ _ rfl (HA'.out.2.alloc _) ⟨w2.heap.size, 0, none⟩ 1 1 (slL [(x, p)]) rfl rfl (cell_two w2 x p _) (slL_one _) (by unfold maxLen; simp; omega) (by simp; omega) (by have := HA'.out.1.size; simp; omega) ?_; intro v9 w10 own10 grow10 _ at10)
  have HN : Hid (Joined w base (.slice (some ⟨g, 0, none⟩) (K.length + 1) c) (K ++ [y]) (x, p) (.returned v9) w10) := by
    refine ⟨v9, rfl, ?_, ?_, ?_⟩
    · unfold Ow
      rw [HJ.out, slL_app, List.length_append]
      exact own10
    · exact ((HA'.out.1.alloc _).mono (fun _ h => h.elim)).grown grow10 (fun b e => .inl e)
    · intro k hk
      rcases at10 with h | h
      · rw [h] at hk; exact .inl hk
      · rw [h] at hk; injection hk with hk; have := HA'.out.1.size; simp at hk; exact .inr (by omega)
  clear own10 grow10 at10 r0' r1'
  go_wp2
  go_ret
  exact HN.out

theorem ow_set {w : World} {base g c : Nat} {K : List (Nat × Nat)} {y : Nat × Nat} {z : Nat} (h : Ow w base (.slice (some ⟨g, 0, none⟩) (K.length + 1) c) (K ++ [y])) : Ow (w.drew.setCell ⟨g, K.length * 2, none⟩ (.int .i64 z)) base (.slice (some ⟨g, 0, none⟩) (K.length + 1) c) (K ++ [(z, y.2)]) := by
  obtain ⟨hl, ⟨h1, _⟩ | ⟨g', cap, cur, hv, hb, hg, hn, hm, hs, ht⟩⟩ := h
  · cases h1
  · injection hv with e1 _ e3
    injection e1 with e1
    injection e1 with e1 _ _
    subst e1 e3
    have hll : (K ++ [(z, y.2)]).length = (K ++ [y]).length := by simp
    refine ⟨by rw [slL_len], .inr ⟨g, c, cur.setIfInBounds (K.length * 2) (.int .i64 z), by rw [hll]; simp, hb, ?_, by rw [hll]; exact hn, hm, by simpa using hs, ?_⟩⟩
    · show (w.drew.heap.modify g _)[g]? = _
      rw [Array.getElem?_modify, if_pos rfl, show w.drew.heap = w.heap from rfl, hg]
      rfl
    · rw [hll, slL_app, Array.toList_setIfInBounds, List.take_set, ht, slL_app]
      rw [List.set_append_right _ _ (by rw [slL_len]; omega), slL_len]
      simp [slL, nv]
set_option maxHeartbeats 1000000 in
theorem join_same (base : Nat) (g c : Nat) (K : List (Nat × Nat)) (y : Nat × Nat) (x : Nat) (w : World) (h : Ow w base (.slice (some ⟨g, 0, none⟩) (K.length + 1) c) (K ++ [y])) (hb : base ≤ w.heap.size) (hn : K.length ≤ 4000000) (hx : y.1 + x ≤ 4611686018427387904) :
    Calls Tryz.prog 22 #[.slice (some ⟨g, 0, none⟩) (K.length + 1) c, .agg #[.int .i64 x, .int .i64 y.2]] w (Joined w base (.slice (some ⟨g, 0, none⟩) (K.length + 1) c) (K ++ [y]) (x, y.2)) := by
  have HJ : Hid (Rule.joinL (K ++ [y]) (x, y.2) = K ++ [(y.1 + x, y.2)]) := by show _ = _; rw [Rule.joinL_snoc, if_pos rfl]
  have hl : (K ++ [y]).length = K.length + 1 := by simp
  obtain ⟨C0, C1⟩ := slL_at (K ++ [y]) K.length y (by simp)
  have HC : Hid (w.cell? ⟨g, K.length * 2, none⟩ = some (.int .i64 y.1) ∧ w.cell? ⟨g, K.length * 2 + 1, none⟩ = some (.int .i64 y.2)) := by
    have c0 := h.cells (g := g) rfl (K.length * 2) _ C0
    have c1 := h.cells (g := g) rfl (K.length * 2 + 1) _ C1
    rw [add_none, Nat.zero_add] at c0 c1
    exact ⟨c0, c1⟩
  have hgl : g < w.heap.size := (h.lt g rfl).2
  have HW : Hid (wrap64 ((y.1 : Int) + x) = ((y.1 + x : Nat) : Int)) := by show wrap64 ((y.1 : Int) + x) = ((y.1 + x : Nat) : Int); unfold wrap64; omega
  have HFZ : Hid (w.frozen? ⟨g, K.length * 2, none⟩ = false) := by
    obtain ⟨_, ⟨h1, _⟩ | ⟨g', cap', cur, hv, hb', hg, _⟩⟩ := h
    · cases h1
    · injection hv with e1 _ _
      injection e1 with e1
      injection e1 with e1 _ _
      subst e1
      show World.frozen? w _ = false
      simp [World.frozen?, hg]
  have HO : Hid (Ow w base (.slice (some ⟨g, 0, none⟩) (K.length + 1) c) (K ++ [y])) := h
  clear h C0 C1 hx
  go_enter Tryz.func22, Tryz.ntmps22
  go_upto_region 2 with fail
  have d0 : (w.alloc (.cells #[.int .i64 x, .int .i64 y.2] 33)).heap[w.heap.size]? = some (.cells #[.int .i64 x, .int .i64 y.2] 33) := World.alloc_heap_new _ _
  have HA : Hid (Kept No w (w.alloc (.cells #[.int .i64 x, .int .i64 y.2] 33)) ∧ Ow (w.alloc (.cells #[.int .i64 x, .int .i64 y.2] 33)) base (.slice (some ⟨g, 0, none⟩) (K.length + 1) c) (K ++ [y]) ∧ (w.alloc (.cells #[.int .i64 x, .int .i64 y.2] 33)).frozen? ⟨g, K.length * 2, none⟩ = false) := ⟨(Kept.refl No w).alloc _, HO.out.alloc _, by
    have e := Below.heap_alloc w (.cells #[.int .i64 x, .int .i64 y.2] 33) g hgl
    have := HFZ.out
    simp only [World.frozen?] at this ⊢
    rw [e]; exact this⟩
  obtain ⟨r0, r1⟩ := cells2' d0
  have q0 : (w.alloc (.cells #[.int .i64 x, .int .i64 y.2] 33)).cell? ⟨g, K.length * 2, none⟩ = some (.int .i64 y.1) := (World.cell?_alloc_lt _ _ _ hgl).trans HC.out.1
  have q1 : (w.alloc (.cells #[.int .i64 x, .int .i64 y.2] 33)).cell? ⟨g, K.length * 2 + 1, none⟩ = some (.int .i64 y.2) := (World.cell?_alloc_lt _ _ _ hgl).trans HC.out.2
  have HNE : Hid (g < w.heap.size) := hgl
  clear d0 HO HC HFZ hgl
  generalize w.alloc (.cells #[.int .i64 x, .int .i64 y.2] 33) = w1 at *
  go_quiet (fail)
  have r0' : (w1.drewN nq).cell? ⟨w.heap.size, 0, none⟩ = some (.int .i64 x) := r0
  have q0' : (w1.drewN nq).cell? ⟨g, K.length * 2, none⟩ = some (.int .i64 y.1) := q0
  have HA' : Hid (Kept No w (w1.drewN nq) ∧ Ow (w1.drewN nq) base (.slice (some ⟨g, 0, none⟩) (K.length + 1) c) (K ++ [y]) ∧ (w1.drewN nq).frozen? ⟨g, K.length * 2, none⟩ = false) := ⟨HA.out.1.drewN _, HA.out.2.1, HA.out.2.2⟩
  clear r0 r1 q0 q1 HA
  generalize w1.drewN nq = w2 at *
  have HFR : Hid (w2.frozen? ⟨g, 0 + K.length * 2, none⟩ = false) := by show w2.frozen? _ = false; rw [Nat.zero_add]; exact HA'.out.2.2
  generalize hB : w.heap.size = B at *
  have HBB : Hid (w.heap.size = B) := hB
  clear hB
  go_upto_region 3 with fail
  have e0 : 0 + K.length * 2 = K.length * 2 := Nat.zero_add _
  rw [← e0] at q0'
  try simp only [Act.put, List.setIfInBounds_toArray, List.set_cons_zero, List.set_cons_succ]
  refine wp_region_held_drew (S := fun w' => w'.cell? ⟨B, 0, none⟩ = some (.int .i64 x)) (by kernel_rfl) r0' (fun hS => ?_)
  refine d_take 0 21 rfl rfl (by kernel_rfl) (by kernel_rfl) (by kernel_rfl) (fun _ _ _ h => h) rfl (fun w' hw' => er_mv _ rfl (.slice (some ⟨g, 0, none⟩) (K.length + 1) c) rfl) hS ?_
  simp only [Act.put, List.setIfInBounds_toArray, List.set_cons_zero, List.set_cons_succ]
  refine d_take 1 22 rfl rfl (by kernel_rfl) (by kernel_rfl) (by kernel_rfl) (fun _ _ _ h => h) rfl (fun w' hw' => er_mv _ rfl (.int .i64 K.length) rfl) hS ?_
  simp only [Act.put, List.setIfInBounds_toArray, List.set_cons_zero, List.set_cons_succ]
  refine d_take 2 23 rfl rfl (by kernel_rfl) (by kernel_rfl) (by kernel_rfl) (fun _ _ _ h => h) rfl (fun w' hw' => er_idxso _ _ rfl g 0 (K.length + 1) c K.length (by omega) (by omega) rfl rfl) hS ?_
  simp only [Act.put, List.setIfInBounds_toArray, List.set_cons_zero, List.set_cons_succ]
  refine d_take 3 24 rfl rfl (by kernel_rfl) (by kernel_rfl) (by kernel_rfl) (fun _ _ _ h => h) rfl (fun w' hw' => er_so0 _ rfl g (0 + K.length * 2) rfl) hS ?_
  simp only [Act.put, List.setIfInBounds_toArray, List.set_cons_zero, List.set_cons_succ]
  refine d_take 5 26 rfl rfl (by kernel_rfl) (by kernel_rfl) (by kernel_rfl) (fun _ _ _ h => h) rfl (fun w' hw' => er_so0 _ rfl B (0) rfl) hS ?_
  simp only [Act.put, List.setIfInBounds_toArray, List.set_cons_zero, List.set_cons_succ]
  refine d_take 6 27 rfl rfl (by kernel_rfl) (by kernel_rfl) (by kernel_rfl) (fun _ _ _ h => h) rfl (fun w' hw' => er_ld3 _ rfl B 0 (.int .i64 x) rfl hw') hS ?_
  simp only [Act.put, List.setIfInBounds_toArray, List.set_cons_zero, List.set_cons_succ]
  refine d_read 4 25 (by kernel_rfl) rfl rfl rfl (er_ld3 _ rfl g (0 + K.length * 2) (.int .i64 y.1) rfl q0') hS ?_
  simp only [Act.put, List.setIfInBounds_toArray, List.set_cons_zero, List.set_cons_succ]
  refine d_take 7 28 rfl rfl (by kernel_rfl) (by kernel_rfl) (by kernel_rfl) (fun _ _ _ h => h) rfl (fun w' hw' => er_add _ _ rfl y.1 x ((y.1 + x : Nat) : Int) rfl rfl HW.out) hS ?_
  simp only [Act.put, List.setIfInBounds_toArray, List.set_cons_zero, List.set_cons_succ]
  refine d_take 8 29 rfl rfl (by kernel_rfl) (by kernel_rfl) (by kernel_rfl) (fun _ _ _ h => h) rfl (fun w' hw' => er_idxso _ _ rfl g 0 (K.length + 1) c K.length (by omega) (by omega) rfl rfl) hS ?_
  simp only [Act.put, List.setIfInBounds_toArray, List.set_cons_zero, List.set_cons_succ]
  refine d_take 9 30 rfl rfl (by kernel_rfl) (by kernel_rfl) (by kernel_rfl) (fun _ _ _ h => h) rfl (fun w' hw' => er_so0 _ rfl g (0 + K.length * 2) rfl) hS ?_
  simp only [Act.put, List.setIfInBounds_toArray, List.set_cons_zero, List.set_cons_succ]
  refine d_turn 10 (by kernel_rfl) rfl rfl rfl (er_st3 _ _ rfl g (0 + K.length * 2) (.int .i64 y.1) ((y.1 + x : Nat) : Int) rfl rfl q0' HFR.out) ?_ ?_
  · rw [World.cell?_setCell_far _ _ _ _ (by have := HNE.out; show g ≠ B; omega)]; exact hS
  refine wpAnyH_done (by kernel_rfl) ?_ _
  have HN : Hid (Joined w base (.slice (some ⟨g, 0, none⟩) (K.length + 1) c) (K ++ [y]) (x, y.2) (.returned (.slice (some ⟨g, 0, none⟩) (K.length + 1) c)) (w2.drew.setCell ⟨g, 0 + K.length * 2, none⟩ (.int .i64 ((y.1 + x : Nat) : Int)))) := by
    refine ⟨_, rfl, ?_, ?_, fun k hk => .inl hk⟩
    · rw [HJ.out, Nat.zero_add]
      exact ow_set HA'.out.2.1
    · have k1 : Kept (fun k => (Value.slice (some ⟨g, 0, none⟩) (K.length + 1) c).ownBlock = some k) w w2.drew := (HA'.out.1.drew).mono (fun _ h => h.elim)
      exact k1.setCell (p := ⟨g, 0 + K.length * 2, none⟩) (.inl rfl) _
  clear hS q0' r0'
  generalize w2.drew.setCell ⟨g, 0 + K.length * 2, none⟩ (.int .i64 ((y.1 + x : Nat) : Int)) = w3 at *
  go_wp2
  go_ret
  exact HN.out

theorem join_any (base : Nat) (v : Value) (L : List (Nat × Nat)) (x p : Nat) (w : World) (h : Ow w base v L) (hb : base ≤ w.heap.size) (hn : L.length ≤ 4000000) (hx : ∀ y ∈ L, y.1 + x ≤ 4611686018427387904) :
    Calls Tryz.prog 22 #[v, .agg #[.int .i64 x, .int .i64 p]] w (Joined w base v L (x, p)) := by
  rcases List.eq_nil_or_concat L with rfl | ⟨K, y, rfl⟩
  · obtain ⟨_, ⟨rfl, _⟩ | ⟨g, cap, cur, rfl, h2⟩⟩ := id h
    · exact join_nil base none 0 x p w h hb
    · exact join_nil base (some ⟨g, 0, none⟩) cap x p w h hb
  · rw [List.concat_eq_append] at *
    have hl : (K ++ [y]).length = K.length + 1 := by simp
    obtain ⟨_, ⟨rfl, h0⟩ | ⟨g, cap, cur, rfl, h2⟩⟩ := id h
    · omega
    · rw [hl] at h ⊢
      by_cases e : y.2 = p
      · subst e
        exact join_same base g cap K y x w h hb (by omega) (hx y (by simp))
      · exact join_more base g cap K y x p w h hb (by omega) e

end Go.Proofs.YthdmbikmjimmkaaGreatDoor

namespace Go.Proofs.YthdmbikmjimmkaaGreatDoor
open Go.RowKit Go.Shelf Plain
attribute [local go_sem] Oper.semAt_some
set_option linter.unusedVariables false
set_option maxRecDepth 100000

/-- the slots of one turn, of H ticks; from from on f goes by it -/
structure Turn (f : Nat → Nat) (H from' : Nat) (T : List (Nat × Nat)) : Prop where
  tile : Rule.Tile (fun u => f (from' + u)) 0 H T
  per : ∀ u, f (from' + u) = f (from' + u % H)
  pos : 1 ≤ H

theorem Turn.one {f : Nat → Nat} {H from' : Nat} {x : Nat × Nat} (h : Turn f H from' [x]) (u : Nat) : f (from' + u) = x.2 := by
  have hs : x.1 = H := by have := h.tile.sum; simpa using this
  rw [h.per u]
  have := h.tile.at' 0 x rfl (u % H) (by rw [Rule.pre_zero]; omega) (by rw [Rule.pre_zero, hs]; have := Nat.mod_lt u (show H > 0 from h.pos); omega)
  rw [Nat.zero_add] at this
  exact this
theorem Turn.next {f : Nat → Nat} {H from' : Nat} {T : List (Nat × Nat)} (h : Turn f H from' T) {i k : Nat} {x : Nat × Nat} (hx : T[i]? = some x) : ∀ u, Rule.pre T i ≤ u → u < Rule.pre T i + x.1 → f (from' + k * H + u) = x.2 := by
  intro u h1 h2
  have e1 : from' + k * H + u = from' + (k * H + u) := by omega
  have hle : Rule.pre T i + x.1 ≤ H := by
    have := Rule.pre_le h.tile (i + 1)
    rw [Rule.pre_succ hx] at this
    exact this
  have e2 : (k * H + u) % H = u := by
    rw [Nat.mul_comm, Nat.mul_add_mod]
    exact Nat.mod_eq_of_lt (by omega)
  rw [e1, h.per, e2]
  have := h.tile.at' i x hx u h1 h2
  rw [Nat.zero_add] at this
  exact this

end Go.Proofs.YthdmbikmjimmkaaGreatDoor
