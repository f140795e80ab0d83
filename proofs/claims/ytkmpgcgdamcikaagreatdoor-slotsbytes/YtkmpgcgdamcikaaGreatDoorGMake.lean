/-
  One text: SJoin, SRunsP, SMake, SMakeT, SBound, OAddsP, STellP.
-/
import Derived.Test.YtkmpgcgdamcikaaGreatDoorORuns
import Derived.Test.YtkmpgcgdamcikaaGreatDoorSLives
import Derived.Test.YtkmpgcgdamcikaaGreatDoorOJoinP
namespace Go.Proofs.YtkmpgcgdamcikaaGreatDoor
open Go.RowKit Plain
set_option linter.unusedVariables false
set_option linter.unusedSimpArgs false
set_option maxRecDepth 100000

/-- what joined leaves -/
def Joined2 (w : World) (base g : Nat) (L : List (Nat × Nat)) (e : Ending) (w' : World) : Prop :=
  ∃ v', e = .returned v' ∧ Ow w' base v' L ∧ Kept (fun k => k = g) w w' ∧ ∀ k, v'.ownBlock = some k → k = g ∨ w.heap.size ≤ k

theorem ow_cell {w : World} {base g n c : Nat} {L : List (Nat × Nat)} (h : Ow w base (.slice (some ⟨g, 0, none⟩) n c) L) {i : Nat} {x : Nat × Nat} (hx : L[i]? = some x) : w.cell? ⟨g, i * 2, none⟩ = some (.int .i64 x.1) ∧ w.cell? ⟨g, i * 2 + 1, none⟩ = some (.int .i64 x.2) := by
  obtain ⟨e1, e2⟩ := slL_at L i x hx
  have c0 := h.cells (g := g) rfl _ _ e1
  have c1 := h.cells (g := g) rfl _ _ e2
  rw [add_none, Nat.zero_add] at c0 c1
  exact ⟨c0, c1⟩
theorem ow_news {w : World} {base g n c : Nat} {z : Nat × Nat} {R : List (Nat × Nat)} (h : Ow w base (.slice (some ⟨g, 0, none⟩) n c) (z :: R)) (d : Nat) (hd : d ≤ 1) : ∀ j u, (slL (if d = 0 then z :: R else R))[j]? = some u → w.cell? (Addr.add ⟨g, d * 2, none⟩ j) = some u := by
  intro j u hj
  rw [add_none]
  by_cases e : d = 0
  · subst e
    have := h.cells (g := g) rfl j u hj
    rw [add_none] at this
    simpa using this
  · have e1 : d = 1 := by omega
    subst e1
    have hj' : (slL (z :: R))[j + 2]? = some u := by simpa [slL] using hj
    have := h.cells (g := g) rfl (j + 2) u hj'
    rw [add_none] at this
    rw [show 1 * 2 + j = 0 + (j + 2) by omega]
    exact this

set_option maxHeartbeats 2000000 in
theorem sjoin_diff (base base2 g c g2 c2 : Nat) (K : List (Nat × Nat)) (y z : Nat × Nat) (R : List (Nat × Nat)) (w : World) (h : Ow w base (.slice (some ⟨g, 0, none⟩) (K.length + 1) c) (K ++ [y])) (h2 : Ow w base2 (.slice (some ⟨g2, 0, none⟩) (R.length + 1) c2) (z :: R)) (hb : base ≤ w.heap.size) (hn : K.length + R.length ≤ 4000000) (hne : y.2 ≠ z.2) :
    Calls Tryz.prog 60 #[.slice (some ⟨g, 0, none⟩) (K.length + 1) c, .slice (some ⟨g2, 0, none⟩) (R.length + 1) c2] w (Joined2 w base g (K ++ [y] ++ z :: R)) := by
  obtain ⟨i0, hi, hz0, hz1, hz2⟩ := info_parts Tryz.infoSo
  have hl : (K ++ [y]).length = K.length + 1 := by simp
  have C1 := (ow_cell h (i := K.length) (x := y) (by simp)).2
  have D1 := (ow_cell h2 (i := 0) (x := z) rfl).2
  have m1 := (Ow.sl h)
  have m2 := (Ow.sl h2)
  have hcap : K.length + 1 ≤ c ∧ c ≤ 9223372036854775807 := by
    obtain ⟨a, c', e, hs⟩ := m1
    injection e with e1 e2 e3
    subst e3
    have := hs.cap; have := hs.max
    rw [hl] at *
    omega
  have hcap2 : R.length + 1 ≤ c2 ∧ c2 ≤ 9223372036854775807 := by
    obtain ⟨a, c', e, hs⟩ := m2
    injection e with e1 e2 e3
    subst e3
    have := hs.cap; have := hs.max
    simp at *
    omega
  have hne' : ¬ (y.2 : Int) = (z.2 : Int) := by omega
  have HO : Hid (Ow w base (.slice (some ⟨g, 0, none⟩) (K.length + 1) c) (K ++ [y]) ∧ Ow w base2 (.slice (some ⟨g2, 0, none⟩) (R.length + 1) c2) (z :: R)) := ⟨h, h2⟩
  obtain ⟨hc1, hc2⟩ := hcap
  obtain ⟨hc3, hc4⟩ := hcap2
  clear h h2 m1 m2
  have D1' : w.cell? ⟨g2, 1, none⟩ = some (.int .i64 z.2) := D1
  clear D1
  generalize (y.2 : Int) = y2 at *
  generalize (z.2 : Int) = z2 at *
  have eb : (y2 == z2) = false := beq_eq_false_iff_ne.2 hne'
  go_enter Tryz.func60, Tryz.ntmps60
  go_upto_region 2 with fail
  go_quiet (fail)
  have HW : Hid (Ow (w.drewN nq) base (.slice (some ⟨g, 0, none⟩) (K.length + 1) c) (K ++ [y]) ∧ Ow (w.drewN nq) base2 (.slice (some ⟨g2, 0, none⟩) (R.length + 1) c2) (z :: R) ∧ Kept No w (w.drewN nq)) := ⟨HO.out.1, HO.out.2, (Kept.refl No w).drewN nq⟩
  clear C1 D1' hne' HO
  generalize w.drewN nq = w2 at *
  go_wp2_with (at_builtin; refine wpList_append_own_at _ rfl _ _ 23 rfl base 62 i0 (.agg #[.int .i64 0, .int .i64 0]) 2 16 Tryz.underlying23 hi hz0 hz1 hz2 rfl (by decide) _ _ _ rfl HW.out.1 ⟨g2, 0, none⟩ (R.length + 1) c2 (slL (z :: R)) rfl (by rw [slL_len]; simp) (ow_news HW.out.2.1 0 (by omega)) (slL_one _) (by unfold maxLen; rw [hl]; omega) (by rw [hl]; omega) (by have := HW.out.2.2.size; omega) ?_; intro v9 w10 own10 grow10 _ at10)
  have HN : Hid (Joined2 w base g (K ++ [y] ++ z :: R) (.returned v9) w10) := by
    refine ⟨v9, rfl, ?_, ?_, ?_⟩
    · unfold Ow
      rw [slL_app, List.length_append]
      exact own10
    · exact (HW.out.2.2.mono (fun _ h => h.elim)).grown grow10 (fun b e => .inl (by have e' : some g = some b := e; injection e' with e'; exact e'.symm))
    · intro k hk
      rcases at10 with h | h
      · rw [h] at hk; have e' : some g = some k := hk; injection e' with e'; exact .inl e'.symm
      · rw [h] at hk; injection hk with hk; have := HW.out.2.2.size; exact .inr (by omega)
  clear own10 grow10 at10
  go_wp2
  go_ret
  exact HN.out

set_option maxHeartbeats 4000000 in
theorem sjoin_same (base base2 g c g2 c2 : Nat) (K : List (Nat × Nat)) (y z : Nat × Nat) (R : List (Nat × Nat)) (w : World) (h : Ow w base (.slice (some ⟨g, 0, none⟩) (K.length + 1) c) (K ++ [y])) (h2 : Ow w base2 (.slice (some ⟨g2, 0, none⟩) (R.length + 1) c2) (z :: R)) (hg : g ≠ g2) (hb : base ≤ w.heap.size) (hn : K.length + R.length ≤ 4000000) (he : y.2 = z.2) (hx : y.1 + z.1 ≤ 4611686018427387904) :
    Calls Tryz.prog 60 #[.slice (some ⟨g, 0, none⟩) (K.length + 1) c, .slice (some ⟨g2, 0, none⟩) (R.length + 1) c2] w (Joined2 w base g (K ++ [(y.1 + z.1, y.2)] ++ R)) := by
  obtain ⟨i0, hi, hz0, hz1, hz2⟩ := info_parts Tryz.infoSo
  have hl : (K ++ [y]).length = K.length + 1 := by simp
  obtain ⟨C0, C1⟩ := ow_cell h (i := K.length) (x := y) (by simp)
  obtain ⟨D0, D1⟩ := ow_cell h2 (i := 0) (x := z) rfl
  have m1 := (Ow.sl h)
  have m2 := (Ow.sl h2)
  have hcap : K.length + 1 ≤ c ∧ c ≤ 9223372036854775807 := by
    obtain ⟨a, c', e, hs⟩ := m1
    injection e with e1 e2 e3
    subst e3
    have := hs.cap; have := hs.max
    rw [hl] at *
    omega
  have hcap2 : R.length + 1 ≤ c2 ∧ c2 ≤ 9223372036854775807 := by
    obtain ⟨a, c', e, hs⟩ := m2
    injection e with e1 e2 e3
    subst e3
    have := hs.cap; have := hs.max
    simp at *
    omega
  have HFZ : Hid (w.frozen? ⟨g, K.length * 2, none⟩ = false) := by
    obtain ⟨_, ⟨h1, _⟩ | ⟨g', cap', cur, hv, hb', hg, _⟩⟩ := h
    · cases h1
    · injection hv with e1 _ _
      injection e1 with e1
      injection e1 with e1 _ _
      subst e1
      show World.frozen? w _ = false
      simp [World.frozen?, hg]
  have HWR : Hid (wrap64 ((y.1 : Int) + z.1) = ((y.1 + z.1 : Nat) : Int)) := by show wrap64 ((y.1 : Int) + z.1) = ((y.1 + z.1 : Nat) : Int); unfold wrap64; omega
  have HO : Hid (Ow w base (.slice (some ⟨g, 0, none⟩) (K.length + 1) c) (K ++ [y]) ∧ Ow w base2 (.slice (some ⟨g2, 0, none⟩) (R.length + 1) c2) (z :: R)) := ⟨h, h2⟩
  obtain ⟨hc1, hc2⟩ := hcap
  obtain ⟨hc3, hc4⟩ := hcap2
  have HC : Hid (w.cell? ⟨g, K.length * 2, none⟩ = some (.int .i64 y.1) ∧ w.cell? ⟨g2, 0, none⟩ = some (.int .i64 z.1)) := ⟨C0, D0⟩
  clear h h2 m1 m2 C0 D0 hx
  have D1' : w.cell? ⟨g2, 1, none⟩ = some (.int .i64 y.2) := by rw [he]; exact D1
  clear D1
  go_enter Tryz.func60, Tryz.ntmps60
  go_upto_region 2 with fail
  go_quiet (fail)
  have HW : Hid (Ow (w.drewN nq) base (.slice (some ⟨g, 0, none⟩) (K.length + 1) c) (K ++ [y]) ∧ Ow (w.drewN nq) base2 (.slice (some ⟨g2, 0, none⟩) (R.length + 1) c2) (z :: R) ∧ Kept No w (w.drewN nq) ∧ (w.drewN nq).cell? ⟨g, 0 + K.length * 2, none⟩ = some (.int .i64 y.1) ∧ (w.drewN nq).cell? ⟨g2, 0, none⟩ = some (.int .i64 z.1) ∧ (w.drewN nq).frozen? ⟨g, 0 + K.length * 2, none⟩ = false) := ⟨HO.out.1, HO.out.2, (Kept.refl No w).drewN nq, by rw [Nat.zero_add]; exact HC.out.1, HC.out.2, by rw [Nat.zero_add]; exact HFZ.out⟩
  clear C1 D1' HO HC HFZ
  generalize w.drewN nq = w2 at *
  go_upto_region 3 with fail
  try simp only [Act.put, List.setIfInBounds_toArray, List.set_cons_zero, List.set_cons_succ]
  refine wp_region_held_drew (S := fun w' => w'.cell? ⟨g2, 0, none⟩ = some (.int .i64 z.1)) (by kernel_rfl) HW.out.2.2.2.2.1 (fun hS => ?_)
  refine d_take 0 28 rfl rfl (by kernel_rfl) (by kernel_rfl) (by kernel_rfl) (fun _ _ _ h => h) rfl (fun w' hw' => er_mv _ rfl (.slice (some ⟨g, 0, none⟩) (K.length + 1) c) rfl) hS ?_
  simp only [Act.put, List.setIfInBounds_toArray, List.set_cons_zero, List.set_cons_succ]
  refine d_take 1 29 rfl rfl (by kernel_rfl) (by kernel_rfl) (by kernel_rfl) (fun _ _ _ h => h) rfl (fun w' hw' => er_mv _ rfl (.int .i64 K.length) rfl) hS ?_
  simp only [Act.put, List.setIfInBounds_toArray, List.set_cons_zero, List.set_cons_succ]
  refine d_take 2 30 rfl rfl (by kernel_rfl) (by kernel_rfl) (by kernel_rfl) (fun _ _ _ h => h) rfl (fun w' hw' => er_idxso _ _ rfl g 0 (K.length + 1) c K.length (by omega) (by omega) rfl rfl) hS ?_
  simp only [Act.put, List.setIfInBounds_toArray, List.set_cons_zero, List.set_cons_succ]
  refine d_take 3 31 rfl rfl (by kernel_rfl) (by kernel_rfl) (by kernel_rfl) (fun _ _ _ h => h) rfl (fun w' hw' => er_so0 _ rfl g (0 + K.length * 2) rfl) hS ?_
  simp only [Act.put, List.setIfInBounds_toArray, List.set_cons_zero, List.set_cons_succ]
  refine d_take 5 33 rfl rfl (by kernel_rfl) (by kernel_rfl) (by kernel_rfl) (fun _ _ _ h => h) rfl (fun w' hw' => er_mv _ rfl (.slice (some ⟨g2, 0, none⟩) (R.length + 1) c2) rfl) hS ?_
  simp only [Act.put, List.setIfInBounds_toArray, List.set_cons_zero, List.set_cons_succ]
  refine d_take 6 34 rfl rfl (by kernel_rfl) (by kernel_rfl) (by kernel_rfl) (fun _ _ _ h => h) rfl (fun w' hw' => er_idxso _ _ rfl g2 0 (R.length + 1) c2 0 (by omega) (by omega) rfl rfl) hS ?_
  simp only [Act.put, List.setIfInBounds_toArray, List.set_cons_zero, List.set_cons_succ]
  refine d_take 7 35 rfl rfl (by kernel_rfl) (by kernel_rfl) (by kernel_rfl) (fun _ _ _ h => h) rfl (fun w' hw' => er_so0 _ rfl g2 (0 + 0 * 2) rfl) hS ?_
  simp only [Act.put, List.setIfInBounds_toArray, List.set_cons_zero, List.set_cons_succ]
  refine d_take 8 36 rfl rfl (by kernel_rfl) (by kernel_rfl) (by kernel_rfl) (fun _ _ _ h => h) rfl (fun w' hw' => er_ld3 _ rfl g2 (0 + 0 * 2) (.int .i64 z.1) rfl hw') hS ?_
  simp only [Act.put, List.setIfInBounds_toArray, List.set_cons_zero, List.set_cons_succ]
  refine d_read 4 32 (by kernel_rfl) rfl rfl rfl (er_ld3 _ rfl g (0 + K.length * 2) (.int .i64 y.1) rfl HW.out.2.2.2.1) hS ?_
  simp only [Act.put, List.setIfInBounds_toArray, List.set_cons_zero, List.set_cons_succ]
  refine d_take 9 37 rfl rfl (by kernel_rfl) (by kernel_rfl) (by kernel_rfl) (fun _ _ _ h => h) rfl (fun w' hw' => er_add _ _ rfl y.1 z.1 ((y.1 + z.1 : Nat) : Int) rfl rfl HWR.out) hS ?_
  simp only [Act.put, List.setIfInBounds_toArray, List.set_cons_zero, List.set_cons_succ]
  refine d_take 10 38 rfl rfl (by kernel_rfl) (by kernel_rfl) (by kernel_rfl) (fun _ _ _ h => h) rfl (fun w' hw' => er_idxso _ _ rfl g 0 (K.length + 1) c K.length (by omega) (by omega) rfl rfl) hS ?_
  simp only [Act.put, List.setIfInBounds_toArray, List.set_cons_zero, List.set_cons_succ]
  refine d_take 11 39 rfl rfl (by kernel_rfl) (by kernel_rfl) (by kernel_rfl) (fun _ _ _ h => h) rfl (fun w' hw' => er_so0 _ rfl g (0 + K.length * 2) rfl) hS ?_
  simp only [Act.put, List.setIfInBounds_toArray, List.set_cons_zero, List.set_cons_succ]
  refine d_turn 12 (by kernel_rfl) rfl rfl rfl (er_st3 _ _ rfl g (0 + K.length * 2) (.int .i64 y.1) ((y.1 + z.1 : Nat) : Int) rfl rfl HW.out.2.2.2.1 HW.out.2.2.2.2.2) ?_ ?_
  · rw [World.cell?_setCell_far _ _ _ _ (by show g ≠ g2; exact hg)]; exact hS
  refine wpAnyH_done (by kernel_rfl) ?_ _
  have H3 : Hid (Ow (w2.drew.setCell ⟨g, 0 + K.length * 2, none⟩ (.int .i64 ((y.1 + z.1 : Nat) : Int))) base (.slice (some ⟨g, 0, none⟩) (K.length + 1) c) (K ++ [(y.1 + z.1, y.2)]) ∧ Ow (w2.drew.setCell ⟨g, 0 + K.length * 2, none⟩ (.int .i64 ((y.1 + z.1 : Nat) : Int))) base2 (.slice (some ⟨g2, 0, none⟩) (R.length + 1) c2) (z :: R) ∧ Kept (fun k => k = g) w (w2.drew.setCell ⟨g, 0 + K.length * 2, none⟩ (.int .i64 ((y.1 + z.1 : Nat) : Int)))) := by
    have k1 : Kept (fun k => k = g) w2 (w2.drew.setCell ⟨g, 0 + K.length * 2, none⟩ (.int .i64 ((y.1 + z.1 : Nat) : Int))) := Kept.setCell (F := fun k => k = g) (p := ⟨g, 0 + K.length * 2, none⟩) (Kept.refl _ w2).drew (.inl rfl) _
    refine ⟨?_, k1.owns HW.out.2.1 (fun k e => by simp [Value.ownBlock] at e; omega), (HW.out.2.2.1.mono (fun _ h => h.elim)).trans k1 (fun k h => .inl h)⟩
    rw [Nat.zero_add]
    exact ow_set (w := w2.drew) HW.out.1
  clear hS HW
  generalize w2.drew.setCell ⟨g, 0 + K.length * 2, none⟩ (.int .i64 ((y.1 + z.1 : Nat) : Int)) = w3 at *
  have hl3 : (K ++ [(y.1 + z.1, y.2)]).length = K.length + 1 := by simp
  go_upto_region 5 with fail
  obtain ⟨o, ho, hnew⟩ : ∃ o, (if c2 = 1 then some (⟨g2, 0, none⟩ : Addr) else some ⟨g2, 2, none⟩) = some ⟨g2, o, none⟩ ∧ (∀ j u, (slL R)[j]? = some u → w3.cell? (Addr.add ⟨g2, o, none⟩ j) = some u) := by
    by_cases hc : c2 = 1
    · have hR : R = [] := List.length_eq_zero_iff.1 (by omega)
      exact ⟨0, by rw [if_pos hc], fun j u hj => by rw [hR] at hj; simp [slL] at hj⟩
    · exact ⟨2, by rw [if_neg hc], ow_news H3.out.2.1 1 (by omega)⟩
  rw [ho]
  go_wp2_with (at_builtin; refine wpList_append_own_at _ rfl _ _ 23 rfl base 62 i0 (.agg #[.int .i64 0, .int .i64 0]) 2 16 Tryz.underlying23 hi hz0 hz1 hz2 rfl (by decide) _ _ _ rfl H3.out.1 ⟨g2, o, none⟩ R.length (c2 - 1) (slL R) rfl (by rw [slL_len]) hnew (slL_one _) (by unfold maxLen; rw [hl3]; omega) (by rw [hl3]; omega) (by have := H3.out.2.2.size; omega) ?_; intro v9 w10 own10 grow10 _ at10)
  have HN : Hid (Joined2 w base g (K ++ [(y.1 + z.1, y.2)] ++ R) (.returned v9) w10) := by
    refine ⟨v9, rfl, ?_, ?_, ?_⟩
    · unfold Ow
      rw [slL_app, List.length_append]
      exact own10
    · exact H3.out.2.2.grown grow10 (fun b e => .inl (by have e' : some g = some b := e; injection e' with e'; exact e'.symm))
    · intro k hk
      rcases at10 with h | h
      · rw [h] at hk; have e' : some g = some k := hk; injection e' with e'; exact .inl e'.symm
      · rw [h] at hk; injection hk with hk; have := H3.out.2.2.size; exact .inr (by omega)
  clear own10 grow10 at10 hnew
  go_wp2
  go_ret
  exact HN.out
end Go.Proofs.YtkmpgcgdamcikaaGreatDoor

namespace Go.Proofs.YtkmpgcgdamcikaaGreatDoor
namespace Rule
set_option linter.unusedVariables false
set_option linter.unusedSimpArgs false

theorem runsOf_pos (f : Nat → Nat) (a : Nat) {m : Nat} (h : 1 ≤ m) : runsOf f a m ≠ [] := by
  obtain ⟨k, rfl⟩ : ∃ k, m = k + 1 := ⟨m - 1, by omega⟩
  show joinL (runsOf f a k) (1, f (a + k)) ≠ []
  rcases List.eq_nil_or_concat (runsOf f a k) with h | ⟨L, y, h⟩
  · rw [h, joinL_nil]; simp
  · rw [h, List.concat_eq_append, joinL_snoc]; split <;> simp
/-- two lists of slots, one behind the other -/
def meet (K : List (Nat × Nat)) (y z : Nat × Nat) (R : List (Nat × Nat)) : List (Nat × Nat) := if y.2 = z.2 then K ++ [(y.1 + z.1, y.2)] ++ R else K ++ [y] ++ z :: R
theorem meet_join (K : List (Nat × Nat)) (y z : Nat × Nat) (R : List (Nat × Nat)) (x : Nat × Nat) : ∃ z' R', joinL (z :: R) x = z' :: R' ∧ joinL (meet K y z R) x = meet K y z' R' := by
  rcases List.eq_nil_or_concat R with rfl | ⟨R1, u, rfl⟩
  · have e1 : joinL [z] x = if z.2 = x.2 then [(z.1 + x.1, x.2)] else [z, x] := by
      have := joinL_snoc [] z x
      simpa using this
    by_cases h : z.2 = x.2
    · refine ⟨(z.1 + x.1, x.2), [], by rw [e1, if_pos h], ?_⟩
      unfold meet
      by_cases hy : y.2 = z.2
      · rw [if_pos hy, if_pos (by simp [hy, h]), List.append_nil, List.append_nil, joinL_snoc, if_pos (by simp [hy, h])]
        simp [Nat.add_assoc, hy, h]
      · rw [if_neg hy, if_neg (by simp; omega), joinL_snoc, if_pos h]
    · refine ⟨z, [x], by rw [e1, if_neg h], ?_⟩
      unfold meet
      by_cases hy : y.2 = z.2
      · rw [if_pos hy, if_pos hy, List.append_nil, joinL_snoc, if_neg (by simp; omega)]
      · rw [if_neg hy, if_neg hy, joinL_snoc, if_neg h]
        simp
  · rw [List.concat_eq_append]
    have e1 : joinL (z :: (R1 ++ [u])) x = if u.2 = x.2 then z :: R1 ++ [(u.1 + x.1, x.2)] else z :: R1 ++ [u] ++ [x] := joinL_snoc (z :: R1) u x
    by_cases h : u.2 = x.2
    · refine ⟨z, R1 ++ [(u.1 + x.1, x.2)], by rw [e1, if_pos h]; rfl, ?_⟩
      unfold meet
      by_cases hy : y.2 = z.2
      · rw [if_pos hy, if_pos hy, ← List.append_assoc, joinL_snoc, if_pos h, List.append_assoc]
      · rw [if_neg hy, if_neg hy]
        have := joinL_snoc (K ++ [y] ++ z :: R1) u x
        rw [if_pos h] at this
        simpa using this
    · refine ⟨z, R1 ++ [u] ++ [x], by rw [e1, if_neg h]; simp, ?_⟩
      unfold meet
      by_cases hy : y.2 = z.2
      · rw [if_pos hy, if_pos hy, ← List.append_assoc, joinL_snoc, if_neg h]
        simp
      · rw [if_neg hy, if_neg hy]
        have := joinL_snoc (K ++ [y] ++ z :: R1) u x
        rw [if_neg h] at this
        simpa using this
theorem runsOf_meet (f : Nat → Nat) (a m : Nat) {K : List (Nat × Nat)} {y : Nat × Nat} (hm : runsOf f a m = K ++ [y]) : ∀ (k : Nat) (z : Nat × Nat) (R : List (Nat × Nat)), runsOf f (a + m) k = z :: R → runsOf f a (m + k) = meet K y z R
  | 0, z, R, h => by cases h
  | k + 1, z, R, h => by
    have e : runsOf f a (m + (k + 1)) = joinL (runsOf f a (m + k)) (1, f (a + m + k)) := by
      show joinL (runsOf f a (m + k)) (1, f (a + (m + k))) = _
      rw [Nat.add_assoc]
    have e2 : runsOf f (a + m) (k + 1) = joinL (runsOf f (a + m) k) (1, f (a + m + k)) := rfl
    rw [e]
    cases hk : runsOf f (a + m) k with
    | nil =>
      have k0 : k = 0 := by
        apply Decidable.byContradiction
        intro hn
        exact runsOf_pos f (a + m) (by omega) hk
      subst k0
      rw [e2, hk, joinL_nil] at h
      injection h with h1 h2
      subst h1 h2
      rw [Nat.add_zero, hm, joinL_snoc]
      unfold meet
      by_cases hy : y.2 = f (a + m + 0)
      · rw [if_pos hy, if_pos hy, List.append_nil, hy]
      · rw [if_neg hy, if_neg hy]
    | cons z0 R0 =>
      rw [runsOf_meet f a m hm k z0 R0 hk]
      obtain ⟨z', R', h1, h2⟩ := meet_join K y z0 R0 (1, f (a + m + k))
      rw [e2, hk, h1] at h
      injection h with h3 h4
      subst h3 h4
      exact h2
theorem runsOf_le (f : Nat → Nat) (a : Nat) : ∀ m, (runsOf f a m).length ≤ m
  | 0 => Nat.le_refl _
  | m + 1 => by
    have ih := runsOf_le f a m
    show (joinL (runsOf f a m) (1, f (a + m))).length ≤ m + 1
    rcases List.eq_nil_or_concat (runsOf f a m) with h | ⟨L, y, h⟩
    · rw [h, joinL_nil]; simp
    · rw [h] at ih ⊢
      rw [List.concat_eq_append] at ih ⊢
      rw [joinL_snoc]
      split <;> simp at ih ⊢ <;> omega
end Rule
end Go.Proofs.YtkmpgcgdamcikaaGreatDoor

namespace Go.Proofs.YtkmpgcgdamcikaaGreatDoor
open Go.RowKit Go.Shelf Plain
set_option linter.unusedVariables false
set_option maxRecDepth 100000

theorem ow_base {w : World} {base base' : Nat} {v : Value} {L : List (Nat × Nat)} (h : Ow w base v L) (hb : base' ≤ base) : Ow w base' v L := by
  refine ⟨h.1, ?_⟩
  rcases h.2 with h1 | ⟨g, cap, cur, hv, hb', r⟩
  · exact .inl h1
  · exact .inr ⟨g, cap, cur, hv, Nat.le_trans hb hb', r⟩
/-- what joined leaves of the slots of two spans -/
theorem sjoin_runs (f : Nat → Nat) (a m k : Nat) (hm : 1 ≤ m) (hk : 1 ≤ k) (hmk : m + k ≤ 4000000) (base base2 : Nat) (v v2 : Value) (w : World) (h : Ow w base v (Rule.runsOf f a m)) (h2 : Ow w base2 v2 (Rule.runsOf f (a + m) k)) (hb : base ≤ w.heap.size) (hd : ∀ i, v.ownBlock = some i → v2.ownBlock ≠ some i) :
    Calls Tryz.prog 60 #[v, v2] w fun e w' => ∃ v', e = .returned v' ∧ Ow w' base v' (Rule.runsOf f a (m + k)) ∧ (∀ i, i < w.heap.size → v.ownBlock ≠ some i → w'.heap[i]? = w.heap[i]?) ∧ Kept (fun i => v.ownBlock = some i) w w' := by
  obtain ⟨K, y, eK⟩ : ∃ K y, Rule.runsOf f a m = K ++ [y] := by
    rcases List.eq_nil_or_concat (Rule.runsOf f a m) with e | ⟨K, y, e⟩
    · exact (Rule.runsOf_pos f a hm e).elim
    · exact ⟨K, y, by rw [e, List.concat_eq_append]⟩
  obtain ⟨z, R, eR⟩ : ∃ z R, Rule.runsOf f (a + m) k = z :: R := by
    cases e : Rule.runsOf f (a + m) k with
    | nil => exact (Rule.runsOf_pos f (a + m) hk e).elim
    | cons z R => exact ⟨z, R, rfl⟩
  have e3 := Rule.runsOf_meet f a m eK k z R eR
  have l1 := Rule.runsOf_le f a m
  have l2 := Rule.runsOf_le f (a + m) k
  have b1 := runs_bound f a m k (by omega) (by omega)
  rw [eK] at h l1 b1
  rw [eR] at h2 l2
  simp at l1 l2
  rw [e3]
  obtain ⟨_, ⟨_, e0⟩ | ⟨g, cap, cur, rfl, _⟩⟩ := id h
  · simp at e0
  obtain ⟨_, ⟨_, e0⟩ | ⟨g2, cap2, cur2, rfl, _⟩⟩ := id h2
  · simp at e0
  have hz : z.1 ≤ k := (Rule.runsOf_tile f (a + m) k).elt (by rw [eR]; simp)
  have hyz : y.1 + z.1 ≤ 4611686018427387904 := by have := b1 y (by simp); omega
  have hg : g ≠ g2 := fun e => hd g rfl (by rw [e]; rfl)
  have hlK : (K ++ [y]).length = K.length + 1 := by simp
  have hlR : (z :: R).length = R.length + 1 := by simp
  rw [hlK] at h
  rw [hlR] at h2
  rw [hlK, hlR]
  have fin : ∀ L e w', Joined2 w base g L e w' → ∃ v', e = .returned v' ∧ Ow w' base v' L ∧ (∀ i, i < w.heap.size → (Value.slice (some ⟨g, 0, none⟩) (K.length + 1) cap).ownBlock ≠ some i → w'.heap[i]? = w.heap[i]?) ∧ Kept (fun i => (Value.slice (some ⟨g, 0, none⟩) (K.length + 1) cap).ownBlock = some i) w w' := by
    rintro L e w' ⟨v', rfl, h1, h2, h3⟩
    exact ⟨v', rfl, h1, fun i hi hn => h2.block i hi (fun e => hn (by rw [e]; rfl)), h2.mono (fun i e => by rw [e]; rfl)⟩
  by_cases e : y.2 = z.2
  · have := sjoin_same base base2 g cap g2 cap2 K y z R w h h2 hg hb (by omega) e hyz
    unfold Rule.meet
    rw [if_pos e]
    exact this.mono (fin _)
  · have := sjoin_diff base base2 g cap g2 cap2 K y z R w h h2 hb (by omega) e
    unfold Rule.meet
    rw [if_neg e]
    exact this.mono (fin _)

set_option maxHeartbeats 4000000 in
theorem occupants_any {F : Nat → Prop} {a : Option Addr} {c : Nat} {xs : List Srv} (w0 : World) (hg : Gl w0) (h : Sv w0 F a xs.length c xs) (hF : ∀ k, F k → k < w0.heap.size) (ht : timF xs xs.length = none) :
    ∀ (n fr : Nat), n ≤ 2097152 → fr + n ≤ 1099511627776 → ∀ w, Kept No w0 w → Calls Tryz.prog 43 #[.slice a xs.length c, .int .i64 fr, .int .i64 ((fr + n : Nat) : Int)] w fun e w' => ∃ v, e = .returned v ∧ Ow w' w.heap.size v (Rule.runsOf (Rule.occ (sys xs)) fr n) ∧ Kept No w w' := by
  intro n
  induction n using Nat.strongRecOn with
  | ind n ih =>
    intro fr hn hfn w hk
    have hr := runs_yes fr (fr + n) w (hg.kept hk) (h.keep hk) (fun k hF' => Nat.lt_of_lt_of_le (hF k hF') hk.size) ht (by omega) hfn
    rw [show fr + n - fr = n by omega] at hr
    generalize hf : Rule.occ (sys xs) = f at *
    by_cases hlong : 65536 < (Rule.runsOf f fr n).length
    · have hn1 := Rule.runsOf_le f fr n
      have hr2 : Calls Tryz.prog 59 #[.slice a xs.length c, .int .i64 fr, .int .i64 ((fr + n : Nat) : Int)] w fun e w' => e = .returned (.tuple #[.slice none 0 0, .int .i64 1]) ∧ Kept No w w' := by
        refine hr.mono ?_
        rintro e w' ⟨k1, ⟨v, hl, _⟩ | ⟨hl, rfl⟩⟩
        · omega
        · exact ⟨rfl, k1⟩
      have IH1 : Hid (∀ w', Kept No w w' → Calls Tryz.prog 43 #[.slice a xs.length c, .int .i64 fr, .int .i64 ((fr + n / 2 : Nat) : Int)] w' fun e w'' => ∃ v, e = .returned v ∧ Ow w'' w'.heap.size v (Rule.runsOf f fr (n / 2)) ∧ Kept No w' w'') := fun w' k' => ih (n / 2) (by omega) fr (by omega) (by omega) w' (hk.trans k' (fun _ h => h.elim))
      have IH2 : Hid (∀ w', Kept No w w' → Calls Tryz.prog 43 #[.slice a xs.length c, .int .i64 ((fr + n / 2 : Nat) : Int), .int .i64 ((fr + n : Nat) : Int)] w' fun e w'' => ∃ v, e = .returned v ∧ Ow w'' w'.heap.size v (Rule.runsOf f (fr + n / 2) (n - n / 2)) ∧ Kept No w' w'') := fun w' k' => by
        have := ih (n - n / 2) (by omega) (fr + n / 2) (by omega) (by omega) w' (hk.trans k' (fun _ h => h.elim))
        rw [show fr + n / 2 + (n - n / 2) = fr + n by omega] at this
        exact this
      have HJ : Hid (∀ (base base2 : Nat) (v v2 : Value) (W : World), Ow W base v (Rule.runsOf f fr (n / 2)) → Ow W base2 v2 (Rule.runsOf f (fr + n / 2) (n - n / 2)) → base ≤ W.heap.size → (∀ i, v.ownBlock = some i → v2.ownBlock ≠ some i) → Calls Tryz.prog 60 #[v, v2] W fun e w' => ∃ v', e = .returned v' ∧ Ow w' base v' (Rule.runsOf f fr n) ∧ (∀ i, i < W.heap.size → v.ownBlock ≠ some i → w'.heap[i]? = W.heap[i]?) ∧ Kept (fun i => v.ownBlock = some i) W w') := fun base base2 v v2 W h1 h2 hb hd => by
        have := sjoin_runs f fr (n / 2) (n - n / 2) (by omega) (by omega) (by omega) base base2 v v2 W h1 h2 hb hd
        rw [show n / 2 + (n - n / 2) = n by omega] at this
        exact this
      obtain ⟨zf, ezf⟩ : ∃ z : Int, (fr : Int) = z := ⟨_, rfl⟩
      obtain ⟨zb, ezb⟩ : ∃ z : Int, ((fr + n : Nat) : Int) = z := ⟨_, rfl⟩
      obtain ⟨zm, ezm⟩ : ∃ z : Int, ((fr + n / 2 : Nat) : Int) = z := ⟨_, rfl⟩
      have q1 : (zf + zb) / 2 = zm := by omega
      have q2 : Int.tdiv (zf + zb) 2 = zm := by rw [Int.tdiv_eq_ediv_of_nonneg (by omega)]; exact q1
      have q3 : 0 ≤ zf := by omega
      have q4 : zf ≤ 1099511627776 := by omega
      have q5 : 0 ≤ zb := by omega
      have q6 : zb ≤ 1099511627776 := by omega
      rw [ezf, ezb] at hr2
      rw [ezf, ezm] at IH1
      rw [ezm, ezb] at IH2
      rw [ezf, ezb]
      clear hr hlong hn1 ih hn hfn ezf ezb ezm hf h hF ht
      go_enter Tryz.func43, Tryz.ntmps43
      go_upto_region 5 with (go_at_call 59; refine hr2.mono ?_; rintro e w1 ⟨rfl, hk1⟩; have H1 : Hid (Kept No w w1) := hk1; clear hk1 hr2)
      have c1 := IH1.out w1 H1.out
      go_wp2_with (first
        | (go_at_call 43; refine c1.mono ?_; rintro e w2 ⟨v1, rfl, ho2, hk2⟩; have H2 : Hid (Ow w2 w1.heap.size v1 (Rule.runsOf f fr (n / 2)) ∧ Kept No w1 w2) := ⟨ho2, hk2⟩; clear ho2 hk2 c1; have c2 := IH2.out w2 (H1.out.trans H2.out.2 (fun _ h => h.elim)))
        | (go_at_call 43; refine c2.mono ?_; rintro e w3 ⟨v2, rfl, ho3, hk3⟩; have H3 : Hid (Ow w3 w1.heap.size v1 (Rule.runsOf f fr (n / 2)) ∧ Ow w3 w2.heap.size v2 (Rule.runsOf f (fr + n / 2) (n - n / 2)) ∧ Kept No w w3 ∧ (∀ i, v1.ownBlock = some i → w1.heap.size ≤ i ∧ i < w2.heap.size) ∧ w1.heap.size ≤ w3.heap.size) := ⟨hk3.owns H2.out.1 (fun _ _ h => h), ho3, (H1.out.trans H2.out.2 (fun _ h => h.elim)).trans hk3 (fun _ h => h.elim), fun i e => H2.out.1.lt i e, Nat.le_trans H2.out.2.size hk3.size⟩; clear ho3 hk3 c2; have c3 := HJ.out w1.heap.size w2.heap.size v1 v2 w3 H3.out.1 H3.out.2.1 H3.out.2.2.2.2 (fun i e e' => by have := (H3.out.2.2.2.1 i e).2; have := (H3.out.2.1.lt i e').1; omega))
        | (go_at_call 60; refine c3.mono ?_; rintro e w4 ⟨v', rfl, ho4, _, hk4⟩; have H4 : Hid (Ow w4 w.heap.size v' (Rule.runsOf f fr n) ∧ Kept No w w4) := ⟨ow_base ho4 H1.out.size, H3.out.2.2.1.trans hk4 (fun i e => .inr (by have := (H3.out.2.2.2.1 i e).1; have := H1.out.size; omega))⟩; clear ho4 hk4 c3))
      go_ret
      exact ⟨v', rfl, H4.out⟩
    · have hr2 : Calls Tryz.prog 59 #[.slice a xs.length c, .int .i64 fr, .int .i64 ((fr + n : Nat) : Int)] w fun e w' => ∃ v, e = .returned (.tuple #[v, .int .i64 0]) ∧ Ow w' w.heap.size v (Rule.runsOf f fr n) ∧ Kept No w w' := by
        refine hr.mono ?_
        rintro e w' ⟨k1, ⟨v, hl, rfl, ho⟩ | ⟨hl, _⟩⟩
        · exact ⟨v, rfl, ho, k1⟩
        · omega
      clear hr hlong ih hn hfn hf h hF ht
      go_enter Tryz.func43, Tryz.ntmps43
      go_wp2_with (go_at_call 59; refine hr2.mono ?_; rintro e w1 ⟨v, rfl, ho1, hk1⟩; have H1 : Hid (Ow w1 w.heap.size v (Rule.runsOf f fr n) ∧ Kept No w w1) := ⟨ho1, hk1⟩; clear ho1 hk1 hr2)
      go_ret
      exact ⟨v, rfl, H1.out⟩
end Go.Proofs.YtkmpgcgdamcikaaGreatDoor

namespace Go.Proofs.YtkmpgcgdamcikaaGreatDoor
open Go.RowKit Go.Shelf Plain
set_option linter.unusedVariables false
set_option maxRecDepth 100000

theorem handOut_any (g n c : Nat) (w : World) (h1 : n ≤ c) (h2 : c ≤ 9223372036854775807) :
    Calls Tryz.prog 36 #[.slice (some ⟨g, 0, none⟩) n c] w fun e w' => e = .returned (.slice (some ⟨g, 0, none⟩) n n) ∧ w' = w := by
  have h1' : (n : Int) ≤ c := by omega
  go_enter Tryz.func36, Tryz.ntmps36
  go_wp2
  go_ret
  exact ⟨rfl, rfl⟩

/-- a part of a table of the slots L, in a block of its own -/
structure Pt (w : World) (base g : Nat) (L : List (Nat × Nat)) : Prop where
  own : ∃ c, Ow w base (.slice (some ⟨g, 0, none⟩) L.length c) L
  lo : base ≤ g
  hi : g < w.heap.size
theorem Pt.kept {w w' : World} {base g : Nat} {L : List (Nat × Nat)} {G : Nat → Prop} (h : Pt w base g L) (k : Kept G w w') (hd : ¬ G g) : Pt w' base g L := by
  obtain ⟨⟨c, h1⟩, h2, h3⟩ := h
  exact ⟨⟨c, k.owns h1 (fun j e => by simp [Value.ownBlock] at e; rw [← e]; exact hd)⟩, h2, Nat.lt_of_lt_of_le h3 k.size⟩
theorem Pt.sl {w : World} {base g : Nat} {L : List (Nat × Nat)} (h : Pt w base g L) : Sl w (fun k => k = g) (some ⟨g, 0, none⟩) L.length L.length (zl L) := by
  obtain ⟨⟨c, h1⟩, h2, h3⟩ := h
  obtain ⟨a, c', e, hs⟩ := h1.sl
  injection e with e1 e2 e3
  subst e1 e3
  exact (hs.mono (fun k hk => by simp [Value.ownBlock] at hk; exact hk.symm)).handed (by simp)
/-- an owned list of slots that is not empty -/
theorem ow_some {w : World} {base : Nat} {v : Value} {L : List (Nat × Nat)} (h : Ow w base v L) (hne : L ≠ []) : ∃ g c, v = .slice (some ⟨g, 0, none⟩) L.length c ∧ L.length ≤ c ∧ c ≤ 9223372036854775807 ∧ Pt w base g L := by
  obtain ⟨a, c, e, hs⟩ := h.sl
  have hc := h
  obtain ⟨_, ⟨e1, e0⟩ | ⟨g, cap, cur, rfl, r⟩⟩ := h
  · exact (hne (List.length_eq_zero_iff.1 e0)).elim
  · injection e with e1 e2 e3
    subst e1 e3
    exact ⟨g, cap, rfl, hs.cap, hs.max, ⟨⟨cap, hc⟩, (hc.lt g rfl).1, (hc.lt g rfl).2⟩⟩

set_option maxHeartbeats 4000000 in
theorem make_yes {F : Nat → Prop} {a : Option Addr} {c : Nat} {xs : List Srv} (w : World) (hg : Gl w) (h : Sv w F a xs.length c xs) (hF : ∀ k, F k → k < w.heap.size) (ht : timF xs xs.length = none) :
    Calls Tryz.prog 25 #[.slice a xs.length c] w fun e w' => ∃ g0 g1, e = .returned (.tuple #[.agg #[.slice (some ⟨g0, 0, none⟩) (Rule.runsOf (Rule.occ (sys xs)) 0 (hyp xs)).length (Rule.runsOf (Rule.occ (sys xs)) 0 (hyp xs)).length, .slice (some ⟨g1, 0, none⟩) (Rule.runsOf (Rule.occ (sys xs)) (hyp xs) (hyp xs)).length (Rule.runsOf (Rule.occ (sys xs)) (hyp xs) (hyp xs)).length], .int .i64 0]) ∧ Pt w' w.heap.size g0 (Rule.runsOf (Rule.occ (sys xs)) 0 (hyp xs)) ∧ Pt w' w.heap.size g1 (Rule.runsOf (Rule.occ (sys xs)) (hyp xs) (hyp xs)) ∧ g0 ≠ g1 ∧ Kept No w w' := by
  have hv := vd_of ht
  have ka : Kept No w (w.alloc (.cells #[.slice none 0 0, .slice none 0 0] 25)) := (Kept.refl No w).alloc _
  have hc := hyper_any F a xs.length c xs _ (hg.kept ka) (h.keep ka)
  rw [(tim_yes ht).1, (tim_yes ht).2] at hc
  have HA : Hid (Kept No w (w.alloc (.cells #[.slice none 0 0, .slice none 0 0] 25)) ∧ (w.alloc (.cells #[.slice none 0 0, .slice none 0 0] 25)).heap[w.heap.size]? = some (.cells #[.slice none 0 0, .slice none 0 0] 25)) := ⟨ka, World.alloc_heap_new _ _⟩
  have hH1 := hv.hyp1
  have hH2 := hv.hyp2
  have HO : Hid (∀ (n fr : Nat), n ≤ 2097152 → fr + n ≤ 1099511627776 → ∀ W, Kept No w W → Calls Tryz.prog 43 #[.slice a xs.length c, .int .i64 fr, .int .i64 ((fr + n : Nat) : Int)] W fun e w' => ∃ v, e = .returned v ∧ Ow w' W.heap.size v (Rule.runsOf (Rule.occ (sys xs)) fr n) ∧ Kept No W w') := occupants_any w hg h hF ht
  clear hg h hF ka hv ht
  generalize Rule.occ (sys xs) = f at *
  generalize hyp xs = H at *
  have HP : Hid (Rule.runsOf f 0 H ≠ [] ∧ Rule.runsOf f H H ≠ []) := ⟨Rule.runsOf_pos f 0 hH1, Rule.runsOf_pos f H hH1⟩
  have O1 : Hid (∀ W, Kept No w W → Calls Tryz.prog 43 #[.slice a xs.length c, .int .i64 0, .int .i64 (H : Int)] W fun e w' => ∃ g c0, e = .returned (.slice (some ⟨g, 0, none⟩) (Rule.runsOf f 0 H).length c0) ∧ (Rule.runsOf f 0 H).length ≤ c0 ∧ c0 ≤ 9223372036854775807 ∧ Pt w' W.heap.size g (Rule.runsOf f 0 H) ∧ Kept No W w') := fun W k => by
    have := HO.out H 0 (by omega) (by omega) W k
    rw [Nat.zero_add] at this
    refine this.mono ?_
    rintro e w' ⟨v, rfl, ho, hk⟩
    obtain ⟨g, c0, rfl, q1, q2, q3⟩ := ow_some ho HP.out.1
    exact ⟨g, c0, rfl, q1, q2, q3, hk⟩
  have O2 : Hid (∀ W, Kept No w W → Calls Tryz.prog 43 #[.slice a xs.length c, .int .i64 (H : Int), .int .i64 (2 * (H : Int))] W fun e w' => ∃ g c0, e = .returned (.slice (some ⟨g, 0, none⟩) (Rule.runsOf f H H).length c0) ∧ (Rule.runsOf f H H).length ≤ c0 ∧ c0 ≤ 9223372036854775807 ∧ Pt w' W.heap.size g (Rule.runsOf f H H) ∧ Kept No W w') := fun W k => by
    have := HO.out H H (by omega) (by omega) W k
    rw [show ((H + H : Nat) : Int) = 2 * (H : Int) by omega] at this
    refine this.mono ?_
    rintro e w' ⟨v, rfl, ho, hk⟩
    obtain ⟨g, c0, rfl, q1, q2, q3⟩ := ow_some ho HP.out.2
    exact ⟨g, c0, rfl, q1, q2, q3, hk⟩
  clear HO HP
  generalize Rule.runsOf f 0 H = P at *
  generalize Rule.runsOf f H H = C at *
  go_enter Tryz.func25, Tryz.ntmps25
  go_upto_region 4 with (go_at_call 42; refine hc.mono ?_; rintro e w1 ⟨rfl, hk1⟩; have H1 : Hid (Kept No w w1 ∧ w1.heap[w.heap.size]? = some (.cells #[.slice none 0 0, .slice none 0 0] 25)) := ⟨HA.out.1.trans hk1 (fun _ h => h.elim), hk1.at' HA.out.2 (fun h => h)⟩; clear hk1 hc)
  have o1 := O1.out w1 H1.out.1
  go_wp2_with (first
    | (go_at_call 43; refine o1.mono ?_; rintro e w2 ⟨g0, c0, rfl, q1, q2, hs2, hk2⟩; have H2 : Hid (Pt w2 w1.heap.size g0 P ∧ Kept No w w2 ∧ w2.heap[w.heap.size]? = some (.cells #[.slice none 0 0, .slice none 0 0] 25)) := ⟨hs2, H1.out.1.trans hk2 (fun _ h => h.elim), hk2.at' H1.out.2 (fun h => h)⟩; clear hs2 hk2 o1; have p1 := handOut_any g0 P.length c0 w2 q1 q2)
    | (go_at_call 36; refine p1.mono ?_; rintro e w3 ⟨rfl, rfl⟩; clear p1 q1 q2; have o2 := O2.out w3 H2.out.2.1)
    | (go_at_call 43; refine o2.mono ?_; rintro e w4 ⟨g1, c1, rfl, r1, r2, hs4, hk4⟩; have H4 : Hid (Pt w4 w1.heap.size g0 P ∧ Pt w4 w3.heap.size g1 C ∧ Kept No w w4 ∧ w4.heap[w.heap.size]? = some (.cells #[.slice none 0 0, .slice none 0 0] 25) ∧ g0 < w3.heap.size) := ⟨H2.out.1.kept hk4 (fun h => h), hs4, H2.out.2.1.trans hk4 (fun _ h => h.elim), hk4.at' H2.out.2.2 (fun h => h), H2.out.1.hi⟩; clear hs4 hk4 o2; have p2 := handOut_any g1 C.length c1 w4 r1 r2)
    | (go_at_call 36; refine p2.mono ?_; rintro e w5 ⟨rfl, rfl⟩; clear p2 r1 r2; obtain ⟨t0, t1⟩ := bx2 H4.out.2.2.2.1; have tf : ∀ k, w5.frozen? ⟨w.heap.size, k, none⟩ = false := (fun k => by simp [World.frozen?, H4.out.2.2.2.1])))
  clear t0 t1 tf
  refine bodyPost_ret (results_ct rfl _ _ w.heap.size (.agg #[.slice (some ⟨g0, 0, none⟩) P.length P.length, .slice (some ⟨g1, 0, none⟩) C.length C.length]) rfl (ldT (set2T H4.out.2.2.2.1 _ _))) rfl ?_
  have kx : Kept (fun k => k = w.heap.size) w5 ((w5.setCell ⟨w.heap.size, 0, none⟩ (.slice (some ⟨g0, 0, none⟩) P.length P.length)).setCell ⟨w.heap.size, 1, none⟩ (.slice (some ⟨g1, 0, none⟩) C.length C.length)) := Kept.setCell (F := fun k => k = w.heap.size) (p := ⟨w.heap.size, 1, none⟩) (Kept.setCell (F := fun k => k = w.heap.size) (p := ⟨w.heap.size, 0, none⟩) (Kept.refl _ w5) (.inl rfl) _) (.inl rfl) _
  have z1 := heap_lt H1.out.2
  have z2 := heap_lt H2.out.2.2
  have y0 := H4.out.1.lo
  have y1 := H4.out.2.1.lo
  have s0 := H4.out.1.kept kx (fun e => by omega)
  have s1 := H4.out.2.1.kept kx (fun e => by omega)
  have y2 := H4.out.2.2.2.2
  have mono : ∀ {W : World} {b g : Nat} {L : List (Nat × Nat)}, w.heap.size ≤ b → Pt W b g L → Pt W w.heap.size g L := fun hb h => by
    obtain ⟨⟨c, h1⟩, h2, h3⟩ := h
    exact ⟨⟨c, ow_base h1 hb⟩, by omega, h3⟩
  exact ⟨g0, g1, rfl, mono (by omega) s0, mono (by omega) s1, by omega, H4.out.2.2.1.trans kx (fun k e => .inr (by omega))⟩

theorem eachF_ne {r : Nat → Int} {first : Int} : ∀ {n : Nat} {p : Int × Int}, eachF r first n = some p → p.1 ≠ 0
  | 0, p, h => by cases h
  | n + 1, p, h => by
    rw [eachF] at h
    cases he : eachF r first n with
    | some q => rw [he] at h; injection h with h; subst h; exact eachF_ne he
    | none =>
      rw [he] at h
      simp only at h
      by_cases h0 : r n = 0
      · rw [if_pos h0] at h; cases h
      · rw [if_neg h0] at h; injection h with h; subst h; exact h0
theorem tim_ne {xs : List Srv} {n : Nat} {p : Int × Int} (h : timF xs n = some p) : p.1 ≠ 0 := by
  unfold timF at h
  cases hf : findF xs n with
  | some q =>
    rw [hf] at h
    injection h with h
    subst h
    unfold findF at hf
    by_cases h32 : n ≤ 32
    · rw [if_pos h32] at hf; exact eachF_ne hf
    · rw [if_neg h32] at hf; injection hf with hf; subst hf; decide
  | none =>
    rw [hf] at h
    unfold togF at h
    by_cases hb : lcmB (zP xs) n 1048576 = true
    · rw [if_pos hb] at h
      by_cases hr : relF (lcmV (zP xs) n 1048576) xs n ≤ 65536
      · rw [if_pos hr] at h; cases h
      · rw [if_neg hr] at h; injection h with h; subst h; decide
    · rw [if_neg hb] at h; injection h with h; subst h; decide
set_option maxHeartbeats 1000000 in
theorem make_no {F : Nat → Prop} {a : Option Addr} {c : Nat} {xs : List Srv} {p : Int × Int} (w : World) (hg : Gl w) (h : Sv w F a xs.length c xs) (ht : timF xs xs.length = some p) :
    Calls Tryz.prog 25 #[.slice a xs.length c] w fun e w' => e = .returned (.tuple #[.agg #[.slice none 0 0, .slice none 0 0], .int .i64 p.1]) ∧ Kept No w w' := by
  have ka : Kept No w (w.alloc (.cells #[.slice none 0 0, .slice none 0 0] 25)) := (Kept.refl No w).alloc _
  have hc := hyper_any F a xs.length c xs _ (hg.kept ka) (h.keep ka)
  have hE : hyE xs xs.length = p.1 := by unfold hyE; rw [ht]
  have hp := tim_ne ht
  rw [hE] at hc
  have HA : Hid (Kept No w (w.alloc (.cells #[.slice none 0 0, .slice none 0 0] 25)) ∧ (w.alloc (.cells #[.slice none 0 0, .slice none 0 0] 25)).heap[w.heap.size]? = some (.cells #[.slice none 0 0, .slice none 0 0] 25)) := ⟨ka, World.alloc_heap_new _ _⟩
  clear hg h ka ht hE
  generalize hyV xs xs.length = Y at *
  generalize p.1 = E at *
  go_enter Tryz.func25, Tryz.ntmps25
  go_wp2_with (go_at_call 42; refine hc.mono ?_; rintro e w1 ⟨rfl, hk1⟩; have H1 : Hid (Kept No w w1 ∧ w1.heap[w.heap.size]? = some (.cells #[.slice none 0 0, .slice none 0 0] 25)) := ⟨HA.out.1.trans hk1 (fun _ h => h.elim), hk1.at' HA.out.2 (fun h => h)⟩; clear hk1 hc; obtain ⟨t0, t1⟩ := bx2 H1.out.2; have tf : ∀ k, w1.frozen? ⟨w.heap.size, k, none⟩ = false := (fun k => by simp [World.frozen?, H1.out.2]))
  clear t0 t1 tf
  refine bodyPost_ret (results_ct rfl _ _ w.heap.size (.agg #[.slice none 0 0, .slice none 0 0]) rfl (ldT (set2T H1.out.2 _ _))) rfl ?_
  have kx : Kept (fun k => k = w.heap.size) w1 ((w1.setCell ⟨w.heap.size, 0, none⟩ (.slice none 0 0)).setCell ⟨w.heap.size, 1, none⟩ (.slice none 0 0)) := Kept.setCell (F := fun k => k = w.heap.size) (p := ⟨w.heap.size, 1, none⟩) (Kept.setCell (F := fun k => k = w.heap.size) (p := ⟨w.heap.size, 0, none⟩) (Kept.refl _ w1) (.inl rfl) _) (.inl rfl) _
  exact ⟨rfl, H1.out.1.trans kx (fun k e => .inr (by omega))⟩
end Go.Proofs.YtkmpgcgdamcikaaGreatDoor

namespace Go.Proofs.YtkmpgcgdamcikaaGreatDoor
namespace Rule
set_option linter.unusedVariables false
set_option linter.unusedSimpArgs false

/-- the releases of a server below a tick -/
def relc (s : Sys) (i : Nat) : Nat → Nat
  | 0 => 0
  | T + 1 => relc s i T + (if rel s i T then 1 else 0)
theorem div_step {P : Nat} (hP : 0 < P) (d : Nat) : d / P + (if (d + 1) % P = 0 then 1 else 0) = (d + 1) / P := by
  have h1 := Nat.div_add_mod d P
  have h2 := Nat.mod_lt d hP
  by_cases h : d % P + 1 = P
  · have e : d + 1 = P * (d / P + 1) := by rw [Nat.mul_add, Nat.mul_one]; omega
    rw [e, Nat.mul_mod_right, if_pos rfl, Nat.mul_div_cancel_left _ hP]
  · have e : d + 1 = (d % P + 1) + P * (d / P) := by omega
    have e2 : (d + 1) % P = d % P + 1 := by rw [e, Nat.add_mul_mod_self_left, Nat.mod_eq_of_lt (by omega)]
    have e3 : (d + 1) / P = d / P := by
      rw [e, Nat.add_mul_div_left _ _ hP, Nat.div_eq_of_lt (by omega)]
      omega
    rw [e2, if_neg (by omega), e3, Nat.add_zero]
theorem relc_eq {s : Sys} {i : Nat} (hP : 0 < s.P i) : ∀ T, relc s i T = if T ≤ s.O i then 0 else (T - 1 - s.O i) / s.P i + 1
  | 0 => by rw [if_pos (Nat.zero_le _)]; rfl
  | T + 1 => by
    rw [relc, relc_eq hP T]
    by_cases h1 : T + 1 ≤ s.O i
    · have hn : ¬ rel s i T := fun h => by have := h.1; omega
      rw [if_pos (show T ≤ s.O i by omega), if_pos h1, if_neg hn]
    · rw [if_neg h1]
      by_cases h2 : T ≤ s.O i
      · have e : T = s.O i := by omega
        have hy : rel s i T := ⟨by omega, by rw [e, Nat.sub_self, Nat.zero_mod]⟩
        rw [if_pos h2, if_pos hy, show T + 1 - 1 - s.O i = 0 by omega, Nat.zero_div]
      · obtain ⟨d, hd⟩ : ∃ d, T = s.O i + 1 + d := ⟨T - s.O i - 1, by omega⟩
        have := div_step hP d
        have ed : T - s.O i = d + 1 := by omega
        rw [if_neg h2, show T - 1 - s.O i = d by omega, show T + 1 - 1 - s.O i = d + 1 by omega, ← this]
        by_cases h3 : (d + 1) % s.P i = 0
        · have hy : rel s i T := ⟨by omega, by rw [ed]; exact h3⟩
          rw [if_pos hy, if_pos h3]
        · have hn : ¬ rel s i T := fun h => h3 (by have h4 := h.2; rwa [ed] at h4)
          rw [if_neg hn, if_neg h3]
theorem relc_le {s : Sys} {i T : Nat} (hP : 0 < s.P i) (hd : s.P i ∣ T) : relc s i T ≤ T / s.P i := by
  obtain ⟨k, rfl⟩ := hd
  rw [relc_eq hP, Nat.mul_div_cancel_left _ hP]
  by_cases h : s.P i * k ≤ s.O i
  · rw [if_pos h]; omega
  · rw [if_neg h]
    have : (s.P i * k - 1 - s.O i) / s.P i < k := by
      rw [Nat.div_lt_iff_lt_mul hP, Nat.mul_comm k]
      omega
    omega
theorem relc_mono (s : Sys) (i : Nat) (T : Nat) : relc s i T ≤ relc s i (T + 1) := by rw [relc]; omega

/-- how often a server's budget has run out below a tick -/
def exc (s : Sys) (i : Nat) : Nat → Nat
  | 0 => 0
  | T + 1 => exc s i T + (if occ s T = i + 1 ∧ rest s T i = 1 then 1 else 0)
/-- what is left behind the tick ahead -/
def live (s : Sys) (i : Nat) : Nat → Nat
  | 0 => 0
  | T + 1 => if 0 < rest s T i - (if occ s T = i + 1 then 1 else 0) then 1 else 0
theorem exc_le (s : Sys) (i : Nat) : ∀ T, exc s i T + live s i T ≤ relc s i T
  | 0 => Nat.le_refl _
  | T + 1 => by
    have ih := exc_le s i T
    have hr : ¬ rel s i T → 0 < rest s T i → live s i T = 1 := fun hn hp => by
      cases T with
      | zero =>
        have e : rest s 0 i = 0 := if_neg hn
        omega
      | succ t =>
        rw [rest_succ, if_neg hn] at hp
        show (if 0 < rest s t i - (if occ s t = i + 1 then 1 else 0) then 1 else 0) = 1
        rw [if_pos hp]
    rw [exc, relc]
    show exc s i T + (if occ s T = i + 1 ∧ rest s T i = 1 then 1 else 0) + (if 0 < rest s T i - (if occ s T = i + 1 then 1 else 0) then 1 else 0) ≤ _
    by_cases he : occ s T = i + 1 ∧ rest s T i = 1
    · rw [if_pos he, if_pos he.1, he.2, if_neg (by omega)]
      by_cases hl : rel s i T
      · rw [if_pos hl]; omega
      · rw [if_neg hl]
        have := hr hl (by omega)
        omega
    · rw [if_neg he]
      by_cases hp : 0 < rest s T i - (if occ s T = i + 1 then 1 else 0)
      · rw [if_pos hp]
        by_cases hl : rel s i T
        · rw [if_pos hl]; omega
        · rw [if_neg hl]
          have := hr hl (by omega)
          omega
      · rw [if_neg hp]
        by_cases hl : rel s i T
        · rw [if_pos hl]; omega
        · rw [if_neg hl]; omega
theorem exc_mono (s : Sys) (i : Nat) (T : Nat) : exc s i T ≤ exc s i (T + 1) := by rw [exc]; omega

def sm (g : Nat → Nat) : Nat → Nat
  | 0 => 0
  | k + 1 => sm g k + g k
theorem sm_le {g h : Nat → Nat} : ∀ {n : Nat}, (∀ i, i < n → g i ≤ h i) → sm g n ≤ sm h n
  | 0, _ => Nat.le_refl _
  | n + 1, hh => by
    have := sm_le (n := n) (fun i hi => hh i (by omega))
    have := hh n (by omega)
    rw [sm, sm]
    omega
theorem sm_add (g h : Nat → Nat) : ∀ n, sm (fun i => g i + h i) n = sm g n + sm h n
  | 0 => rfl
  | n + 1 => by
    rw [sm, sm, sm, sm_add g h n]
    omega
theorem sm_ge {g : Nat → Nat} : ∀ {n i : Nat}, i < n → g i ≤ sm g n
  | n + 1, i, hi => by
    rw [sm]
    by_cases e : i = n
    · rw [e]; omega
    · have := sm_ge (g := g) (n := n) (i := i) (by omega)
      omega

/-- how often the occupant changes below a tick -/
def chg (f : Nat → Nat) : Nat → Nat
  | 0 => 0
  | T + 1 => chg f T + (if T = 0 then 0 else if f T = f (T - 1) then 0 else 1)
theorem chg_mono (f : Nat → Nat) (T : Nat) : chg f T ≤ chg f (T + 1) := by rw [chg]; omega
theorem step_same {s : Sys} (hs : Ok s) {T : Nat} (h1 : ∀ i, i < s.n → ¬ rel s i (T + 1)) (h2 : ∀ i, i < s.n → ¬ (occ s T = i + 1 ∧ rest s T i = 1)) : occ s (T + 1) = occ s T := by
  by_cases h0 : occ s T = 0
  · rw [h0]
    refine occ_zero.2 (fun j hj => ?_)
    rw [rest_succ, if_neg (h1 j hj), occ_zero.1 h0 j hj]
    omega
  · obtain ⟨i, hi⟩ : ∃ i, occ s T = i + 1 := ⟨occ s T - 1, by omega⟩
    have hin : i < s.n := by have := occ_le s T; omega
    obtain ⟨a, b⟩ := (occ_iff hs hin).1 hi
    rw [hi]
    refine (occ_iff hs hin).2 ⟨?_, fun j hj hp => ?_⟩
    · have := h2 i hin
      rw [rest_succ, if_neg (h1 i hin), if_pos hi]
      have : rest s T i ≠ 1 := fun e => this ⟨hi, e⟩
      omega
    · rw [rest_succ, if_neg (h1 j hj), b j hj hp]
      omega
theorem chg_le {s : Sys} (hs : Ok s) : ∀ T, chg (occ s) (T + 1) ≤ sm (fun i => relc s i (T + 1)) s.n + sm (fun i => exc s i T) s.n
  | 0 => by show 0 + 0 ≤ _; omega
  | T + 1 => by
    have ih := chg_le hs T
    have e1 : chg (occ s) (T + 1 + 1) = chg (occ s) (T + 1) + (if occ s (T + 1) = occ s T then 0 else 1) := by
      rw [chg, if_neg (by omega)]
      rfl
    have m1 : sm (fun i => relc s i (T + 1 + 1)) s.n = sm (fun i => relc s i (T + 1)) s.n + sm (fun i => if rel s i (T + 1) then 1 else 0) s.n := sm_add _ _ _
    have m2 : sm (fun i => exc s i (T + 1)) s.n = sm (fun i => exc s i T) s.n + sm (fun i => if occ s T = i + 1 ∧ rest s T i = 1 then 1 else 0) s.n := sm_add _ _ _
    rw [e1, m1, m2]
    by_cases hc : occ s (T + 1) = occ s T
    · rw [if_pos hc]; omega
    · rw [if_neg hc]
      by_cases hr : ∃ i, i < s.n ∧ rel s i (T + 1)
      · obtain ⟨i, hi, hrel⟩ := hr
        have := sm_ge (g := fun i => if rel s i (T + 1) then 1 else 0) hi
        rw [if_pos hrel] at this
        omega
      · by_cases he : ∃ i, i < s.n ∧ (occ s T = i + 1 ∧ rest s T i = 1)
        · obtain ⟨i, hi, hex⟩ := he
          have := sm_ge (g := fun i => if occ s T = i + 1 ∧ rest s T i = 1 then 1 else 0) hi
          rw [if_pos hex] at this
          omega
        · exact (hc (step_same hs (fun i hi h => hr ⟨i, hi, h⟩) (fun i hi h => he ⟨i, hi, h⟩))).elim
theorem chg_two {s : Sys} (hs : Ok s) {T : Nat} (hT : 1 ≤ T) (hd : ∀ i, i < s.n → s.P i ∣ T) : chg (occ s) T ≤ 2 * sm (fun i => T / s.P i) s.n := by
  obtain ⟨t, rfl⟩ : ∃ t, T = t + 1 := ⟨T - 1, by omega⟩
  have h1 := chg_le hs t
  have h2 : sm (fun i => relc s i (t + 1)) s.n ≤ sm (fun i => (t + 1) / s.P i) s.n := sm_le (fun i hi => relc_le (hs.per i hi) (hd i hi))
  have h3 : sm (fun i => exc s i t) s.n ≤ sm (fun i => relc s i (t + 1)) s.n := sm_le (fun i hi => by
    have := exc_le s i t
    have := relc_mono s i t
    omega)
  omega
/-- as many slots as changes, and one -/
theorem runs_chg (f : Nat → Nat) (a : Nat) : ∀ m, ∃ K y, runsOf f a (m + 1) = K ++ [y] ∧ y.2 = f (a + m) ∧ (K ++ [y]).length + chg f (a + 1) ≤ 1 + chg f (a + m + 1)
  | 0 => ⟨[], (1, f (a + 0)), rfl, rfl, by simp⟩
  | m + 1 => by
    obtain ⟨K, y, e, hy, hl⟩ := runs_chg f a m
    have e2 : runsOf f a (m + 1 + 1) = joinL (K ++ [y]) (1, f (a + (m + 1))) := by
      show joinL (runsOf f a (m + 1)) (1, f (a + (m + 1))) = _
      rw [e]
    have e3 : chg f (a + (m + 1) + 1) = chg f (a + m + 1) + (if f (a + (m + 1)) = f (a + m) then 0 else 1) := by
      show chg f (a + (m + 1)) + (if a + (m + 1) = 0 then 0 else if f (a + (m + 1)) = f (a + (m + 1) - 1) then 0 else 1) = _
      rw [if_neg (by omega)]
      rfl
    rw [joinL_snoc] at e2
    by_cases h : y.2 = f (a + (m + 1))
    · rw [if_pos h] at e2
      refine ⟨K, (y.1 + 1, f (a + (m + 1))), e2, rfl, ?_⟩
      rw [e3]
      simp at hl ⊢
      omega
    · rw [if_neg h] at e2
      refine ⟨K ++ [y], (1, f (a + (m + 1))), e2, rfl, ?_⟩
      rw [e3, if_neg (by rw [← hy]; exact fun e => h e.symm)]
      simp at hl ⊢
      omega
theorem slots_two {s : Sys} (hs : Ok s) {H : Nat} (hH : 1 ≤ H) (hd : ∀ i, i < s.n → s.P i ∣ H) : (runsOf (occ s) 0 H).length + (runsOf (occ s) H H).length ≤ 2 + 2 * sm (fun i => (2 * H) / s.P i) s.n := by
  obtain ⟨h, rfl⟩ : ∃ h, H = h + 1 := ⟨H - 1, by omega⟩
  obtain ⟨K0, y0, e0, _, l0⟩ := runs_chg (occ s) 0 h
  obtain ⟨K1, y1, e1, _, l1⟩ := runs_chg (occ s) (h + 1) h
  rw [← e0] at l0
  rw [← e1] at l1
  have m1 := chg_mono (occ s) (h + 1)
  have c := chg_two hs (T := 2 * (h + 1)) (by omega) (fun i hi => Nat.dvd_trans (hd i hi) (Nat.dvd_mul_left _ _))
  rw [show 2 * (h + 1) = h + 1 + h + 1 by omega] at c ⊢
  rw [show 0 + h + 1 = h + 1 by omega] at l0
  omega
end Rule
end Go.Proofs.YtkmpgcgdamcikaaGreatDoor

namespace Go.Proofs.YtkmpgcgdamcikaaGreatDoor
namespace Rule
set_option linter.unusedVariables false

/-- neighbours are unlike -/
def Unlike (L : List (Nat × Nat)) : Prop := ∀ i x y, L[i]? = some x → L[i + 1]? = some y → x.2 ≠ y.2
theorem Unlike.snoc {L : List (Nat × Nat)} (h : Unlike L) (x : Nat × Nat) (hx : ∀ y, L.getLast? = some y → y.2 ≠ x.2) : Unlike (L ++ [x]) := by
  intro i a b ha hb
  have hi : i + 1 < (L ++ [x]).length := (List.getElem?_eq_some_iff.1 hb).1
  simp at hi
  by_cases h1 : i + 1 < L.length
  · rw [List.getElem?_append_left h1] at hb
    rw [List.getElem?_append_left (by omega)] at ha
    exact h i a b ha hb
  · have e : i + 1 = L.length := by omega
    rw [List.getElem?_append_left (by omega)] at ha
    rw [e, List.getElem?_append_right (Nat.le_refl _)] at hb
    simp at hb
    subst hb
    refine hx a ?_
    rw [List.getLast?_eq_getElem?, ← e, Nat.add_sub_cancel]
    exact ha
theorem Unlike.init {L : List (Nat × Nat)} {x : Nat × Nat} (h : Unlike (L ++ [x])) : Unlike L ∧ ∀ y, L.getLast? = some y → y.2 ≠ x.2 := by
  refine ⟨fun i a b ha hb => ?_, fun y hy => ?_⟩
  · have h2 : i + 1 < L.length := (List.getElem?_eq_some_iff.1 hb).1
    exact h i a b (by rw [List.getElem?_append_left (by omega)]; exact ha) (by rw [List.getElem?_append_left h2]; exact hb)
  · rw [List.getLast?_eq_getElem?] at hy
    have hl : L.length - 1 < L.length := (List.getElem?_eq_some_iff.1 hy).1
    refine h (L.length - 1) y x (by rw [List.getElem?_append_left hl]; exact hy) ?_
    rw [show L.length - 1 + 1 = L.length by omega, List.getElem?_append_right (Nat.le_refl _)]
    simp
theorem Unlike.join {L : List (Nat × Nat)} (h : Unlike L) (x : Nat × Nat) : Unlike (joinL L x) := by
  rcases List.eq_nil_or_concat L with rfl | ⟨K, y, rfl⟩
  · rw [joinL_nil]
    intro i a b ha hb
    have := (List.getElem?_eq_some_iff.1 hb).1
    simp at this
  · rw [List.concat_eq_append] at h ⊢
    rw [joinL_snoc]
    obtain ⟨h1, h2⟩ := h.init
    by_cases e : y.2 = x.2
    · rw [if_pos e]
      exact h1.snoc _ (fun z hz => by have := h2 z hz; show z.2 ≠ x.2; rw [← e]; exact this)
    · rw [if_neg e]
      refine h.snoc x (fun z hz => ?_)
      simp at hz
      subst hz
      exact e
theorem runsOf_unlike (f : Nat → Nat) (a m : Nat) : Unlike (runsOf f a m) := by
  induction m with
  | zero => intro i x y h; simp [runsOf] at h
  | succ m ih => exact ih.join _

theorem cnt_run (f : Nat → Nat) (p q t len : Nat) (h : ∀ u, t ≤ u → u < t + len → f u = q) : cnt f p (t + len) = cnt f p t + (if q = p then len else 0) := by
  induction len with
  | zero => simp
  | succ len ih =>
    have := ih (fun u x y => h u x (by omega))
    show cnt f p (t + len) + (if f (t + len) = p then 1 else 0) = _
    rw [this, h (t + len) (by omega) (by omega)]
    split <;> omega
/-- how many ticks from a on, below t, are p's -/
def cI (f : Nat → Nat) (a t p : Nat) : Int := (cnt f p t : Int) - (cnt f p a : Int)
theorem cI_start (f : Nat → Nat) (a p : Nat) : cI f a a p = 0 := by unfold cI; omega
theorem cI_nonneg (f : Nat → Nat) (a t p : Nat) (h : a ≤ t) : 0 ≤ cI f a t p := by unfold cI; have := cnt_mono f p h; omega
theorem cI_le (f : Nat → Nat) (a t p : Nat) (h : a ≤ t) : cI f a t p ≤ (t : Int) - a := by unfold cI; have := cnt_diff f p h; omega
theorem cI_run (f : Nat → Nat) (a t len q p : Nat) (h : ∀ u, t ≤ u → u < t + len → f u = q) : cI f a (t + len) p = cI f a t p + (if q = p then (len : Int) else 0) := by
  unfold cI
  rw [cnt_run f p q t len h]
  split <;> omega
theorem cnt_pos {f : Nat → Nat} {p a t u : Nat} (h1 : a ≤ u) (h2 : u < t) (h : f u = p) : cnt f p a < cnt f p t := by
  have e1 := cnt_mono f p h1
  have e2 : cnt f p (u + 1) ≤ cnt f p t := cnt_mono f p (by omega)
  have e3 : cnt f p (u + 1) = cnt f p u + 1 := by show cnt f p u + (if f u = p then 1 else 0) = _; rw [if_pos h]
  omega
theorem cI_zero {f : Nat → Nat} {a t p : Nat} (h : cI f a t p = 0) : ∀ u, a ≤ u → u < t → f u ≠ p := fun u h1 h2 e => by
  have := cnt_pos h1 h2 e
  unfold cI at h
  omega
theorem cI_pos {f : Nat → Nat} {a t p u : Nat} (h1 : a ≤ u) (h2 : u < t) (h : f u = p) : 0 < cI f a t p := by
  have := cnt_pos h1 h2 h
  unfold cI
  omega
/-- the first tick of p from a on -/
def First (f : Nat → Nat) (p a t : Nat) : Prop := a ≤ t ∧ f t = p ∧ ∀ u, a ≤ u → u < t → f u ≠ p
theorem First.uniq {f : Nat → Nat} {p a t u : Nat} (h : First f p a t) (k : First f p a u) : t = u := by
  apply Decidable.byContradiction
  intro hn
  by_cases hlt : t < u
  · exact k.2.2 t h.1 hlt h.2.1
  · exact h.2.2 u k.1 (by omega) k.2.1
theorem First.near {f : Nat → Nat} {p a t H : Nat} (h1 : 0 < H) (hf : ∀ t, H ≤ t → f (t + H) = f t) (h : First f p a t) : t < a + 2 * H := by
  apply Decidable.byContradiction
  intro hn
  have e := hf (t - H) (by omega)
  rw [show t - H + H = t by omega, h.2.1] at e
  exact h.2.2 (t - H) (by omega) (by omega) e.symm
/-- what the rounds of the first loop know of firsts -/
def Firsts (f : Nat → Nat) (n a t : Nat) (fi : Nat → Int) : Prop := ∀ p, p ≤ n → 0 < cI f a t p → ∃ u : Nat, fi p = u ∧ First f p a u ∧ u < t
theorem Firsts.start (f : Nat → Nat) (n a : Nat) (fi : Nat → Int) : Firsts f n a a fi := fun p _ h => by rw [cI_start] at h; omega
theorem Firsts.old {f : Nat → Nat} {n a t len q : Nat} {fi : Nat → Int} (h : Firsts f n a t fi) (hr : ∀ u, t ≤ u → u < t + len → f u = q) (hq : cI f a t q ≠ 0) (hat : a ≤ t) : Firsts f n a (t + len) fi := fun p hp h0 => by
  rw [cI_run f a t len q p hr] at h0
  have h1 : 0 < cI f a t p := by
    by_cases e : q = p
    · subst e; have := cI_nonneg f a t q hat; omega
    · rw [if_neg e] at h0; omega
  obtain ⟨u, e1, e2, e3⟩ := h p hp h1
  exact ⟨u, e1, e2, by omega⟩
theorem Firsts.new {f : Nat → Nat} {n a t len q : Nat} {fi : Nat → Int} (h : Firsts f n a t fi) (hl : 1 ≤ len) (hr : ∀ u, t ≤ u → u < t + len → f u = q) (hq : cI f a t q = 0) (hat : a ≤ t) : Firsts f n a (t + len) (fun p => if p = q then (t : Int) else fi p) := fun p hp h0 => by
  rw [cI_run f a t len q p hr] at h0
  by_cases e : p = q
  · subst e
    exact ⟨t, by simp, ⟨hat, hr t (Nat.le_refl _) (by omega), cI_zero hq⟩, by omega⟩
  · rw [if_neg (fun h => e h.symm)] at h0
    obtain ⟨u, e1, e2, e3⟩ := h p hp (by omega)
    exact ⟨u, by simp only [if_neg e]; exact e1, e2, by omega⟩
/-- what NextOf answers of a span -/
theorem next_in {f : Nat → Nat} {p a b H : Nat} {x : Int} {fi : Nat → Int} {n : Nat} (h1 : 0 < H) (hf : ∀ t, H ≤ t → f (t + H) = f t) (hab : a ≤ b) (hb : b ≤ 1099511627776) (hp : p ≤ n) (hfi : Firsts f n a b fi)
    (hx : (x = -1 ∧ ∀ u, a ≤ u → u < min (a + 2 * H) 1099511627776 → f u ≠ p) ∨ ∃ t : Nat, x = t ∧ t < min (a + 2 * H) 1099511627776 ∧ First f p a t) :
    (0 < cI f a b p → x = fi p) ∧ (cI f a b p = 0 → x ≠ -1 → (b : Int) ≤ x) := by
  constructor
  · intro h0
    obtain ⟨u, e1, e2, e3⟩ := hfi p hp h0
    rcases hx with ⟨rfl, hno⟩ | ⟨t, rfl, ht, hF⟩
    · exact (hno u e2.1 (by have := e2.near h1 hf; omega) e2.2.1).elim
    · rw [e1, hF.uniq e2]
  · intro h0 hne
    rcases hx with ⟨rfl, hno⟩ | ⟨t, rfl, ht, hF⟩
    · exact (hne rfl).elim
    · apply Decidable.byContradiction
      intro hn
      exact cI_zero h0 t hF.1 (by omega) hF.2.1
end Rule
end Go.Proofs.YtkmpgcgdamcikaaGreatDoor

namespace Go.Proofs.YtkmpgcgdamcikaaGreatDoor
open Go.RowKit Plain
set_option linter.unusedVariables false
set_option maxRecDepth 100000

theorem sum_cast : ∀ M : List Nat, (M.map (fun x : Nat => (x : Int))).sum = (M.sum : Int)
  | [] => rfl
  | x :: r => by simp [sum_cast r]
theorem zl_pr (L : List (Nat × Nat)) (q : Nat) : Slt.pr (zl L) q = (Rule.pre L q : Nat) := by
  unfold Slt.pr Rule.pre zl
  rw [← sum_cast, ← List.map_take, List.map_map, List.map_map]
  rfl
theorem zl_gt {L : List (Nat × Nat)} {q : Nat} {x : Nat × Nat} (h : L[q]? = some x) : Slt.gt (zl L) q = ((x.1 : Int), (x.2 : Int)) := by
  apply Slt.gt_eq
  unfold zl
  rw [List.getElem?_map, h]
  rfl
theorem zl_len (L : List (Nat × Nat)) : (zl L).length = L.length := by simp [zl]
theorem goes_runs (f : Nat → Nat) (a m : Nat) (hm : m ≤ 1048576) (hf : ∀ t, f t ≤ 32) : Slt.Goes (zl (Rule.runsOf f a m)) := by
  have hT := Rule.runsOf_tile f a m
  have hU := Rule.runsOf_unlike f a m
  intro q hq
  rw [zl_len] at hq
  obtain ⟨x, hx⟩ : ∃ x, (Rule.runsOf f a m)[q]? = some x := ⟨_, List.getElem?_eq_getElem hq⟩
  have h1 := hT.pos x (List.mem_of_getElem? hx)
  have h2 := Rule.pre_le hT (q + 1)
  rw [Rule.pre_succ hx] at h2
  have h3 := hT.at' q x hx (Rule.pre (Rule.runsOf f a m) q) (Nat.le_refl _) (by omega)
  have h4 := hf (a + Rule.pre (Rule.runsOf f a m) q)
  unfold Slt.Ok
  rw [zl_gt hx, zl_pr]
  refine ⟨by simp; omega, by simp; omega, by simp, by simp; omega, ?_⟩
  cases q with
  | zero => rw [Slt.nb_zero]; simp only; omega
  | succ p =>
    rw [Slt.nb_succ]
    obtain ⟨y, hy⟩ : ∃ y, (Rule.runsOf f a m)[p]? = some y := ⟨_, List.getElem?_eq_getElem (by omega)⟩
    rw [zl_gt hy]
    have := hU p y x hy hx
    simp
    omega
theorem pr_runs (f : Nat → Nat) (a m : Nat) : Slt.pr (zl (Rule.runsOf f a m)) (zl (Rule.runsOf f a m)).length = m := by
  rw [zl_pr, zl_len, Rule.pre_all, (Rule.runsOf_tile f a m).sum]
theorem occ32 {xs : List Srv} (hv : Vd xs) (t : Nat) : Rule.occ (sys xs) t ≤ 32 := by
  have := Rule.occ_le (sys xs) t
  have := hv.num
  show _ ≤ _
  have e : (sys xs).n = xs.length := rfl
  omega
theorem tab_runs {xs : List Srv} (hv : Vd xs) : Slt.Tab (zl (Rule.runsOf (Rule.occ (sys xs)) 0 (hyp xs))) (zl (Rule.runsOf (Rule.occ (sys xs)) (hyp xs) (hyp xs))) (hyp xs) :=
  ⟨goes_runs _ _ _ hv.hyp2 (occ32 hv), goes_runs _ _ _ hv.hyp2 (occ32 hv), pr_runs _ _ _, pr_runs _ _ _, hv.hyp1, hv.hyp2⟩
theorem in_runs {f : Nat → Nat} {a m u q : Nat} (h : Slt.In (zl (Rule.runsOf f a m)) (u : Int) q) : (Slt.gt (zl (Rule.runsOf f a m)) q).2 = (f (a + u) : Nat) := by
  have hq := h.1
  have h1 := h.2.1
  have h2 := h.2.2
  rw [zl_len] at hq
  obtain ⟨x, hx⟩ : ∃ x, (Rule.runsOf f a m)[q]? = some x := ⟨_, List.getElem?_eq_getElem hq⟩
  rw [zl_pr] at h1 h2
  rw [Rule.pre_succ hx] at h2
  rw [zl_gt hx, (Rule.runsOf_tile f a m).at' q x hx u (by omega) (by omega)]
theorem who_runs {xs : List Srv} (hv : Vd xs) {t q : Nat} (h : Slt.Sits (zl (Rule.runsOf (Rule.occ (sys xs)) 0 (hyp xs))) (zl (Rule.runsOf (Rule.occ (sys xs)) (hyp xs) (hyp xs))) (hyp xs) t q) :
    Slt.who (zl (Rule.runsOf (Rule.occ (sys xs)) 0 (hyp xs))) (zl (Rule.runsOf (Rule.occ (sys xs)) (hyp xs) (hyp xs))) (hyp xs) t q = (Rule.occ (sys xs) t : Nat) := by
  have hin := h.in'
  have hH := hv.hyp1
  have ba := Slt.beg_add (hyp xs) t
  have bm := Slt.beg_mul (hyp xs) t
  unfold Slt.who
  by_cases hb : Slt.beg (hyp xs) t = 0
  · unfold Slt.lst at hin ⊢
    rw [if_pos hb] at hin ⊢
    rw [in_runs hin, show 0 + t % hyp xs = t by omega]
  · unfold Slt.lst at hin ⊢
    rw [if_neg hb] at hin ⊢
    rw [in_runs hin]
    have hk : 1 ≤ t / hyp xs := by
      apply Decidable.byContradiction
      intro hn
      rw [show t / hyp xs = 0 from Nat.eq_zero_of_not_pos hn, Nat.mul_zero] at bm
      exact hb bm
    have e := Rule.again_mul hv.bd.ok (fun i hi => hv.dvd i hi) (hyp xs + t % hyp xs) (by omega) (t / hyp xs - 1)
    have e2 : hyp xs + t % hyp xs + (t / hyp xs - 1) * hyp xs = t := by
      rw [Nat.sub_mul, Nat.mul_comm (t / hyp xs), Nat.one_mul]
      have : hyp xs ≤ hyp xs * (t / hyp xs) := Nat.le_mul_of_pos_right _ hk
      omega
    rw [e2] at e
    rw [e]
theorem sm_rel {xs : List Srv} (hv : Vd xs) : ∀ n, n ≤ xs.length → ((Rule.sm (fun i => (2 * hyp xs) / (sys xs).P i) n : Nat) : Int) = relF (hyp xs : Int) xs n
  | 0, _ => rfl
  | n + 1, hn => by
    have ih := sm_rel hv n (by omega)
    have hp := hv.per n (by omega)
    rw [Rule.sm, relF, ← ih]
    have e : zP xs n = (((sys xs).P n : Nat) : Int) := by
      show (gs xs n).p = ((gs xs n).p.toNat : Int)
      omega
    rw [e]
    rfl
theorem slots_bound {xs : List Srv} (ht : timF xs xs.length = none) : (Rule.runsOf (Rule.occ (sys xs)) 0 (hyp xs)).length + (Rule.runsOf (Rule.occ (sys xs)) (hyp xs) (hyp xs)).length ≤ 131074 := by
  have hv := vd_of ht
  have h1 := Rule.slots_two hv.bd.ok hv.hyp1 (fun i hi => hv.dvd i hi)
  have h2 := sm_rel hv xs.length (Nat.le_refl _)
  have h3 : relF (hyp xs : Int) xs xs.length ≤ 65536 := by
    have hf := tim_none ht
    unfold timF at ht
    rw [hf] at ht
    unfold togF at ht
    have e : ((hyp xs : Nat) : Int) = lcmV (zP xs) xs.length 1048576 := by
      have := hv.hyp1
      unfold hyp at this ⊢
      omega
    rw [e]
    by_cases hb : lcmB (zP xs) xs.length 1048576 = true
    · rw [if_pos hb] at ht
      by_cases hr : relF (lcmV (zP xs) xs.length 1048576) xs xs.length ≤ 65536
      · exact hr
      · rw [if_neg hr] at ht; cases ht
    · rw [if_neg hb] at ht; cases ht
  have e : (sys xs).n = xs.length := rfl
  rw [e] at h1
  omega
end Go.Proofs.YtkmpgcgdamcikaaGreatDoor
