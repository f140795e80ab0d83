/-
  What is fair: plain.
-/
import Derived.Test.YteiakmjdjaodlaaRList
namespace Go.Proofs.Yteiakmjdjaodlaa
set_option linter.unusedVariables false

/-- where a number stands; -1: nowhere -/
def whereI (xs : List Int) (i : Int) : Int := if i ∈ xs then (xs.idxOf i : Int) else -1
theorem whereI_at {xs : List Int} {i : Int} {j : Nat} (h : xs[j]? = some i) (h2 : ∀ m, m < j → xs[m]? ≠ some i) : whereI xs i = j := by
  have hj : j < xs.length := (List.getElem?_eq_some_iff.1 h).1
  have hm : i ∈ xs := List.mem_of_getElem? h
  unfold whereI
  rw [if_pos hm]
  have h3 : xs.idxOf i = j := by
    have hl := List.idxOf_lt_length_of_mem hm
    have hg : xs[xs.idxOf i]? = some i := by rw [List.getElem?_eq_getElem hl, List.getElem_idxOf]
    rcases Nat.lt_trichotomy (xs.idxOf i) j with h4 | h4 | h4
    · exact absurd hg (h2 _ h4)
    · exact h4
    · have hj2 : xs[j] = i := by rw [List.getElem?_eq_getElem hj] at h; injection h
      have := List.not_of_lt_findIdx (p := (· == i)) (xs := xs) (i := j) (show j < xs.findIdx (· == i) from h4)
      exact absurd hj2 (by simpa using this)
  rw [h3]
theorem whereI_no {xs : List Int} {i : Int} (h : ∀ m : Nat, xs[m]? ≠ some i) : whereI xs i = -1 := by
  unfold whereI
  rw [if_neg]
  intro hm
  obtain ⟨k, hk, e⟩ := List.getElem_of_mem hm
  exact h k (by rw [List.getElem?_eq_getElem hk, e])
theorem whereI_ge (xs : List Int) (i : Int) : decide (whereI xs i ≥ 0) = decide (i ∈ xs) := by
  unfold whereI
  by_cases h : i ∈ xs
  · rw [if_pos h, decide_eq_true h]; exact decide_eq_true (by omega)
  · rw [if_neg h, decide_eq_false h]; rfl
theorem whereI_lt (xs : List Int) (i : Int) : whereI xs i < xs.length := by
  unfold whereI
  split
  · rename_i h; have := List.idxOf_lt_length_of_mem h; omega
  · omega

theorem idL_at {S : List En} {j : Nat} {x : En} (h : S[j]? = some x) : (idL S)[j]? = some x.id := by unfold idL; simp [h]
theorem idL_mem {S : List En} {i : Int} : i ∈ idL S ↔ ∃ x, x ∈ S ∧ x.id = i := by unfold idL; simp
theorem idL_len (S : List En) : (idL S).length = S.length := by unfold idL; simp
section
variable {mo nx : Nat} {S : List En}
theorem Okl.idx (h : Okl mo nx S) {j m : Nat} {x y : En} (hx : S[j]? = some x) (hy : S[m]? = some y) (e : x.id = y.id) : j = m := by
  obtain ⟨hj, e1⟩ := List.getElem?_eq_some_iff.1 hx
  obtain ⟨hm, e2⟩ := List.getElem?_eq_some_iff.1 hy
  have exy : x = y := h.cu x y (by rw [← e1]; exact List.getElem_mem hj) (by rw [← e2]; exact List.getElem_mem hm) (.inr e)
  rcases Nat.lt_trichotomy j m with h4 | h4 | h4
  · have := List.pairwise_iff_getElem.1 h.srt j m hj hm h4
    rw [e1, e2, exy] at this
    exact absurd this (lt'.irr _)
  · exact h4
  · have := List.pairwise_iff_getElem.1 h.srt m j hm hj h4
    rw [e1, e2, exy] at this
    exact absurd this (lt'.irr _)
theorem Okl.where' (h : Okl mo nx S) {j : Nat} {x : En} (hx : S[j]? = some x) : whereI (idL S) x.id = j := by
  refine whereI_at (idL_at hx) (fun m hm e => ?_)
  unfold idL at e
  rw [List.getElem?_map] at e
  cases hy : S[m]? with
  | none => rw [hy] at e; cases e
  | some y =>
    rw [hy] at e
    injection e with e
    have := h.idx hx hy e.symm
    omega
theorem Okl.find (h : Okl mo nx S) {x : En} (hx : x ∈ S) : findE x.id S = some x := by
  cases e : findE x.id S with
  | none => exact absurd rfl (findE_none e x hx)
  | some y =>
    obtain ⟨h1, h2⟩ := findE_hit e
    rw [h.cu y x h1 hx (.inr h2)]
theorem Okl.prio (h : Okl mo nx S) {x : En} (hx : x ∈ S) : prioE x.id S = x.pr := by unfold prioE; rw [h.find hx]; rfl
end

/-- what a call may do to a line -/
def Fair (S S' : List En) (id : Int) (inn : Bool) (k pr : Int) : Prop :=
  (idL S).filter (fun x => x != id) = (idL S').filter (fun x => x != id) ∧
  decide (id ∈ idL S') = (inn || ((k == 1) && decide (id ∈ idL S))) ∧
  (inn = true → ∀ y, (idL S')[(idL S').idxOf id + 1]? = some y → prioE y S' < pr)
theorem fil_out (i : Int) (S : List En) : (idL S).filter (fun x => x != i) = idL (outE i S) := by
  unfold idL outE
  rw [List.filter_map]
  rfl
theorem out_out (i : Int) (S : List En) : outE i (outE i S) = outE i S := outE_same (fun x hx => (outE_mem.1 hx).2)
theorem out_ins (e : En) : ∀ S : List En, outE e.id (insE e S) = outE e.id S
  | [] => by unfold outE insE; simp
  | x :: r => by
    unfold insE
    split
    · have ih := out_ins e r
      unfold outE at ih ⊢
      rw [List.filter_cons, List.filter_cons, ih]
    · unfold outE
      rw [List.filter_cons, if_neg (by simp)]
theorem fair_put {mo nx : Nat} {S : List En} (h : Okl mo nx S) (i p : Int) (h1 : 1 ≤ i) (h2 : i ≤ mo) (hp : I6 p) : Fair S (insE ⟨i, p, nx⟩ (outE i S)) i true 1 p := by
  have hok := (h.out i).ins i p h1 h2 hp (fun x hx => (outE_mem.1 hx).2)
  have he : (⟨i, p, nx⟩ : En) ∈ insE ⟨i, p, nx⟩ (outE i S) := (insE_mem _ _ _).2 (.inl rfl)
  refine ⟨?_, ?_, fun _ y hy => ?_⟩
  · rw [fil_out, fil_out, show outE i (insE ⟨i, p, nx⟩ (outE i S)) = outE i (outE i S) from out_ins ⟨i, p, nx⟩ (outE i S), out_out]
  · rw [Bool.true_or]
    exact decide_eq_true (idL_mem.2 ⟨_, he, rfl⟩)
  · obtain ⟨k, hk, hke⟩ := List.getElem_of_mem he
    have hk2 : (insE ⟨i, p, nx⟩ (outE i S))[k]? = some ⟨i, p, nx⟩ := by rw [List.getElem?_eq_getElem hk, hke]
    have hw := hok.where' hk2
    have him : i ∈ idL (insE ⟨i, p, nx⟩ (outE i S)) := idL_mem.2 ⟨_, he, rfl⟩
    unfold whereI at hw
    rw [if_pos him] at hw
    have hix : (idL (insE ⟨i, p, nx⟩ (outE i S))).idxOf i = k := by exact Int.ofNat.inj hw
    rw [hix] at hy
    unfold idL at hy
    rw [List.getElem?_map] at hy
    cases hz : (insE ⟨i, p, nx⟩ (outE i S))[k + 1]? with
    | none => rw [hz] at hy; cases hy
    | some z =>
      rw [hz] at hy
      injection hy with hy
      subst hy
      obtain ⟨hk1, e1⟩ := List.getElem?_eq_some_iff.1 hz
      have hzm : z ∈ insE ⟨i, p, nx⟩ (outE i S) := by rw [← e1]; exact List.getElem_mem hk1
      rw [hok.prio hzm]
      have hlt := List.pairwise_iff_getElem.1 hok.srt k (k + 1) hk hk1 (by omega)
      rw [hke, e1] at hlt
      rcases (insE_mem _ _ _).1 hzm with rfl | hzo
      · exact absurd hlt (lt'.irr _)
      · have := ((h.out i).ok z hzo).2.2.2.2
        unfold lt' at hlt
        simp only at hlt
        omega
theorem fair_same (S : List En) (i p : Int) : Fair S S i false 1 p := by
  refine ⟨rfl, ?_, fun h => by cases h⟩
  simp
theorem fair_remove (S : List En) (i p : Int) : Fair S (outE i S) i false 2 p := by
  refine ⟨?_, ?_, fun h => by cases h⟩
  · rw [fil_out, fil_out, out_out]
  · rw [decide_eq_false]
    · rfl
    · intro hm
      obtain ⟨x, hx, e⟩ := idL_mem.1 hm
      exact (outE_mem.1 hx).2 e
theorem fair_take {mo nx : Nat} {S : List En} (h : Okl mo nx S) (p : Int) : Fair S S.tail (headI S) false 4 p := by
  cases S with
  | nil =>
    refine ⟨rfl, ?_, fun h => by cases h⟩
    rfl
  | cons x r =>
    have ho := out_head h
    rw [show (x :: r).tail = r from rfl, show headI (x :: r) = x.id from rfl]
    have := fair_remove (x :: r) x.id p
    rw [ho] at this
    refine ⟨this.1, ?_, fun h => by cases h⟩
    rw [this.2.1]
    rfl

end Go.Proofs.Yteiakmjdjaodlaa
