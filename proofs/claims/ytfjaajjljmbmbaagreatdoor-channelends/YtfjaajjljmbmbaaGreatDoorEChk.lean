/-
  Of an image that may be booted each port stands at one channel at most.
-/
import Derived.Test.YtfjaajjljmbmbaaGreatDoorEEnd
import Derived.Test.YtfjaajjljmbmbaaGreatDoorGK
namespace Go.Proofs.YtfjaajjljmbmbaaGreatDoor
open Go.RowKit Plain
set_option linter.unusedVariables false
set_option linter.unusedSimpArgs false
set_option maxRecDepth 100000

theorem eachF_ne {r : Nat → Int} {first : Int} : ∀ {n : Nat} {p : Int × Int}, Ck.eachF r first n = some p → p.1 ≠ 0
  | 0, p, h => by simp [Ck.eachF] at h
  | n + 1, p, h => by
    rw [Ck.eachF] at h
    cases he : Ck.eachF r first n with
    | some q => rw [he] at h; simp at h; subst h; exact eachF_ne he
    | none =>
      rw [he] at h
      simp only at h
      split at h
      · cases h
      · rename_i hr
        simp at h
        subst h
        exact hr
theorem find_ne {xs : List Ck.Srv} {n : Nat} {p : Int × Int} (h : Ck.findF xs n = some p) : p.1 ≠ 0 := by
  unfold Ck.findF at h
  split at h
  · exact eachF_ne h
  · simp at h; subst h; decide
theorem tim_ne {xs : List Ck.Srv} {n : Nat} {p : Int × Int} (h : Ck.timF xs n = some p) : p.1 ≠ 0 := by
  unfold Ck.timF at h
  cases hf : Ck.findF xs n with
  | some q => rw [hf] at h; simp at h; subst h; exact find_ne hf
  | none =>
    rw [hf] at h
    simp only at h
    unfold Ck.togF at h
    split at h
    · split at h
      · cases h
      · simp at h; subst h; decide
    · simp at h; subst h; decide
theorem first_ne {s : Nat → Option (Int × Int)} (hs : ∀ j p, s j = some p → p.1 ≠ 0) : ∀ {n : Nat} {p : Int × Int}, Ck.firstF s n = some p → p.1 ≠ 0
  | 0, p, h => by simp [Ck.firstF] at h
  | n + 1, p, h => by
    rw [Ck.firstF] at h
    cases he : Ck.firstF s n with
    | some q => rw [he] at h; simp at h; subst h; exact first_ne hs he
    | none => rw [he] at h; exact hs n p h
theorem chk_ne {x : Im} {p : Int × Int} (h : Ck.chkF x = some p) : p.1 ≠ 0 := by
  refine first_ne (fun j q hq => ?_) h
  match j, hq with
  | 0, hq =>
    simp only [Ck.stS] at hq
    split at hq
    · cases hq
    · simp at hq; subst hq; decide
  | 1, hq => exact eachF_ne hq
  | 2, hq => exact tim_ne hq
  | 3, hq => exact eachF_ne hq
  | 4, hq => exact eachF_ne hq
  | j + 5, hq => exact eachF_ne hq
theorem chk_none {x : Im} (h : Ck.fe (Ck.chkF x) = 0) : Ck.chkF x = none := by
  cases hc : Ck.chkF x with
  | none => rfl
  | some p =>
    rw [hc] at h
    obtain ⟨a, b⟩ := p
    exact absurd h (chk_ne hc)

theorem ch_row {x : Im} (h : Ck.chkF x = none) {k : Nat} {c : Ch} (hk : x.chans[k]? = some c) (j : Nat) (hj : j < 8) : Ck.bCh x.ports x.chans k j = true ∧ x.chans.getD k Ck.dCh = c := by
  have h5 := Ck.firstF_none h 5 (by omega)
  have hkl : k < x.chans.length := (List.getElem?_eq_some_iff.1 hk).1
  have h1 := Ck.eachF_none (show Ck.eachF (fun i => Ck.rowsF (fun j => if Ck.bCh x.ports x.chans i j then 0 else 108) 8) 1 x.chans.length = none from h5) k hkl
  have h2 := Ck.rowsF_zero h1 j hj
  refine ⟨?_, by rw [List.getD, hk]; rfl⟩
  cases hb : Ck.bCh x.ports x.chans k j with
  | true => rfl
  | false => rw [hb] at h2; simp at h2
theorem take_mem {α : Type} {L : List α} {j k : Nat} {y : α} (hj : j < k) (hy : L[j]? = some y) : y ∈ L.take k := by
  have : (L.take k)[j]? = some y := by rw [List.getElem?_take, if_pos hj]; exact hy
  exact List.mem_of_getElem? this
theorem from_one {x : Im} (h : Ck.chkF x = none) {k : Nat} {c : Ch} (hk : x.chans[k]? = some c) (h0 : 0 < c.fr) : leastN (fun o => numB c.fr o.fr) x.chans = (k : Int) + 1 := by
  obtain ⟨h2, e⟩ := ch_row h hk 2 (by omega)
  refine least_one hk (by unfold numB; simp; omega) (fun j y hj hy => ?_)
  simp only [Ck.bCh] at h2
  rw [e] at h2
  unfold Ck.ownFromB at h2
  have hf : (c.fr == 0) = false := by simp; omega
  rw [hf, Bool.false_or, Bool.not_eq_true', List.any_eq_false] at h2
  have := h2 y (take_mem hj hy)
  unfold numB
  simp only [Bool.and_eq_false_iff]
  exact .inl (by simpa using this)
theorem to_one {x : Im} (h : Ck.chkF x = none) {k : Nat} {c : Ch} (hk : x.chans[k]? = some c) {z : Int} (hz : z ∈ c.dst) : leastN (fun o => o.dst.any (numB z)) x.chans = (k : Int) + 1 := by
  obtain ⟨h3, e⟩ := ch_row h hk 3 (by omega)
  obtain ⟨h4, _⟩ := ch_row h hk 4 (by omega)
  simp only [Ck.bCh] at h3 h4
  rw [e] at h3 h4
  have h1 := (Ck.fit_in (Ck.goes_mem h3 z hz)).1
  refine least_one hk ?_ (fun j y hj hy => ?_)
  · rw [List.any_eq_true]
    exact ⟨z, hz, by unfold numB; simp; omega⟩
  · unfold Ck.ownToB at h4
    rw [Bool.not_eq_true', List.any_eq_false] at h4
    have h5 := h4 z hz
    have h6 : (x.chans.take k).any (fun o => o.dst.any (fun t => z == t)) = false := by simpa using h5
    rw [List.any_eq_false] at h6
    have h7 := h6 y (take_mem hj hy)
    have h8 : y.dst.any (fun t => z == t) = false := by
      cases hh : y.dst.any (fun t => z == t) with
      | false => rfl
      | true => exact absurd hh h7
    rw [List.any_eq_false] at h8 ⊢
    intro t ht
    have h9 := h8 t ht
    unfold numB
    simp only [Bool.and_eq_true, not_and]
    intro e
    have e' : t = z := by simpa using e
    exact absurd (by rw [e']; simp) h9

/-- the parts of a channel, in the words of a partition -/
theorem any_to {ps : List Po} {p : Int} (hp : 1 ≤ p) (dst : List Int) : (partsL ps dst).any (fun y => y == p) = dst.any (ownB ps p) := by
  rw [partsL_any]
  unfold toL
  split
  · rename_i h0
    have : dst = [] := List.eq_nil_of_length_eq_zero h0
    subst this
    simp
    omega
  · rw [List.any_map]
    congr 1
    funext t
    unfold ownB
    simp [hp]
theorem own_any {ps : List Po} {p : Int} (hp : 1 ≤ p) (t : Int) : ownB ps p t = (partV ps t == p) := by unfold ownB; simp [hp]
theorem own_no {ps : List Po} {p : Int} (hp : p < 1) (t : Int) : ownB ps p t = false := by unfold ownB; rw [decide_eq_false (by omega)]; rfl
end Go.Proofs.YtfjaajjljmbmbaaGreatDoor
