/-
  The timers as a list in order. Plain.
-/
import Derived.Test.YtffgcijicmfmlaaGreatDoorWInv
namespace Go.Proofs.YtffgcijicmfmlaaGreatDoor
set_option linter.unusedVariables false

def lt2 (x y : Fi) : Prop := x.t < y.t ∨ x.t = y.t ∧ x.i < y.i
instance (x y : Fi) : Decidable (lt2 x y) := by unfold lt2; exact inferInstance
theorem lt2_irrefl (x : Fi) : ¬ lt2 x x := by unfold lt2; omega
theorem lt2_trans {x y z : Fi} (h : lt2 x y) (h' : lt2 y z) : lt2 x z := by unfold lt2 at *; omega
theorem lt2_total {x y : Fi} (h : x.i ≠ y.i) : lt2 x y ∨ lt2 y x := by unfold lt2; omega
theorem lt2_le {x y : Fi} (h : lt2 x y) : x.t ≤ y.t := by unfold lt2 at h; omega

theorem sorted_ext : ∀ {A B : List Fi}, A.Pairwise lt2 → B.Pairwise lt2 → (∀ x, x ∈ A ↔ x ∈ B) → A = B
  | [], [], _, _, _ => rfl
  | [], b :: B, _, _, h => by have := (h b).2 List.mem_cons_self; cases this
  | a :: A, [], _, _, h => by have := (h a).1 List.mem_cons_self; cases this
  | a :: A, b :: B, ha, hb, h => by
    obtain ⟨ha1, ha2⟩ := List.pairwise_cons.1 ha
    obtain ⟨hb1, hb2⟩ := List.pairwise_cons.1 hb
    have hab : a = b := by
      rcases List.mem_cons.1 ((h a).1 List.mem_cons_self) with e | hm
      · exact e
      · rcases List.mem_cons.1 ((h b).2 List.mem_cons_self) with e | hm2
        · exact e.symm
        · exact absurd (lt2_trans (ha1 b hm2) (hb1 a hm)) (lt2_irrefl a)
    subst hab
    congr 1
    refine sorted_ext ha2 hb2 (fun x => ⟨fun hx => ?_, fun hx => ?_⟩)
    · rcases List.mem_cons.1 ((h x).1 (List.mem_cons_of_mem _ hx)) with e | hm
      · subst e; exact absurd (ha1 x hx) (lt2_irrefl x)
      · exact hm
    · rcases List.mem_cons.1 ((h x).2 (List.mem_cons_of_mem _ hx)) with e | hm
      · subst e; exact absurd (hb1 x hx) (lt2_irrefl x)
      · exact hm

/-- all but the one of a number -/
def rem (i : Int) (L : List Fi) : List Fi := L.filter (fun x => x.i != i)
theorem mem_rem {i : Int} {L : List Fi} {x : Fi} : x ∈ rem i L ↔ x ∈ L ∧ x.i ≠ i := by
  unfold rem
  rw [List.mem_filter]
  simp
/-- one more, in its place -/
def ins (x : Fi) : List Fi → List Fi
  | [] => [x]
  | y :: L => if lt2 x y then x :: y :: L else y :: ins x L
theorem mem_ins {x y : Fi} : ∀ {L : List Fi}, y ∈ ins x L ↔ y = x ∨ y ∈ L
  | [] => by simp [ins]
  | z :: L => by
    unfold ins
    split
    · simp
    · rw [List.mem_cons, mem_ins, List.mem_cons]
      constructor
      · rintro (h | h | h)
        · exact .inr (.inl h)
        · exact .inl h
        · exact .inr (.inr h)
      · rintro (h | h | h)
        · exact .inr (.inl h)
        · exact .inl h
        · exact .inr (.inr h)
theorem ins_length (x : Fi) : ∀ L : List Fi, (ins x L).length = L.length + 1
  | [] => rfl
  | y :: L => by
    unfold ins
    split
    · rfl
    · rw [List.length_cons, ins_length x L, List.length_cons]
theorem ins_sorted {x : Fi} : ∀ {L : List Fi}, L.Pairwise lt2 → (∀ y, y ∈ L → y.i ≠ x.i) → (ins x L).Pairwise lt2
  | [], _, _ => by simp [ins]
  | y :: L, h, hx => by
    obtain ⟨h1, h2⟩ := List.pairwise_cons.1 h
    unfold ins
    split
    · rename_i hl
      refine List.pairwise_cons.2 ⟨fun z hz => ?_, h⟩
      rcases List.mem_cons.1 hz with rfl | hz
      · exact hl
      · exact lt2_trans hl (h1 z hz)
    · rename_i hl
      have hyx : lt2 y x := by
        rcases lt2_total (hx y List.mem_cons_self) with h | h
        · exact h
        · exact absurd h hl
      refine List.pairwise_cons.2 ⟨fun z hz => ?_, ins_sorted h2 (fun z hz => hx z (List.mem_cons_of_mem _ hz))⟩
      rcases mem_ins.1 hz with rfl | hz
      · exact hyx
      · exact h1 z hz

/-- the tick that the map tells -/
def tk (M : Int → Option (Int × Int)) (i : Int) : Option Int := (M i).map Prod.fst
/-- L is the timers of M, in their order -/
structure Rp (c : Nat) (M : Int → Option (Int × Int)) (L : List Fi) : Prop where
  sorted : L.Pairwise lt2
  cnt : c = L.length
  mem : ∀ i t, tk M i = some t ↔ Fi.mk t i ∈ L
theorem tk_some {M : Int → Option (Int × Int)} {i t j : Int} (h : M i = some (t, j)) : tk M i = some t := by unfold tk; rw [h]; rfl
theorem tk_none {M : Int → Option (Int × Int)} {i : Int} : tk M i = none ↔ M i = none := by unfold tk; simp
theorem some_tk {M : Int → Option (Int × Int)} {i t : Int} (h : tk M i = some t) : ∃ j, M i = some (t, j) := by
  unfold tk at h
  cases e : M i with
  | none => rw [e] at h; cases h
  | some p => rw [e] at h; obtain ⟨a, b⟩ := p; simp at h; subst h; exact ⟨b, rfl⟩
namespace Rp
variable {c : Nat} {M M' : Int → Option (Int × Int)} {L : List Fi}
theorem uniq (h : Rp c M L) {x y : Fi} (hx : x ∈ L) (hy : y ∈ L) (e : x.i = y.i) : x = y := by
  have h1 := (h.mem x.i x.t).2 hx
  have h2 := (h.mem y.i y.t).2 hy
  rw [e, h2] at h1
  injection h1 with h1
  cases x; cases y; simp only [Fi.mk.injEq]; exact ⟨h1.symm, e⟩
theorem nodup (h : Rp c M L) : L.Nodup := h.sorted.imp (fun {a b} hab e => by subst e; exact lt2_irrefl a hab)
theorem len_rem (h : Rp c M L) {z : Fi} (hz : z ∈ L) : (rem z.i L).length + 1 = L.length := by
  obtain ⟨A, B, e⟩ := List.append_of_mem hz
  have hn := h.nodup
  have hA : ∀ x, x ∈ A → (x.i != z.i) = true := fun x hx => by
    apply bne_iff_ne.2
    intro e2
    have hxz := h.uniq (by rw [e]; exact List.mem_append_left _ hx) hz e2
    rw [e] at hn
    subst hxz
    exact (List.nodup_append.1 hn).2.2 x hx x List.mem_cons_self rfl
  have hB : ∀ x, x ∈ B → (x.i != z.i) = true := fun x hx => by
    apply bne_iff_ne.2
    intro e2
    have hxz := h.uniq (by rw [e]; exact List.mem_append_right _ (List.mem_cons_of_mem _ hx)) hz e2
    rw [e] at hn
    subst hxz
    exact (List.nodup_cons.1 (List.nodup_append.1 hn).2.1).1 hx
  unfold rem
  rw [e, List.filter_append, List.filter_cons, if_neg (by simp), List.filter_eq_self.2 hA, List.filter_eq_self.2 hB]
  simp
  omega
/-- one is forgotten -/
theorem del (h : Rp c M L) {z : Fi} (hz : z ∈ L) (hM : ∀ i, i ≠ z.i → tk M' i = tk M i) (h0 : M' z.i = none) : Rp (c - 1) M' (rem z.i L) := by
  refine ⟨h.sorted.sublist List.filter_sublist, ?_, ?_⟩
  · have := h.len_rem hz
    rw [h.cnt]
    omega
  · intro i t
    by_cases e : i = z.i
    · subst e
      rw [tk_none.2 h0, mem_rem]
      constructor
      · intro h; cases h
      · intro h; exact absurd rfl h.2
    · rw [hM i e, mem_rem, h.mem]
      exact ⟨fun h => ⟨h, e⟩, fun h => h.1⟩
/-- nothing was there to be forgotten -/
theorem rem_none (h : Rp c M L) {i : Int} (h0 : M i = none) : rem i L = L := by
  unfold rem
  rw [List.filter_eq_self]
  intro x hx
  apply bne_iff_ne.2
  intro e
  have := (h.mem x.i x.t).2 hx
  rw [e, tk_none.2 h0] at this
  cases this
/-- the map tells the same ticks -/
theorem same (h : Rp c M L) (hM : ∀ i, tk M' i = tk M i) : Rp c M' L := ⟨h.sorted, h.cnt, fun i t => by rw [hM]; exact h.mem i t⟩
/-- one more -/
theorem add (h : Rp c M L) {x : Fi} (h0 : M x.i = none) (j : Int) : Rp (c + 1) (updM M x.i (some (x.t, j))) (ins x L) := by
  have hx : ∀ y, y ∈ L → y.i ≠ x.i := fun y hy e => by
    have := (h.mem y.i y.t).2 hy
    rw [e, tk_none.2 h0] at this
    cases this
  refine ⟨ins_sorted h.sorted hx, by rw [ins_length, h.cnt], fun i t => ?_⟩
  rw [mem_ins]
  by_cases e : i = x.i
  · subst e
    unfold tk
    rw [updM_same]
    constructor
    · intro h1
      simp at h1
      subst h1
      exact .inl rfl
    · rintro (h1 | h1)
      · rw [← h1]; rfl
      · exact absurd (rfl : (Fi.mk t x.i).i = x.i) (hx _ h1)
  · unfold tk
    rw [updM_ne _ _ e]
    have := h.mem i t
    unfold tk at this
    rw [this]
    constructor
    · exact .inr
    · rintro (h1 | h1)
      · exact absurd (by rw [← h1]) e
      · exact h1
theorem tk_upd {M : Int → Option (Int × Int)} {i t j j' : Int} (h : M i = some (t, j)) (k : Int) : tk (updM M i (some (t, j'))) k = tk M k := by
  unfold tk
  by_cases e : k = i
  · subst e; rw [updM_same, h]; rfl
  · rw [updM_ne _ _ e]
/-- the first ones run out -/
theorem fire (h : Rp c M L) {A : List Fi} (hA : A.Pairwise lt2) (hin : ∀ x, x ∈ A → x ∈ L) (hlt : ∀ x, x ∈ L → x ∉ A → ∀ y, y ∈ A → lt2 y x) : ∃ L', L = A ++ L' := by
  refine ⟨L.filter (fun x => !A.contains x), ?_⟩
  have hm : ∀ x, x ∈ L.filter (fun x => !A.contains x) ↔ x ∈ L ∧ x ∉ A := by intro x; simp [List.mem_filter]
  refine sorted_ext h.sorted (List.pairwise_append.2 ⟨hA, h.sorted.sublist List.filter_sublist, fun a ha b hb => ?_⟩) (fun x => ?_)
  · exact hlt b ((hm b).1 hb).1 ((hm b).1 hb).2 a ha
  · rw [List.mem_append, hm]
    constructor
    · intro hx
      by_cases e : x ∈ A
      · exact .inl e
      · exact .inr ⟨hx, e⟩
    · rintro (hx | hx)
      · exact hin x hx
      · exact hx.1
end Rp

end Go.Proofs.YtffgcijicmfmlaaGreatDoor
