/-
  The servers in a line, the greatest priority first, gone through from change to change (plain: no dump).
-/
import Derived.Test.YtgpaaoflhffcbaaGreatDoorOMath
namespace Go.Proofs.YtgpaaoflhffcbaaGreatDoor
namespace Rule
set_option linter.unusedVariables false

/-- v is the first release of i behind u -/
def After (s : Sys) (i u v : Nat) : Prop := rel s i v ∧ u < v ∧ ∀ x, u < x → x < v → ¬ rel s i x

structure Inv (s : Sys) (idx rs nx : Nat → Nat) (now : Nat) : Prop where
  lt : ∀ k, k < s.n → idx k < s.n
  ord : ∀ j k, j < k → k < s.n → s.pr (idx k) < s.pr (idx j)
  onto : ∀ i, i < s.n → ∃ k, k < s.n ∧ idx k = i
  late : ∀ k, k < s.n → nx k ≤ now → rest s now (idx k) = s.B (idx k)
  soon : ∀ k, k < s.n → now < nx k → rest s now (idx k) = rs k ∧ After s (idx k) now (nx k)

def up (f : Nat → Nat) (k v : Nat) : Nat → Nat := fun j => if j = k then v else f j
theorem up_same (f : Nat → Nat) (k v : Nat) : up f k v k = v := by simp [up]
theorem up_other (f : Nat → Nat) {k j : Nat} (v : Nat) (h : j ≠ k) : up f k v j = f j := by simp [up, h]

theorem Inv.idx_inj {s : Sys} {idx rs nx : Nat → Nat} {now : Nat} (h : Inv s idx rs nx now) {j k : Nat} (hj : j < s.n) (hk : k < s.n) (e : idx j = idx k) : j = k := by
  rcases Nat.lt_trichotomy j k with h1 | h1 | h1
  · have := h.ord j k h1 hk; rw [e] at this; omega
  · exact h1
  · have := h.ord k j h1 hj; rw [e] at this; omega

/-- the releases up to now are done -/
theorem Inv.catchUp {s : Sys} {idx rs nx : Nat → Nat} {now : Nat} (h : Inv s idx rs nx now) {k v : Nat} (hk : k < s.n) (hl : nx k ≤ now) (hv : After s (idx k) now v) :
    Inv s idx (up rs k (s.B (idx k))) (up nx k v) now := by
  refine ⟨h.lt, h.ord, h.onto, fun j hj hle => ?_, fun j hj hlt => ?_⟩
  · by_cases e : j = k
    · subst e; rw [up_same] at hle; have := hv.2.1; omega
    · rw [up_other _ _ e] at hle; exact h.late j hj hle
  · by_cases e : j = k
    · subst e; rw [up_same, up_same]; exact ⟨h.late j hj hl, hv⟩
    · rw [up_other _ _ e] at hlt ⊢; rw [up_other _ _ e]; exact h.soon j hj hlt

theorem Inv.on {s : Sys} {idx rs nx : Nat → Nat} {now : Nat} (h : Inv s idx rs nx now) {L : Nat} {j : Nat} (hj : j < s.n) (ho : ∀ u, now ≤ u → u < now + L → occ s u ≠ idx j + 1) :
    (nx j ≤ now + L → rest s (now + L) (idx j) = s.B (idx j)) ∧ (now + L < nx j → rest s (now + L) (idx j) = rs j ∧ After s (idx j) (now + L) (nx j)) := by
  constructor
  · intro hle
    by_cases h1 : nx j ≤ now
    · exact full L ho (h.late j hj h1)
    · obtain ⟨_, h2, h3, h4⟩ := h.soon j hj (by omega)
      have e : now + L = nx j + (now + L - nx j) := by omega
      rw [e]
      exact full _ (fun u a b => ho u (by omega) (by omega)) (rest_rel h2)
  · intro hlt
    obtain ⟨h1, h2, h3, h4⟩ := h.soon j hj (by omega)
    refine ⟨?_, h2, hlt, fun x a b => h4 x (by omega) b⟩
    rw [idle L ho (fun u a b => h4 u a (by omega)), h1]

theorem Inv.none {s : Sys} {idx rs nx : Nat → Nat} {now : Nat} (h : Inv s idx rs nx now) {L : Nat} (h1 : ∀ j, j < s.n → now < nx j ∧ rs j = 0 ∧ now + L ≤ nx j) :
    (∀ u, now ≤ u → u < now + L → occ s u = 0) ∧ Inv s idx rs nx (now + L) := by
  have ho : ∀ m, m ≤ L → ∀ u, now ≤ u → u < now + m → occ s u = 0 := by
    intro m
    induction m with
    | zero => intro _ u a b; omega
    | succ m ih =>
      intro hm u a b
      have ih' := ih (by omega)
      by_cases e : u < now + m
      · exact ih' u a e
      · have : u = now + m := by omega
        subst this
        refine occ_zero.2 (fun i hi => ?_)
        obtain ⟨j, hj, rfl⟩ := h.onto i hi
        obtain ⟨a1, a2, a3⟩ := h1 j hj
        obtain ⟨b1, b2, b3, b4⟩ := h.soon j hj a1
        rw [idle m (fun u a b => by rw [ih' u a b]; omega) (fun u a b => b4 u a (by omega)), b1, a2]
  have ho' := ho L (Nat.le_refl _)
  refine ⟨ho', h.lt, h.ord, h.onto, fun j hj => ?_, fun j hj => ?_⟩
  · exact (h.on hj (fun u a b => by rw [ho' u a b]; omega)).1
  · exact (h.on hj (fun u a b => by rw [ho' u a b]; omega)).2

theorem Inv.slot {s : Sys} (hs : Ok s) {idx rs nx : Nat → Nat} {now : Nat} (h : Inv s idx rs nx now) {k L : Nat} (hk : k < s.n) (h1 : ∀ j, j ≤ k → now < nx j ∧ now + L ≤ nx j) (h2 : ∀ j, j < k → rs j = 0) (hL : L ≤ rs k) :
    (∀ u, now ≤ u → u < now + L → occ s u = idx k + 1) ∧ Inv s idx (up rs k (rs k - L)) nx (now + L) := by
  have ho : ∀ m, m ≤ L → ∀ u, now ≤ u → u < now + m → occ s u = idx k + 1 := by
    intro m
    induction m with
    | zero => intro _ u a b; omega
    | succ m ih =>
      intro hm u a b
      have ih' := ih (by omega)
      by_cases e : u < now + m
      · exact ih' u a e
      · have : u = now + m := by omega
        subst this
        refine (occ_iff hs (h.lt k hk)).2 ⟨?_, fun i hi hlt => ?_⟩
        · obtain ⟨a1, a2⟩ := h1 k (Nat.le_refl _)
          obtain ⟨b1, b2, b3, b4⟩ := h.soon k hk a1
          rw [Rule.runs m ih' (fun u a b => b4 u a (by omega)), b1]
          omega
        · obtain ⟨j, hj, rfl⟩ := h.onto i hi
          have hjk : j < k := by
            apply Decidable.byContradiction
            intro hn
            by_cases e : j = k
            · subst e; omega
            · have := h.ord k j (by omega) hj; omega
          obtain ⟨a1, a2⟩ := h1 j (by omega)
          obtain ⟨b1, b2, b3, b4⟩ := h.soon j hj a1
          rw [idle m (fun u a b => by rw [ih' u a b]; intro e; have := h.idx_inj hj hk (by omega); omega) (fun u a b => b4 u a (by omega)), b1, h2 j hjk]
  have ho' := ho L (Nat.le_refl _)
  refine ⟨ho', h.lt, h.ord, h.onto, fun j hj hle => ?_, fun j hj hlt => ?_⟩
  · by_cases e : j = k
    · subst e
      obtain ⟨a1, a2⟩ := h1 j (Nat.le_refl _)
      have : now + L = nx j := by omega
      rw [this]
      exact rest_rel (h.soon j hj a1).2.1
    · exact (h.on hj (fun u a b => by rw [ho' u a b]; intro e'; exact e (h.idx_inj hj hk (by omega)))).1 hle
  · by_cases e : j = k
    · subst e
      obtain ⟨a1, a2⟩ := h1 j (Nat.le_refl _)
      obtain ⟨b1, b2, b3, b4⟩ := h.soon j hj a1
      rw [up_same]
      refine ⟨?_, b2, hlt, fun x a b => b4 x (by omega) b⟩
      rw [Rule.runs L ho' (fun u a b => b4 u a (by omega)), b1]
    · rw [up_other _ _ e]
      exact (h.on hj (fun u a b => by rw [ho' u a b]; intro e'; exact e (h.idx_inj hj hk (by omega)))).2 hlt

/-- as they stand ahead of all releases -/
theorem Inv.start {s : Sys} (hs : Ok s) {idx : Nat → Nat} (lt : ∀ k, k < s.n → idx k < s.n) (ord : ∀ j k, j < k → k < s.n → s.pr (idx k) < s.pr (idx j)) (onto : ∀ i, i < s.n → ∃ k, k < s.n ∧ idx k = i) :
    Inv s idx (fun _ => 0) (fun k => s.O (idx k)) 0 := by
  refine ⟨lt, ord, onto, fun k hk hle => ?_, fun k hk hlt => ?_⟩
  · exact rest_rel ⟨hle, by simp⟩
  · exact ⟨rest_early 0 hlt, ⟨Nat.le_refl _, by simp⟩, hlt, fun x a b hr => by have := hr.1; omega⟩

end Rule
end Go.Proofs.YtgpaaoflhffcbaaGreatDoor
