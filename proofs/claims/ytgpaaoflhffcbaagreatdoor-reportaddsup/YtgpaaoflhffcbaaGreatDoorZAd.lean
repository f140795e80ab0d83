/-
  Shares add up: plain.
-/
import Derived.Test.YtgpaaoflhffcbaaGreatDoorZSh
namespace Go.Proofs.YtgpaaoflhffcbaaGreatDoor
set_option linter.unusedVariables false

theorem So.le' {K : Nat → Int} {a b : Nat} {D : Nat → Nat} (h : So K a b D) {s t : Nat} (s1 : a ≤ s) (st : s ≤ t) (t1 : t < b) : K (D t) ≤ K (D s) := by
  by_cases e : s = t
  · rw [e]; exact Int.le_refl _
  · have := h s t s1 (by omega) t1
    unfold ltK at this; omega
def incM (D : Nat → Nat) : Nat → Nat → Int
  | 0, _ => 0
  | t + 1, i => incM D t i + (if i = D t then 1 else 0)
theorem sm_nonneg {f : Nat → Int} : ∀ n, (∀ i, i < n → 0 ≤ f i) → 0 ≤ sm f n
  | 0, _ => Int.le_refl _
  | n + 1, h => by
    have := sm_nonneg n (fun i hi => h i (by omega))
    have := h n (by omega)
    rw [sm]; omega
theorem sm_le {f : Nat → Int} {B : Int} : ∀ n, (∀ i, i < n → f i ≤ B) → sm f n ≤ n * B
  | 0, _ => by simp [sm]
  | n + 1, h => by
    have := sm_le n (fun i hi => h i (by omega))
    have := h n (by omega)
    rw [sm, Int.natCast_add, Int.add_mul]
    simp
    omega
theorem sm_add (f g : Nat → Int) : ∀ n, sm (fun i => f i + g i) n = sm f n + sm g n
  | 0 => rfl
  | n + 1 => by rw [sm, sm, sm, sm_add f g n]; omega
theorem sm_mul (f : Nat → Int) (c : Int) : ∀ n, sm (fun i => f i * c) n = sm f n * c
  | 0 => by simp [sm]
  | n + 1 => by rw [sm, sm, sm_mul f c n, Int.add_mul]
theorem sm_tail {f : Nat → Int} {t : Nat} : ∀ d, (∀ i, t ≤ i → i < t + d → f i = 0) → sm f (t + d) = sm f t
  | 0, _ => rfl
  | d + 1, h => by
    rw [← Nat.add_assoc, sm, sm_tail d (fun i h1 h2 => h i h1 (by omega)), h (t + d) (by omega) (by omega)]; omega
/-- what is left over, times the hyperperiod, is what the parts leave over -/
theorem left_eq {f : Nat → Int} {H : Int} {n : Nat} (hH : 1 ≤ H) (hs : sm f n = H) : (1000000 - sm (fun i => f i * 1000000 / H) n) * H = sm (fun i => (f i * 1000000) % H) n := by
  have h1 : sm (fun i => f i * 1000000) n = sm f n * 1000000 := sm_mul f 1000000 n
  have h2 : sm (fun i => f i * 1000000) n = sm (fun i => (f i * 1000000 / H) * H + (f i * 1000000) % H) n := sm_congr n (fun i _ => by
    have := Int.mul_ediv_add_emod (f i * 1000000) H
    rw [Int.mul_comm] at this
    omega)
  rw [sm_add (fun i => f i * 1000000 / H * H) (fun i => (f i * 1000000) % H) n, sm_mul (fun i => f i * 1000000 / H) H n] at h2
  rw [Int.sub_mul]
  rw [hs] at h1
  have : (1000000 : Int) * H = H * 1000000 := Int.mul_comm _ _
  omega
theorem left_bd {f : Nat → Int} {H : Int} {n : Nat} (hH : 1 ≤ H) (hs : sm f n = H) : 0 ≤ 1000000 - sm (fun i => f i * 1000000 / H) n ∧ 1000000 - sm (fun i => f i * 1000000 / H) n ≤ n := by
  have h := left_eq hH hs
  have h1 : 0 ≤ sm (fun i => (f i * 1000000) % H) n := sm_nonneg n (fun i _ => Int.emod_nonneg _ (by omega))
  have h2 : sm (fun i => (f i * 1000000) % H) n ≤ n * H := sm_le n (fun i _ => by have := Int.emod_lt_of_pos (f i * 1000000) (show 0 < H by omega); omega)
  rw [← h] at h1 h2
  generalize 1000000 - sm (fun i => f i * 1000000 / H) n = L at *
  refine ⟨?_, ?_⟩
  · by_cases hc : 0 ≤ L
    · exact hc
    · have : L * H ≤ (-1) * H := Int.mul_le_mul_of_nonneg_right (by omega) (by omega)
      omega
  · by_cases hc : L ≤ n
    · exact hc
    · have h3 : ((n : Int) + 1) * H ≤ L * H := Int.mul_le_mul_of_nonneg_right (by omega) (by omega)
      rw [Int.add_mul] at h3
      omega
/-- those that are given one more have something left over -/
theorem left_pos {f : Nat → Int} {H : Int} {n : Nat} {D : Nat → Nat} {L : Nat} (hH : 1 ≤ H) (hs : sm f n = H) (hL : 1000000 - sm (fun i => f i * 1000000 / H) n = (L : Int)) (hp : Pm 0 n (fun i => i) D) (ho : So (fun i => (f i * 1000000) % H) 0 n D) {t : Nat} (ht : t < L) (htn : t < n) : 0 < (f (D t) * 1000000) % H := by
  by_cases hc : 0 < (f (D t) * 1000000) % H
  · exact hc
  · exfalso
    have hz : ∀ i, t ≤ i → i < t + (n - t) → (fun s => (f (D s) * 1000000) % H) i = 0 := fun i h1 h2 => by
      have h3 := ho.le' (s := t) (t := i) (Nat.zero_le _) h1 (by omega)
      have h4 := Int.emod_nonneg (f (D i) * 1000000) (show H ≠ 0 by omega)
      dsimp only at h3 ⊢
      omega
    have h1 := sm_tail (f := fun s => (f (D s) * 1000000) % H) (t := t) (n - t) hz
    rw [show t + (n - t) = n by omega] at h1
    have h2 := hp.sum (fun i => (f i * 1000000) % H) n (Nat.le_refl _)
    have h3 := left_eq hH hs
    rw [hL] at h3
    have h4 : sm (fun s => (f (D s) * 1000000) % H) t ≤ t * (H - 1) := sm_le t (fun i _ => by have := Int.emod_lt_of_pos (f (D i) * 1000000) (show 0 < H by omega); omega)
    have h5 : (L : Int) * H = sm (fun s => (f (D s) * 1000000) % H) t := by rw [h3, ← h1]; exact h2.symm
    have h6 : ((t : Int) + 1) * H ≤ (L : Int) * H := Int.mul_le_mul_of_nonneg_right (by omega) (by omega)
    have h7 : (t : Int) * (H - 1) = t * H - t := by rw [Int.mul_sub]; omega
    rw [Int.add_mul] at h6
    omega
theorem inc_one {D : Nat → Nat} {n : Nat} (hp : Pm 0 n (fun i => i) D) : ∀ t i, t ≤ n → (incM D t i = 0 ∧ (∀ s, s < t → i ≠ D s)) ∨ (incM D t i = 1 ∧ ∃ s, s < t ∧ i = D s)
  | 0, i, _ => .inl ⟨rfl, fun s hs => by omega⟩
  | t + 1, i, h => by
    rw [incM]
    rcases inc_one hp t i (by omega) with ⟨h1, h2⟩ | ⟨h1, s, h2, h3⟩
    · by_cases e : i = D t
      · exact .inr ⟨by rw [h1, if_pos e]; rfl, t, by omega, e⟩
      · refine .inl ⟨by rw [h1, if_neg e]; rfl, fun s hs => ?_⟩
        by_cases e2 : s = t
        · rw [e2]; exact e
        · exact h2 s (by omega)
    · by_cases e : i = D t
      · have := hp.inj (fun _ _ _ _ _ _ e => e) s t (Nat.zero_le _) (by omega) (Nat.zero_le _) (by omega) (by rw [← h3, e])
        omega
      · exact .inr ⟨by rw [h1, if_neg e]; rfl, s, by omega, h3⟩
theorem sm_ind (k : Nat) : ∀ n, sm (fun i => if i = k then 1 else 0) n = if k < n then 1 else 0
  | 0 => by simp [sm]
  | n + 1 => by
    rw [sm, sm_ind k n]
    by_cases h : n = k
    · subst h; rw [if_neg (Nat.lt_irrefl _), if_pos rfl, if_pos (Nat.lt_succ_self _)]; rfl
    · rw [if_neg h]
      by_cases h2 : k < n
      · rw [if_pos h2, if_pos (by omega)]; rfl
      · rw [if_neg h2, if_neg (by omega)]; rfl
theorem inc_sum {D : Nat → Nat} {n : Nat} (hp : Pm 0 n (fun i => i) D) : ∀ t, t ≤ n → sm (incM D t) n = t
  | 0, _ => by
    have : sm (incM D 0) n = sm (fun _ => 0) n := sm_congr n (fun _ _ => rfl)
    rw [this]
    have h := sm_le (f := fun _ => 0) (B := 0) n (fun _ _ => Int.le_refl _)
    have h2 := sm_nonneg (f := fun _ => 0) n (fun _ _ => Int.le_refl _)
    simp at h ⊢
    omega
  | t + 1, h => by
    have e : sm (incM D (t + 1)) n = sm (fun i => incM D t i + (if i = D t then 1 else 0)) n := rfl
    rw [e, sm_add, inc_sum hp t (by omega), sm_ind]
    obtain ⟨s, _, s2, e2⟩ := hp.mem t (Nat.zero_le _) (by omega)
    rw [e2, if_pos s2]
    omega

theorem incM_eq (D : Nat → Nat) : ∀ t i, incN D t i = incM D t i
  | 0, _ => rfl
  | t + 1, i => by rw [incN, incM, incM_eq D t i]
theorem lfS_eq (f : Nat → Int) (H : Int) : ∀ n, lfS f H n = 1000000 - sm (fun i => f i * 1000000 / H) n
  | 0 => rfl
  | n + 1 => by rw [lfS, sm, lfS_eq f H n]; unfold loS; omega
/-- the ticks of the first partitions together -/
def csU (f : Nat → Nat) : Nat → Nat → Nat
  | 0, _ => 0
  | k + 1, t => csU f k t + Rule.cnt f (k + 1) t
theorem csU_step (f : Nat → Nat) (t : Nat) : ∀ k, csU f k (t + 1) = csU f k t + (if 1 ≤ f t ∧ f t ≤ k then 1 else 0)
  | 0 => by rw [csU, csU, if_neg (by omega)]
  | k + 1 => by
    rw [csU, csU, csU_step f t k]
    have e : Rule.cnt f (k + 1) (t + 1) = Rule.cnt f (k + 1) t + (if f t = k + 1 then 1 else 0) := rfl
    rw [e]
    by_cases h : f t = k + 1
    · rw [if_pos h, if_neg (by omega), if_pos (by omega)]; omega
    · rw [if_neg h]
      by_cases h2 : 1 ≤ f t ∧ f t ≤ k
      · rw [if_pos h2, if_pos (by omega)]; omega
      · rw [if_neg h2, if_neg (by omega)]; omega
theorem csU_le (f : Nat → Nat) (k t : Nat) : ∀ d, csU f k (t + d) ≤ csU f k t + d
  | 0 => Nat.le_refl _
  | d + 1 => by
    have := csU_le f k t d
    rw [← Nat.add_assoc, csU_step]
    split <;> omega
theorem smU_cs (xs : List Srv) (fr be : Nat) : ∀ k, smU xs fr be k = (csU (Rule.occ (sys xs)) k be : Int) - csU (Rule.occ (sys xs)) k fr
  | 0 => by simp [smU, csU]
  | k + 1 => by rw [smU, smU_cs xs fr be k, csU, csU, cqU]; omega
theorem smU_le (xs : List Srv) {fr be : Nat} (h : fr ≤ be) (k : Nat) : smU xs fr be k ≤ (be : Int) - fr := by
  have h1 := csU_le (Rule.occ (sys xs)) k fr (be - fr)
  rw [show fr + (be - fr) = be by omega] at h1
  rw [smU_cs]; omega
theorem us_zero (xs : List Srv) {fr be : Nat} (h : fr ≤ be) : 0 ≤ usF xs fr be 0 ∧ usF xs fr be 0 ≤ (be : Int) - fr := by
  have h1 := smU_le xs h xs.length
  have h2 := (smU_bd xs h xs.length).1
  have e : usF xs fr be 0 = ((be : Int) - fr) - smU xs fr be xs.length := by unfold usF usR; rw [if_pos rfl]
  rw [e]; omega
theorem us_at (xs : List Srv) (fr be : Nat) {i : Nat} (h1 : 1 ≤ i) (h2 : i ≤ xs.length) : usF xs fr be i = cqU xs fr be i := by
  unfold usF usR; rw [if_neg (by omega), if_pos h2]
theorem us_bd (xs : List Srv) {fr be : Nat} (h : fr ≤ be) (i : Nat) (hi : i < xs.length + 1) : 0 ≤ usF xs fr be i ∧ usF xs fr be i ≤ (be : Int) - fr := by
  by_cases h0 : i = 0
  · subst h0; exact us_zero xs h
  · rw [us_at xs fr be (by omega) (by omega)]; exact cqU_bd xs h i
theorem us_sum (xs : List Srv) (fr be : Nat) : ∀ k, k ≤ xs.length → sm (usF xs fr be) (k + 1) = ((be : Int) - fr) - smU xs fr be xs.length + smU xs fr be k
  | 0, _ => by
    rw [sm, sm, smU]
    unfold usF usR; rw [if_pos rfl]; omega
  | k + 1, h => by
    rw [sm, us_sum xs fr be k (by omega), us_at xs fr be (by omega) h, smU]; omega
theorem us_all (xs : List Srv) (fr be : Nat) : sm (usF xs fr be) (xs.length + 1) = (be : Int) - fr := by
  rw [us_sum xs fr be xs.length (Nat.le_refl _)]; omega
end Go.Proofs.YtgpaaoflhffcbaaGreatDoor
