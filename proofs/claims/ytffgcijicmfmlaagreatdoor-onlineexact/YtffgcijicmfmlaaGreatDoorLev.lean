/-
  Parts and levels of a tick. Plain.
-/
import Derived.WalkKit
namespace Go.Proofs.YtffgcijicmfmlaaGreatDoor
set_option linter.unusedVariables false

/-- the part of a tick at a level -/
def pt (t a : Nat) : Nat := t / 64 ^ a % 64
/-- the highest part below k in which two ticks differ; 0: none -/
def lvN : Nat → Nat → Nat → Nat
  | 0, _, _ => 0
  | k + 1, n, t => if pt t k ≠ pt n k then k else lvN k n t
def lv (n t : Nat) : Nat := lvN 7 n t
/-- the least tick of a slot -/
def beg (n l p : Nat) : Nat := (n / 64 ^ (l + 1) * 64 + p) * 64 ^ l

theorem pt_lt (t a : Nat) : pt t a < 64 := Nat.mod_lt _ (by decide)
theorem pw_pos (a : Nat) : 0 < 64 ^ a := Nat.pow_pos (by decide)
theorem div_succ (t a : Nat) : t / 64 ^ (a + 1) = t / 64 ^ a / 64 := by rw [Nat.pow_succ, Nat.div_div_eq_div_mul]
theorem div_pt (t a : Nat) : t / 64 ^ a = t / 64 ^ (a + 1) * 64 + pt t a := by
  rw [div_succ]
  unfold pt
  have := Nat.div_add_mod (t / 64 ^ a) 64
  omega
theorem lvN_lt (n t : Nat) : ∀ k, 0 < k → lvN k n t < k
  | 0, h => absurd h (by decide)
  | k + 1, _ => by
    unfold lvN
    split
    · exact Nat.lt_succ_self _
    · cases k with
      | zero => exact Nat.zero_lt_one
      | succ k => exact Nat.lt_succ_of_lt (lvN_lt n t (k + 1) (by omega))
theorem lv_lt (n t : Nat) : lv n t < 7 := lvN_lt n t 7 (by decide)
/-- above the level all parts are alike -/
theorem lvN_above (n t : Nat) : ∀ k a, lvN k n t < a → a < k → pt t a = pt n a
  | 0, a, h, h2 => absurd h2 (Nat.not_lt_zero _)
  | k + 1, a, h, h2 => by
    unfold lvN at h
    split at h
    · omega
    · rename_i hk
      by_cases ha : a = k
      · subst ha; exact Decidable.byContradiction hk
      · exact lvN_above n t k a h (by omega)
/-- at the level they differ, or it is the lowest -/
theorem lvN_at (n t : Nat) : ∀ k, lvN k n t = 0 ∨ pt t (lvN k n t) ≠ pt n (lvN k n t)
  | 0 => .inl rfl
  | k + 1 => by
    unfold lvN
    split
    · rename_i h; exact .inr h
    · exact lvN_at n t k
theorem lvN_eq (n t : Nat) : ∀ k l, l < k → (∀ a, l < a → a < k → pt t a = pt n a) → (pt t l ≠ pt n l ∨ l = 0) → lvN k n t = l
  | 0, l, h, _, _ => absurd h (Nat.not_lt_zero _)
  | k + 1, l, h, ha, hl => by
    unfold lvN
    by_cases hk : l = k
    · subst hk
      split
      · rfl
      · rename_i hn
        rcases hl with hl | hl
        · exact absurd hl hn
        · subst hl; rfl
    · rw [if_neg (by simp [ha k (by omega) (by omega)])]
      exact lvN_eq n t k l (by omega) (fun a h1 h2 => ha a h1 (by omega)) hl
theorem top_zero {t : Nat} (h : t < 4398046511104) : t / 64 ^ 7 = 0 := Nat.div_eq_of_lt h
/-- all parts from a on are alike: so is what stands above -/
theorem div_of_parts {n t : Nat} (hn : n < 4398046511104) (ht : t < 4398046511104) : ∀ k a, a + k = 7 → (∀ b, a ≤ b → b < 7 → pt t b = pt n b) → t / 64 ^ a = n / 64 ^ a
  | 0, a, h, _ => by
    rw [Nat.add_zero] at h
    subst h
    rw [top_zero ht, top_zero hn]
  | k + 1, a, h, hp => by
    rw [div_pt t a, div_pt n a, div_of_parts hn ht k (a + 1) (by omega) (fun b h1 h2 => hp b (by omega) h2), hp a (Nat.le_refl _) (by omega)]
theorem part_of_div {n t a b : Nat} (h : t / 64 ^ a = n / 64 ^ a) (hab : a ≤ b) : pt t b = pt n b := by
  obtain ⟨c, rfl⟩ : ∃ c, b = a + c := ⟨b - a, by omega⟩
  unfold pt
  rw [Nat.pow_add, ← Nat.div_div_eq_div_mul, ← Nat.div_div_eq_div_mul, h]
theorem div_of_div {n t a b : Nat} (h : t / 64 ^ a = n / 64 ^ a) (hab : a ≤ b) : t / 64 ^ b = n / 64 ^ b := by
  obtain ⟨c, rfl⟩ : ∃ c, b = a + c := ⟨b - a, by omega⟩
  rw [Nat.pow_add, ← Nat.div_div_eq_div_mul, ← Nat.div_div_eq_div_mul, h]

section
variable {n t : Nat} (hn : n < 4398046511104) (ht : t < 4398046511104)
include hn ht
theorem lv_div : t / 64 ^ (lv n t + 1) = n / 64 ^ (lv n t + 1) := by
  have h := lv_lt n t
  exact div_of_parts hn ht (7 - (lv n t + 1)) _ (by omega) (fun b h1 h2 => lvN_above n t 7 b (by unfold lv at h1; omega) h2)
/-- the tick lies in its slot -/
theorem slot_lo : beg n (lv n t) (pt t (lv n t)) ≤ t := by
  unfold beg
  rw [← lv_div hn ht, ← div_pt]
  exact Nat.div_mul_le_self _ _
theorem slot_hi : t < beg n (lv n t) (pt t (lv n t)) + 64 ^ lv n t := by
  unfold beg
  rw [← lv_div hn ht, ← div_pt]
  have := Nat.lt_div_mul_add (a := t) (pw_pos (lv n t))
  exact this
theorem lv_zero_of : lv n t = 0 → t = n / 64 * 64 + pt t 0 := by
  intro h
  have h1 := lv_div hn ht
  rw [h] at h1
  have h2 := div_pt t 0
  rw [h1] at h2
  simp at h2
  simpa using h2
/-- a level above the lowest: the part is greater -/
theorem lv_gt (hle : n ≤ t) (h : 0 < lv n t) : pt n (lv n t) < pt t (lv n t) := by
  have h1 := lv_div hn ht
  have h2 : pt t (lv n t) ≠ pt n (lv n t) := by
    rcases lvN_at n t 7 with h3 | h3
    · exact absurd h3 (by unfold lv at h; omega)
    · exact h3
  have h3 := div_pt t (lv n t)
  have h4 := div_pt n (lv n t)
  have h5 : n / 64 ^ lv n t ≤ t / 64 ^ lv n t := Nat.div_le_div_right hle
  rw [h3, h4, h1] at h5
  omega
end

/-- the slots in their order -/
def ix (l p : Nat) : Nat := 64 * l + p
theorem ix_lt {l p : Nat} (hl : l < 7) (hp : p < 64) : ix l p < 448 := by unfold ix; omega
theorem ix_l {l p : Nat} (hp : p < 64) : ix l p / 64 = l := by unfold ix; omega
theorem ix_p {l p : Nat} (hp : p < 64) : ix l p % 64 = p := by unfold ix; omega
/-- where a timer lies -/
def sl (n t : Nat) : Nat := ix (lv n t) (pt t (lv n t))
theorem sl_lt (n t : Nat) : sl n t < 448 := ix_lt (lv_lt n t) (pt_lt _ _)
/-- the least tick of the slot of a number -/
def bg (n i : Nat) : Nat := beg n (i / 64) (i % 64)
theorem bg_sl (n t : Nat) : bg n (sl n t) = beg n (lv n t) (pt t (lv n t)) := by
  unfold bg sl
  rw [ix_l (pt_lt _ _), ix_p (pt_lt _ _)]

/-- the slots' order is the ticks' -/
theorem sl_cases {n s t : Nat} (h : sl n s < sl n t) : lv n s < lv n t ∨ lv n s = lv n t ∧ pt s (lv n s) < pt t (lv n t) := by
  unfold sl ix at h
  have p1 := pt_lt s (lv n s)
  have p2 := pt_lt t (lv n t)
  omega
theorem sl_eq {n s t : Nat} (h : sl n s = sl n t) : lv n s = lv n t ∧ pt s (lv n s) = pt t (lv n t) := by
  unfold sl ix at h
  have p1 := pt_lt s (lv n s)
  have p2 := pt_lt t (lv n t)
  omega
/-- a later slot begins behind an earlier one's timers -/
theorem slot_order {n s t : Nat} (hn : n < 4398046511104) (hs : s < 4398046511104) (ht : t < 4398046511104) (hns : n ≤ s) (hnt : n ≤ t) (h : sl n s < sl n t) : s < bg n (sl n t) := by
  rw [bg_sl]
  have d1 := lv_div hn hs
  have d2 := lv_div hn ht
  unfold beg
  rw [← d2, ← div_pt]
  refine (Nat.div_lt_iff_lt_mul (pw_pos _)).1 ?_
  rcases sl_cases h with h | ⟨h, hp⟩
  · have e1 := div_of_div d1 (Nat.succ_le_of_lt h)
    have e2 := lv_gt hn ht hnt (by omega)
    rw [e1, div_pt n (lv n t), div_pt t (lv n t), d2]
    omega
  · have e1 := div_pt s (lv n s)
    have e2 := div_pt t (lv n t)
    rw [d1, h] at e1
    rw [d2] at e2
    rw [h] at hp
    omega
theorem slot_order_lt {n s t : Nat} (hn : n < 4398046511104) (hs : s < 4398046511104) (ht : t < 4398046511104) (hns : n ≤ s) (hnt : n ≤ t) (h : sl n s < sl n t) : s < t :=
  Nat.lt_of_lt_of_le (slot_order hn hs ht hns hnt h) (by rw [bg_sl]; exact slot_lo hn ht)

theorem bg_div (n s : Nat) : bg n (sl n s) / 64 ^ lv n s = n / 64 ^ (lv n s + 1) * 64 + pt s (lv n s) := by
  rw [bg_sl]
  unfold beg
  exact Nat.mul_div_cancel _ (pw_pos _)
theorem bg_div1 (n s : Nat) : bg n (sl n s) / 64 ^ (lv n s + 1) = n / 64 ^ (lv n s + 1) := by
  rw [div_succ (bg n (sl n s)), bg_div]
  have := pt_lt s (lv n s)
  omega
theorem bg_pt (n s : Nat) : pt (bg n (sl n s)) (lv n s) = pt s (lv n s) := by
  have h := bg_div n s
  have h1 := div_pt (bg n (sl n s)) (lv n s)
  rw [bg_div1] at h1
  omega
theorem bg_le {n s : Nat} (hn : n < 4398046511104) (hs : s < 4398046511104) : bg n (sl n s) ≤ s := by rw [bg_sl]; exact slot_lo hn hs
theorem bg_zero {n s : Nat} (hn : n < 4398046511104) (hs : s < 4398046511104) (h : lv n s = 0) : bg n (sl n s) = s := by
  have h1 := bg_le hn hs
  have h2 := slot_hi hn hs
  rw [← bg_sl, h] at h2
  simp at h2
  omega
theorem bg_gt {n s : Nat} (hn : n < 4398046511104) (hs : s < 4398046511104) (hns : n ≤ s) (h : 0 < lv n s) : n < bg n (sl n s) := by
  have h1 := bg_div n s
  have h2 := div_pt n (lv n s)
  have h3 := lv_gt hn hs hns h
  apply Nat.lt_of_not_le
  intro hle
  have h4 : bg n (sl n s) / 64 ^ lv n s ≤ n / 64 ^ lv n s := Nat.div_le_div_right hle
  omega
theorem bg_ge {n s : Nat} (hn : n < 4398046511104) (hs : s < 4398046511104) (hns : n ≤ s) : n ≤ bg n (sl n s) := by
  by_cases h : lv n s = 0
  · rw [bg_zero hn hs h]; exact hns
  · exact Nat.le_of_lt (bg_gt hn hs hns (by omega))

/-- what lies in a later slot lies there still when the wheel has come to the first one -/
theorem lv_next {n s t : Nat} (h : sl n s < sl n t) : lv (bg n (sl n s)) t = lv n t := by
  have e := bg_div1 n s
  have hl := lv_lt n t
  rcases sl_cases h with h1 | ⟨h1, hp⟩
  · refine lvN_eq _ _ 7 (lv n t) hl (fun a h2 h3 => ?_) (.inl ?_)
    · rw [lvN_above n t 7 a h2 h3]
      exact (part_of_div e (by omega)).symm
    · rw [part_of_div e (by omega : lv n s + 1 ≤ lv n t)]
      rcases lvN_at n t 7 with h3 | h3
      · exact absurd h3 (by unfold lv at h1; omega)
      · exact h3
  · refine lvN_eq _ _ 7 (lv n t) hl (fun a h2 h3 => ?_) (.inl ?_)
    · rw [lvN_above n t 7 a h2 h3]
      exact (part_of_div e (by omega)).symm
    · have := bg_pt n s
      rw [← h1]
      rw [← h1] at hp
      omega
theorem sl_next {n s t : Nat} (h : sl n s < sl n t) : sl (bg n (sl n s)) t = sl n t := by
  unfold sl
  rw [show lv (bg n (ix (lv n s) (pt s (lv n s)))) t = lv n t from lv_next h]
/-- what lay in the first slot goes down -/
theorem lv_down {n s t : Nat} (hn : n < 4398046511104) (ht : t < 4398046511104) (h : sl n t = sl n s) (h0 : 0 < lv n s) : lv (bg n (sl n s)) t < lv n s := by
  obtain ⟨h1, h2⟩ := sl_eq h
  have d := lv_div hn ht
  have e : t / 64 ^ lv n s = bg n (sl n s) / 64 ^ lv n s := by
    rw [bg_div]
    rw [h1] at d h2
    rw [div_pt t (lv n s), d, h2]
  apply Nat.lt_of_not_le
  intro hle
  rcases lvN_at (bg n (sl n s)) t 7 with h3 | h3
  · unfold lv at hle h0; omega
  · exact h3 (part_of_div e hle)
/-- the wheel goes on to a tick ahead of all slots: they stay -/
theorem lv_stay {n s t to : Nat} (hle : n ≤ to) (hto : to < bg n (sl n s)) (h : sl n s ≤ sl n t) : lv to t = lv n t := by
  have hl := lv_lt n t
  have hd : to / 64 ^ lv n s < n / 64 ^ (lv n s + 1) * 64 + pt s (lv n s) := by
    rw [bg_sl] at hto
    unfold beg at hto
    exact (Nat.div_lt_iff_lt_mul (pw_pos _)).2 hto
  have hp := pt_lt s (lv n s)
  have h1 : n / 64 ^ (lv n s + 1) ≤ to / 64 ^ (lv n s + 1) := Nat.div_le_div_right hle
  have h2 := div_pt to (lv n s)
  have e : to / 64 ^ (lv n s + 1) = n / 64 ^ (lv n s + 1) := by omega
  have hpt : pt to (lv n s) < pt s (lv n s) := by omega
  have hc : lv n s < lv n t ∨ lv n s = lv n t ∧ pt s (lv n s) ≤ pt t (lv n t) := by
    unfold sl ix at h
    have p2 := pt_lt t (lv n t)
    omega
  rcases hc with h3 | ⟨h3, hp3⟩
  · refine lvN_eq _ _ 7 (lv n t) hl (fun a h4 h5 => ?_) (.inl ?_)
    · rw [lvN_above n t 7 a h4 h5]
      exact (part_of_div e (by omega)).symm
    · rw [part_of_div e (by omega : lv n s + 1 ≤ lv n t)]
      rcases lvN_at n t 7 with h4 | h4
      · exact absurd h4 (by unfold lv at h3; omega)
      · exact h4
  · refine lvN_eq _ _ 7 (lv n t) hl (fun a h4 h5 => ?_) (.inl ?_)
    · rw [lvN_above n t 7 a h4 h5]
      exact (part_of_div e (by omega)).symm
    · rw [← h3]
      rw [← h3] at hp3
      omega
theorem sl_stay {n s t to : Nat} (hle : n ≤ to) (hto : to < bg n (sl n s)) (h : sl n s ≤ sl n t) : sl to t = sl n t := by
  unfold sl
  rw [show lv to t = lv n t from lv_stay hle hto h]
/-- where the wheel stands: level 0 -/
theorem sl_self (n : Nat) : sl n n = pt n 0 := by
  have : lv n n = 0 := lvN_eq n n 7 0 (by decide) (fun _ _ _ => rfl) (.inr rfl)
  unfold sl ix
  rw [this]
  omega

end Go.Proofs.YtffgcijicmfmlaaGreatDoor
