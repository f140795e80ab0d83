/-
  How many of the ticks below t are those of a span of the first two hyperperiods, or what comes again of it (plain: no dump).
-/
import Derived.Test.YthdmbikmjimmkaaGreatDoorGG
namespace Go.Proofs.YthdmbikmjimmkaaGreatDoor
namespace Rule
set_option linter.unusedVariables false

/-- the ticks that two spans have in common -/
def com (a b c d : Nat) : Nat := min b d - max a c
def comes (H t a b : Nat) : Nat := if t ≤ H then com a b 0 t else com a b 0 H + (t - H) / H * com a b H (2 * H) + com a b H (H + t % H)

theorem cnt_const (f : Nat → Nat) (p p' x m : Nat) (h : ∀ u, x ≤ u → u < x + m → f u = p') : cnt f p (x + m) = cnt f p x + (if p' = p then m else 0) := by
  induction m with
  | zero => split <;> rfl
  | succ m ih =>
    have := ih (fun u a b => h u a (by omega))
    show cnt f p (x + m) + (if f (x + m) = p then 1 else 0) = _
    rw [this, h (x + m) (by omega) (by omega)]
    split <;> omega
/-- of the ticks below q, those of p from c on and below d -/
def cin (f : Nat → Nat) (p c d q : Nat) : Nat := cnt f p (max c (min q d)) - cnt f p c
theorem cin_step (f : Nat → Nat) (p p' c d q len : Nat) (hcd : c ≤ d) (h : ∀ u, q ≤ u → u < q + len → f u = p') : cin f p c d (q + len) = cin f p c d q + (if p' = p then com q (q + len) c d else 0) := by
  unfold cin com
  obtain ⟨x, hx⟩ : ∃ x, x = max c (min q d) := ⟨_, rfl⟩
  obtain ⟨y, hy⟩ : ∃ y, y = max c (min (q + len) d) := ⟨_, rfl⟩
  rw [← hx, ← hy]
  have hxy : x ≤ y := by omega
  have hcx : c ≤ x := by omega
  have e : min (q + len) d - max q c = y - x := by omega
  rw [e]
  have hc := cnt_const f p p' x (y - x) (fun u a b => h u (by omega) (by omega))
  rw [show x + (y - x) = y by omega] at hc
  have hm := cnt_mono f p hcx
  rw [hc]
  split <;> omega
/-- of the ticks below q, how often they come below t as p's -/
def acc (f : Nat → Nat) (p H t q : Nat) : Nat := if t ≤ H then cin f p 0 t q else cin f p 0 H q + (t - H) / H * cin f p H (2 * H) q + cin f p H (H + t % H) q
theorem acc_zero (f : Nat → Nat) (p H t : Nat) : acc f p H t 0 = 0 := by
  have z : ∀ c d, c ≤ d → cin f p c d 0 = 0 := fun c d h => by unfold cin; rw [show max c (min 0 d) = c by omega]; omega
  unfold acc
  split
  · exact z _ _ (by omega)
  · rw [z _ _ (by omega), z _ _ (by omega), z _ _ (by omega)]; simp
theorem acc_step (f : Nat → Nat) (p p' H t q len : Nat) (h : ∀ u, q ≤ u → u < q + len → f u = p') : acc f p H t (q + len) = acc f p H t q + (if p' = p then comes H t q (q + len) else 0) := by
  unfold acc comes
  by_cases ht : t ≤ H
  · rw [if_pos ht, if_pos ht, if_pos ht, cin_step f p p' 0 t q len (by omega) h]
  · rw [if_neg ht, if_neg ht, if_neg ht, cin_step f p p' 0 H q len (by omega) h, cin_step f p p' H (2 * H) q len (by omega) h, cin_step f p p' H (H + t % H) q len (by omega) h]
    by_cases e : p' = p
    · simp only [e, if_true]
      rw [Nat.mul_add]
      omega
    · simp only [e, if_false, Nat.add_zero]
/-- all told: how many ticks below t are p's -/
theorem acc_all {f : Nat → Nat} {H : Nat} (hH : 1 ≤ H) (hf : ∀ t, H ≤ t → f (t + H) = f t) (p t m : Nat) (hm : m = 2 * H ∨ (t ≤ m ∧ m ≤ 2 * H)) : acc f p H t m = cnt f p t := by
  unfold acc cin
  by_cases ht : t ≤ H
  · rw [if_pos ht, show max 0 (min m t) = t by omega]
    show cnt f p t - 0 = _
    omega
  · rw [if_neg ht]
    have h0 : cnt f p 0 = 0 := rfl
    have h1 := Nat.div_add_mod (t - H) H
    have h2 := Nat.mod_lt (t - H) (show H > 0 by omega)
    have h3 : t % H = (t - H) % H := by rw [Nat.mod_eq_sub_mod (by omega)]
    rw [show max 0 (min m H) = H by omega, h0]
    have hle := cnt_mono f p (show H ≤ H + H by omega)
    rcases hm with hm | ⟨hm, hm2⟩
    · rw [show max H (min m (2 * H)) = H + H by omega, show max H (min m (H + t % H)) = H + t % H by omega, h3]
      have hle2 := cnt_mono f p (show H ≤ H + (t - H) % H by omega)
      have h4 := cnt_turns hf p ((t - H) % H) ((t - H) / H)
      rw [show H + (t - H) % H + (t - H) / H * H = t by rw [Nat.mul_comm]; omega] at h4
      rw [Nat.mul_sub]
      have h5 := Nat.mul_le_mul_left ((t - H) / H) hle
      omega
    · by_cases e2 : t = 2 * H
      · have hm3 : m = 2 * H := by omega
        rw [show max H (min m (2 * H)) = H + H by omega, show max H (min m (H + t % H)) = H + t % H by omega, h3]
        have hle2 := cnt_mono f p (show H ≤ H + (t - H) % H by omega)
        have h4 := cnt_turns hf p ((t - H) % H) ((t - H) / H)
        rw [show H + (t - H) % H + (t - H) / H * H = t by rw [Nat.mul_comm]; omega] at h4
        rw [Nat.mul_sub]
        have h5 := Nat.mul_le_mul_left ((t - H) / H) hle
        omega
      · have hq : (t - H) / H = 0 := Nat.div_eq_of_lt (by omega)
        have hr : (t - H) % H = t - H := Nat.mod_eq_of_lt (by omega)
        rw [hq, h3, hr, show max H (min m (H + (t - H))) = t by omega]
        have := cnt_mono f p (show H ≤ t by omega)
        omega
theorem comes_le (H t a b : Nat) (hH : 1 ≤ H) (hab : b ≤ 2 * H) : comes H t a b ≤ 3 * t + 3 * H := by
  unfold comes com
  split
  · omega
  · rename_i h
    have h1 : (t - H) / H * (min b (2 * H) - max a H) ≤ (t - H) / H * H := Nat.mul_le_mul_left _ (by omega)
    have h2 := Nat.div_mul_le_self (t - H) H
    have h3 := Nat.mod_lt t (show H > 0 by omega)
    omega
theorem cin_le (f : Nat → Nat) (p c d q : Nat) (h : c ≤ d) : cin f p c d q ≤ d - c := by
  unfold cin
  have := cnt_diff f p (show c ≤ max c (min q d) by omega)
  omega
theorem acc_le (f : Nat → Nat) (p H t q : Nat) (hH : 1 ≤ H) : acc f p H t q ≤ 3 * t + 3 * H := by
  unfold acc
  split
  · have := cin_le f p 0 t q (by omega); omega
  · rename_i h
    have h0 := cin_le f p 0 H q (by omega)
    have h1 : (t - H) / H * cin f p H (2 * H) q ≤ (t - H) / H * H := Nat.mul_le_mul_left _ (by have := cin_le f p H (2 * H) q (by omega); omega)
    have h2 := Nat.div_mul_le_self (t - H) H
    have h3 := cin_le f p H (H + t % H) q (by omega)
    have h4 := Nat.mod_lt t (show H > 0 by omega)
    omega
end Rule
end Go.Proofs.YthdmbikmjimmkaaGreatDoor
