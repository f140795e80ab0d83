/-
  One text: OMath, OPlay, OData.
-/
import Derived.Test.YtnmhcnppdhdhfaaGreatDoorG00
import Derived.Test.YtnmhcnppdhdhfaaGreatDoorG06
namespace Go.Proofs.YtnmhcnppdhdhfaaGreatDoor
namespace Rule
set_option linter.unusedVariables false

structure Sys where
  n : Nat
  P : Nat → Nat
  B : Nat → Nat
  O : Nat → Nat
  pr : Nat → Int

def rel (s : Sys) (i t : Nat) : Prop := s.O i ≤ t ∧ (t - s.O i) % s.P i = 0
instance (s : Sys) (i t : Nat) : Decidable (rel s i t) := by unfold rel; exact inferInstance

/-- who has, of the first k, the greatest priority of those with something left (0: nobody) -/
def pick (s : Sys) (r : Nat → Nat) : Nat → Nat
  | 0 => 0
  | k + 1 => if 0 < r k ∧ (pick s r k = 0 ∨ s.pr (pick s r k - 1) < s.pr k) then k + 1 else pick s r k

theorem pick_le (s : Sys) (r : Nat → Nat) (k : Nat) : pick s r k ≤ k := by
  induction k with
  | zero => exact Nat.le_refl _
  | succ k ih => unfold pick; split <;> omega
theorem pick_zero (s : Sys) (r : Nat → Nat) (k : Nat) (h : pick s r k = 0) : ∀ j, j < k → r j = 0 := by
  induction k with
  | zero => intro j hj; omega
  | succ k ih =>
    unfold pick at h
    split at h
    · cases h
    · rename_i hn
      intro j hj
      by_cases e : j = k
      · subst e
        apply Decidable.byContradiction
        intro h0
        exact hn ⟨by omega, .inl h⟩
      · exact ih h j (by omega)
theorem pick_pos (s : Sys) (r : Nat → Nat) (k : Nat) (h : pick s r k ≠ 0) : 0 < r (pick s r k - 1) ∧ ∀ j, j < k → 0 < r j → s.pr j ≤ s.pr (pick s r k - 1) := by
  induction k with
  | zero => exact (h rfl).elim
  | succ k ih =>
    unfold pick at h ⊢
    split
    · rename_i hc
      simp only [Nat.add_sub_cancel]
      refine ⟨hc.1, fun j hj h0 => ?_⟩
      by_cases e : j = k
      · subst e; exact Int.le_refl _
      · by_cases hz : pick s r k = 0
        · have := pick_zero s r k hz j (by omega); omega
        · have := (ih hz).2 j (by omega) h0
          rcases hc.2 with h1 | h1
          · exact (hz h1).elim
          · omega
    · rename_i hc
      rw [if_neg hc] at h
      obtain ⟨h1, h2⟩ := ih h
      refine ⟨h1, fun j hj h0 => ?_⟩
      by_cases e : j = k
      · subst e
        apply Decidable.byContradiction
        intro hlt
        exact hc ⟨h0, .inr (by omega)⟩
      · exact h2 j (by omega) h0

def chosen (s : Sys) (r : Nat → Nat) : Nat := pick s r s.n

/-- what is left of each budget at a tick, behind its releases, ahead of what the tick takes -/
def rest (s : Sys) : Nat → Nat → Nat
  | 0 => fun i => if rel s i 0 then s.B i else 0
  | t + 1 => fun i => if rel s i (t + 1) then s.B i else rest s t i - (if chosen s (rest s t) = i + 1 then 1 else 0)
def occ (s : Sys) (t : Nat) : Nat := chosen s (rest s t)

structure Ok (s : Sys) : Prop where
  per : ∀ i, i < s.n → 0 < s.P i
  off : ∀ i, i < s.n → s.O i < s.P i
  inj : ∀ i j, i < s.n → j < s.n → s.pr i = s.pr j → i = j

theorem occ_le (s : Sys) (t : Nat) : occ s t ≤ s.n := pick_le _ _ _
theorem occ_zero {s : Sys} {t : Nat} : occ s t = 0 ↔ ∀ j, j < s.n → rest s t j = 0 := by
  constructor
  · exact pick_zero s _ _
  · intro h
    apply Decidable.byContradiction
    intro hn
    have h1 := (pick_pos s _ _ hn).1
    have h2 := pick_le s (rest s t) s.n
    have hn' : pick s (rest s t) s.n ≠ 0 := hn
    have := h (pick s (rest s t) s.n - 1) (by omega)
    omega
theorem occ_iff {s : Sys} (hs : Ok s) {t i : Nat} (hi : i < s.n) : occ s t = i + 1 ↔ 0 < rest s t i ∧ ∀ j, j < s.n → s.pr i < s.pr j → rest s t j = 0 := by
  constructor
  · intro h
    have h1 := pick_pos s (rest s t) s.n (by show occ s t ≠ 0; omega)
    have e : pick s (rest s t) s.n = i + 1 := h
    rw [e, Nat.add_sub_cancel] at h1
    refine ⟨h1.1, fun j hj hlt => ?_⟩
    apply Decidable.byContradiction
    intro h0
    have := h1.2 j hj (by omega)
    omega
  · rintro ⟨h1, h2⟩
    by_cases hz : occ s t = 0
    · have := occ_zero.1 hz i hi; omega
    · have h3 := pick_pos s (rest s t) s.n hz
      have h4 := pick_le s (rest s t) s.n
      have hz' : pick s (rest s t) s.n ≠ 0 := hz
      have h5 := h3.2 i hi h1
      have h6 : ¬ s.pr i < s.pr (pick s (rest s t) s.n - 1) := fun hlt => by
        have := h2 _ (by omega) hlt
        omega
      have := hs.inj i (pick s (rest s t) s.n - 1) hi (by omega) (by omega)
      show pick s (rest s t) s.n = i + 1
      omega

theorem rest_succ (s : Sys) (t i : Nat) : rest s (t + 1) i = if rel s i (t + 1) then s.B i else rest s t i - (if occ s t = i + 1 then 1 else 0) := rfl
theorem rest_rel {s : Sys} {t i : Nat} (h : rel s i t) : rest s t i = s.B i := by
  cases t with
  | zero => show (if rel s i 0 then s.B i else 0) = s.B i; rw [if_pos h]
  | succ t => rw [rest_succ, if_pos h]
theorem rest_le (s : Sys) (t i : Nat) : rest s t i ≤ s.B i := by
  induction t with
  | zero => show (if rel s i 0 then s.B i else 0) ≤ s.B i; split <;> omega
  | succ t ih => rw [rest_succ]; split <;> omega

theorem rel_add {s : Sys} {i t H : Nat} (hH : s.P i ∣ H) (h : rel s i t) : rel s i (t + H) := by
  obtain ⟨h1, h2⟩ := h
  refine ⟨by omega, ?_⟩
  have : t + H - s.O i = (t - s.O i) + H := by omega
  rw [this, Nat.add_mod, h2, Nat.mod_eq_zero_of_dvd hH]
  simp
theorem rel_sub {s : Sys} (hs : Ok s) {i t H : Nat} (hi : i < s.n) (hH : s.P i ∣ H) (h : rel s i (t + H)) : rel s i t := by
  obtain ⟨h1, h2⟩ := h
  have hp := hs.per i hi
  have ho := hs.off i hi
  have hd : s.P i ∣ t + H - s.O i := Nat.dvd_of_mod_eq_zero h2
  by_cases hlt : t < s.O i
  · exfalso
    obtain ⟨q, hq⟩ := hH
    obtain ⟨q', hq'⟩ := hd
    have e : s.P i * q = s.P i * q' + (s.O i - t) := by omega
    have : s.P i ∣ s.O i - t := ⟨q - q', by rw [Nat.mul_sub]; omega⟩
    have := Nat.le_of_dvd (by omega) this
    omega
  · refine ⟨by omega, ?_⟩
    have e : t + H - s.O i = (t - s.O i) + H := by omega
    rw [e] at hd
    exact Nat.mod_eq_zero_of_dvd ((Nat.dvd_add_iff_left hH).2 hd)

/-- what is left is not less a hyperperiod later -/
theorem mono {s : Sys} (hs : Ok s) {H : Nat} (hH : ∀ i, i < s.n → s.P i ∣ H) (t : Nat) : ∀ i, i < s.n → rest s t i ≤ rest s (t + H) i := by
  induction t with
  | zero =>
    intro i hi
    by_cases h : rel s i 0
    · rw [rest_rel h, rest_rel (rel_add (hH i hi) h)]; exact Nat.le_refl _
    · have : rest s 0 i = 0 := by show (if rel s i 0 then s.B i else 0) = 0; rw [if_neg h]
      omega
  | succ t ih =>
    intro i hi
    by_cases h : rel s i (t + 1 + H)
    · rw [rest_rel h]; exact rest_le _ _ _
    · have h' : ¬ rel s i (t + 1) := fun hr => h (rel_add (hH i hi) hr)
      have e : t + 1 + H = (t + H) + 1 := by omega
      have h2 : ¬ rel s i (t + H + 1) := fun hr => h (by rw [e]; exact hr)
      rw [rest_succ, if_neg h', e, rest_succ, if_neg h2]
      have h0 := ih i hi
      by_cases hl : occ s (t + H) = i + 1
      · by_cases he : occ s t = i + 1
        · rw [if_pos hl, if_pos he]; omega
        · rw [if_pos hl, if_neg he]
          have hz : rest s t i = 0 := by
            apply Decidable.byContradiction
            intro hn
            apply he
            refine (occ_iff hs hi).2 ⟨by omega, fun j hj hlt => ?_⟩
            have := ((occ_iff hs hi).1 hl).2 j hj hlt
            have := ih j hj
            omega
          omega
      · rw [if_neg hl]; split <;> omega

/-- servers of whom nobody below has to be asked: once they have nothing left at a tick from H on, all goes for them as a hyperperiod ahead -/
theorem back {s : Sys} (hs : Ok s) {H : Nat} (hH : ∀ i, i < s.n → s.P i ∣ H) (S : Nat → Prop) (hS : ∀ i j, i < s.n → j < s.n → S i → s.pr i < s.pr j → S j) (t : Nat)
    (h0 : ∀ i, i < s.n → S i → rest s (t + H) i = 0) (k : Nat) : ∀ i, i < s.n → S i → rest s (t + H + k) i = rest s (t + k) i := by
  induction k with
  | zero =>
    intro i hi hSi
    have h1 := h0 i hi hSi
    have h2 := mono hs hH t i hi
    simp only [Nat.add_zero]
    omega
  | succ k ih =>
    intro i hi hSi
    have e1 : t + H + (k + 1) = (t + H + k) + 1 := by omega
    have e2 : t + (k + 1) = (t + k) + 1 := by omega
    rw [e1, e2, rest_succ, rest_succ]
    have er : rel s i (t + H + k + 1) ↔ rel s i (t + k + 1) := by
      have e3 : t + H + k + 1 = (t + k + 1) + H := by omega
      rw [e3]
      exact ⟨rel_sub hs hi (hH i hi), rel_add (hH i hi)⟩
    have eo : occ s (t + H + k) = i + 1 ↔ occ s (t + k) = i + 1 := by
      rw [occ_iff hs hi, occ_iff hs hi, ih i hi hSi]
      constructor
      · rintro ⟨a, b⟩
        exact ⟨a, fun j hj hlt => by rw [← ih j hj (hS i j hi hj hSi hlt)]; exact b j hj hlt⟩
      · rintro ⟨a, b⟩
        exact ⟨a, fun j hj hlt => by rw [ih j hj (hS i j hi hj hSi hlt)]; exact b j hj hlt⟩
    rw [ih i hi hSi]
    by_cases h1 : rel s i (t + k + 1)
    · rw [if_pos h1, if_pos (er.2 h1)]
    · rw [if_neg h1, if_neg (fun h => h1 (er.1 h))]
      by_cases h2 : occ s (t + k) = i + 1
      · rw [if_pos h2, if_pos (eo.2 h2)]
      · rw [if_neg h2, if_neg (fun h => h2 (eo.1 h))]

theorem zeros {s : Sys} (hs : Ok s) {H : Nat} (hH : ∀ i, i < s.n → s.P i ∣ H) (S : Nat → Prop) (hS : ∀ i j, i < s.n → j < s.n → S i → s.pr i < s.pr j → S j) (t : Nat) (ht : H ≤ t) :
    (∀ i, i < s.n → S i → rest s t i = 0) ↔ (∀ i, i < s.n → S i → rest s (t + H) i = 0) := by
  obtain ⟨u, rfl⟩ : ∃ u, t = u + H := ⟨t - H, by omega⟩
  constructor
  · intro h i hi hSi
    rw [back hs hH S hS u h H i hi hSi]
    exact h i hi hSi
  · intro h i hi hSi
    have := h i hi hSi
    have := mono hs hH (u + H) i hi
    omega

/-- from H on the occupants come again with H -/
theorem again {s : Sys} (hs : Ok s) {H : Nat} (hH : ∀ i, i < s.n → s.P i ∣ H) (t : Nat) (ht : H ≤ t) : occ s (t + H) = occ s t := by
  by_cases hz : occ s (t + H) = 0
  · have h1 := occ_zero.1 hz
    rw [hz]
    exact (occ_zero.2 (fun j hj => (zeros hs hH (fun _ => True) (fun _ _ _ _ _ _ => trivial) t ht).2 (fun i hi _ => h1 i hi) j hj trivial)).symm
  · obtain ⟨i, hi⟩ : ∃ i, occ s (t + H) = i + 1 := ⟨occ s (t + H) - 1, by omega⟩
    have hin : i < s.n := by have := occ_le s (t + H); omega
    rw [hi]
    obtain ⟨h1, h2⟩ := (occ_iff hs hin).1 hi
    symm
    refine (occ_iff hs hin).2 ⟨?_, fun j hj hlt => (zeros hs hH (fun j => s.pr i < s.pr j) (fun a b _ _ h h' => by omega) t ht).2 h2 j hj hlt⟩
    apply Decidable.byContradiction
    intro hn
    have := (zeros hs hH (fun j => s.pr i ≤ s.pr j) (fun a b _ _ h h' => by omega) t ht).1 (fun j hj hle => by
      by_cases e : j = i
      · subst e; omega
      · have : s.pr i < s.pr j := by
          apply Decidable.byContradiction
          intro h'
          exact e (hs.inj j i hj hin (by omega))
        exact (zeros hs hH (fun j => s.pr i < s.pr j) (fun a b _ _ h h' => by omega) t ht).2 h2 j hj this) i hin (Int.le_refl _)
    omega

/-- the tick below 2 H that has the occupant of t -/
def fold (H t : Nat) : Nat := if t < H then t else H + t % H
theorem again_mul {s : Sys} (hs : Ok s) {H : Nat} (hH : ∀ i, i < s.n → s.P i ∣ H) (t : Nat) (ht : H ≤ t) (k : Nat) : occ s (t + k * H) = occ s t := by
  induction k with
  | zero => simp
  | succ k ih =>
    have e : t + (k + 1) * H = (t + k * H) + H := by rw [Nat.succ_mul]; omega
    rw [e, again hs hH _ (by omega), ih]
theorem occ_fold {s : Sys} (hs : Ok s) {H : Nat} (h1 : 0 < H) (hH : ∀ i, i < s.n → s.P i ∣ H) (t : Nat) : occ s t = occ s (fold H t) := by
  unfold fold
  split
  · rfl
  · rename_i h
    have hm := Nat.mod_add_div t H
    have hq : 1 ≤ t / H := (Nat.le_div_iff_mul_le h1).2 (by omega)
    have e : t = (H + t % H) + (t / H - 1) * H := by
      rw [Nat.sub_mul, Nat.mul_comm (t / H) H]
      have : H ≤ H * (t / H) := Nat.le_mul_of_pos_right H (by omega)
      omega
    have := again_mul hs hH (H + t % H) (by omega) (t / H - 1)
    rw [← e] at this
    exact this

/-! ### Counts -/
/-- how many ticks below t are p's -/
def cnt (f : Nat → Nat) (p : Nat) : Nat → Nat
  | 0 => 0
  | t + 1 => cnt f p t + if f t = p then 1 else 0
theorem cnt_le (f : Nat → Nat) (p t : Nat) : cnt f p t ≤ t := by
  induction t with
  | zero => exact Nat.le_refl _
  | succ t ih => show cnt f p t + (if f t = p then 1 else 0) ≤ t + 1; split <;> omega
theorem cnt_mono (f : Nat → Nat) (p : Nat) {a b : Nat} (h : a ≤ b) : cnt f p a ≤ cnt f p b := by
  induction b with
  | zero => have : a = 0 := by omega
            subst this; exact Nat.le_refl _
  | succ b ih =>
    by_cases e : a = b + 1
    · subst e; exact Nat.le_refl _
    · have := ih (by omega)
      show cnt f p a ≤ cnt f p b + (if f b = p then 1 else 0)
      omega
theorem cnt_diff (f : Nat → Nat) (p : Nat) {a b : Nat} (h : a ≤ b) : cnt f p b ≤ cnt f p a + (b - a) := by
  induction b with
  | zero => have : a = 0 := by omega
            subst this; omega
  | succ b ih =>
    by_cases e : a = b + 1
    · subst e; omega
    · have := ih (by omega)
      show cnt f p b + (if f b = p then 1 else 0) ≤ _
      split <;> omega
/-- from H on counts grow by the same -/
theorem cnt_again {f : Nat → Nat} {H : Nat} (hf : ∀ t, H ≤ t → f (t + H) = f t) (p t : Nat) (ht : H ≤ t) : cnt f p (t + H) + cnt f p H = cnt f p t + cnt f p (H + H) := by
  obtain ⟨k, rfl⟩ : ∃ k, t = H + k := ⟨t - H, by omega⟩
  clear ht
  induction k with
  | zero => simp only [Nat.add_zero]; omega
  | succ k ih =>
    have e : H + (k + 1) + H = (H + k + H) + 1 := by omega
    rw [e]
    show cnt f p (H + k + H) + (if f (H + k + H) = p then 1 else 0) + cnt f p H = cnt f p (H + k) + (if f (H + k) = p then 1 else 0) + cnt f p (H + H)
    rw [hf (H + k) (by omega)]
    omega
theorem cnt_turns {f : Nat → Nat} {H : Nat} (hf : ∀ t, H ≤ t → f (t + H) = f t) (p r k : Nat) : cnt f p (H + r + k * H) + k * cnt f p H = cnt f p (H + r) + k * cnt f p (H + H) := by
  induction k with
  | zero => simp
  | succ k ih =>
    have e : H + r + (k + 1) * H = (H + r + k * H) + H := by rw [Nat.succ_mul]; omega
    have h1 := cnt_again hf p (H + r + k * H) (by omega)
    rw [e, Nat.succ_mul, Nat.succ_mul]
    omega

/-- the last release at or ahead of t -/
def last (s : Sys) (i t : Nat) : Nat := t - (t - s.O i) % s.P i
theorem rest_early {s : Sys} {i : Nat} (t : Nat) (h : t < s.O i) : rest s t i = 0 := by
  induction t with
  | zero => show (if rel s i 0 then s.B i else 0) = 0; rw [if_neg (fun hr => by have := hr.1; omega)]
  | succ t ih => rw [rest_succ, if_neg (fun hr => by have := hr.1; omega), ih (by omega)]; split <;> rfl
theorem rest_cnt {s : Sys} (hs : Ok s) {i : Nat} (hi : i < s.n) (t : Nat) (h : s.O i ≤ t) : rest s t i + cnt (occ s) (i + 1) t = s.B i + cnt (occ s) (i + 1) (last s i t) := by
  have hp := hs.per i hi
  induction t with
  | zero =>
    have h1 : rel s i 0 := ⟨h, by simp⟩
    rw [rest_rel h1]
    have : last s i 0 = 0 := by unfold last; omega
    rw [this]
  | succ t ih =>
    by_cases hr : rel s i (t + 1)
    · rw [rest_rel hr]
      have : last s i (t + 1) = t + 1 := by unfold last; rw [hr.2]; omega
      rw [this]
    · have ht : s.O i ≤ t := by
        apply Decidable.byContradiction
        intro hn
        have e : t + 1 = s.O i := by omega
        exact hr ⟨h, by rw [e]; simp⟩
      have hm : (t + 1 - s.O i) % s.P i = (t - s.O i) % s.P i + 1 := by
        have hne : (t + 1 - s.O i) % s.P i ≠ 0 := fun e => hr ⟨h, e⟩
        have e1 : t + 1 - s.O i = (t - s.O i) + 1 := by omega
        rw [e1] at hne ⊢
        have hlt := Nat.mod_lt (t - s.O i) hp
        have hdm := Nat.div_add_mod (t - s.O i) (s.P i)
        have e2 : t - s.O i + 1 = (t - s.O i) % s.P i + 1 + s.P i * ((t - s.O i) / s.P i) := by omega
        have e3 : (t - s.O i + 1) % s.P i = ((t - s.O i) % s.P i + 1) % s.P i := by
          rw [e2, Nat.add_mul_mod_self_left]
        rw [e3] at hne ⊢
        by_cases he : (t - s.O i) % s.P i + 1 = s.P i
        · rw [he, Nat.mod_self] at hne; exact (hne rfl).elim
        · exact Nat.mod_eq_of_lt (by omega)
      have hl : last s i (t + 1) = last s i t := by
        unfold last
        have := Nat.mod_le (t - s.O i) (s.P i)
        omega
      rw [hl, rest_succ, if_neg hr]
      have := ih ht
      show rest s t i - (if occ s t = i + 1 then 1 else 0) + (cnt (occ s) (i + 1) t + if occ s t = i + 1 then 1 else 0) = _
      by_cases ho : occ s t = i + 1
      · rw [if_pos ho]
        have := ((occ_iff hs hi).1 ho).1
        omega
      · rw [if_neg ho]; omega

/-! ### Stretches -/
theorem idle {s : Sys} {i a : Nat} (m : Nat) (ho : ∀ u, a ≤ u → u < a + m → occ s u ≠ i + 1) (hr : ∀ u, a < u → u ≤ a + m → ¬ rel s i u) : rest s (a + m) i = rest s a i := by
  induction m with
  | zero => rfl
  | succ m ih =>
    have e : a + (m + 1) = (a + m) + 1 := by omega
    rw [e, rest_succ, if_neg (hr _ (by omega) (by omega)), if_neg (ho _ (by omega) (by omega)), ih (fun u h1 h2 => ho u h1 (by omega)) (fun u h1 h2 => hr u h1 (by omega))]
    rfl
theorem full {s : Sys} {i a : Nat} (m : Nat) (ho : ∀ u, a ≤ u → u < a + m → occ s u ≠ i + 1) (hb : rest s a i = s.B i) : rest s (a + m) i = s.B i := by
  induction m with
  | zero => exact hb
  | succ m ih =>
    have e : a + (m + 1) = (a + m) + 1 := by omega
    rw [e, rest_succ]
    split
    · rfl
    · rw [if_neg (ho _ (by omega) (by omega)), ih (fun u h1 h2 => ho u h1 (by omega))]; rfl
theorem runs {s : Sys} {i a : Nat} (m : Nat) (ho : ∀ u, a ≤ u → u < a + m → occ s u = i + 1) (hr : ∀ u, a < u → u ≤ a + m → ¬ rel s i u) : rest s (a + m) i = rest s a i - m := by
  induction m with
  | zero => rfl
  | succ m ih =>
    have e : a + (m + 1) = (a + m) + 1 := by omega
    rw [e, rest_succ, if_neg (hr _ (by omega) (by omega)), if_pos (ho _ (by omega) (by omega)), ih (fun u h1 h2 => ho u h1 (by omega)) (fun u h1 h2 => hr u h1 (by omega))]
    omega

end Rule
end Go.Proofs.YtnmhcnppdhdhfaaGreatDoor

namespace Go.Proofs.YtnmhcnppdhdhfaaGreatDoor
namespace Rule
set_option linter.unusedVariables false

/-- v is the first release of i behind u -/
def After (s : Sys) (i u v : Nat) : Prop := rel s i v ∧ u < v ∧ ∀ x, u < x → x < v → ¬ rel s i x

structure Inv (s : Sys) (idx rs nx : Nat → Nat) (now : Nat) : Prop where
  lt : ∀ k, k < s.n → idx k < s.n
  ord : ∀ j k, j < k → k < s.n → s.pr (idx k) < s.pr (idx j)
  onto : ∀ i, i < s.n → ∃ k, k < s.n ∧ idx k = i
  late : ∀ k, k < s.n → nx k ≤ now → rest s now (idx k) = s.B (idx k)
  soon : ∀ k, k < s.n → now < nx k → rest s now (idx k) = rs k ∧ After s (idx k) now (nx k)

def up (f : Nat → Nat) (k v : Nat) : Nat → Nat := fun j => if j = k then v else f j
theorem up_same (f : Nat → Nat) (k v : Nat) : up f k v k = v := by simp [up]
theorem up_other (f : Nat → Nat) {k j : Nat} (v : Nat) (h : j ≠ k) : up f k v j = f j := by simp [up, h]

theorem Inv.idx_inj {s : Sys} {idx rs nx : Nat → Nat} {now : Nat} (h : Inv s idx rs nx now) {j k : Nat} (hj : j < s.n) (hk : k < s.n) (e : idx j = idx k) : j = k := by
  rcases Nat.lt_trichotomy j k with h1 | h1 | h1
  · have := h.ord j k h1 hk; rw [e] at this; omega
  · exact h1
  · have := h.ord k j h1 hj; rw [e] at this; omega

/-- the releases up to now are done -/
theorem Inv.catchUp {s : Sys} {idx rs nx : Nat → Nat} {now : Nat} (h : Inv s idx rs nx now) {k v : Nat} (hk : k < s.n) (hl : nx k ≤ now) (hv : After s (idx k) now v) :
    Inv s idx (up rs k (s.B (idx k))) (up nx k v) now := by
  refine ⟨h.lt, h.ord, h.onto, fun j hj hle => ?_, fun j hj hlt => ?_⟩
  · by_cases e : j = k
    · subst e; rw [up_same] at hle; have := hv.2.1; omega
    · rw [up_other _ _ e] at hle; exact h.late j hj hle
  · by_cases e : j = k
    · subst e; rw [up_same, up_same]; exact ⟨h.late j hj hl, hv⟩
    · rw [up_other _ _ e] at hlt ⊢; rw [up_other _ _ e]; exact h.soon j hj hlt

theorem Inv.on {s : Sys} {idx rs nx : Nat → Nat} {now : Nat} (h : Inv s idx rs nx now) {L : Nat} {j : Nat} (hj : j < s.n) (ho : ∀ u, now ≤ u → u < now + L → occ s u ≠ idx j + 1) :
    (nx j ≤ now + L → rest s (now + L) (idx j) = s.B (idx j)) ∧ (now + L < nx j → rest s (now + L) (idx j) = rs j ∧ After s (idx j) (now + L) (nx j)) := by
  constructor
  · intro hle
    by_cases h1 : nx j ≤ now
    · exact full L ho (h.late j hj h1)
    · obtain ⟨_, h2, h3, h4⟩ := h.soon j hj (by omega)
      have e : now + L = nx j + (now + L - nx j) := by omega
      rw [e]
      exact full _ (fun u a b => ho u (by omega) (by omega)) (rest_rel h2)
  · intro hlt
    obtain ⟨h1, h2, h3, h4⟩ := h.soon j hj (by omega)
    refine ⟨?_, h2, hlt, fun x a b => h4 x (by omega) b⟩
    rw [idle L ho (fun u a b => h4 u a (by omega)), h1]

theorem Inv.none {s : Sys} {idx rs nx : Nat → Nat} {now : Nat} (h : Inv s idx rs nx now) {L : Nat} (h1 : ∀ j, j < s.n → now < nx j ∧ rs j = 0 ∧ now + L ≤ nx j) :
    (∀ u, now ≤ u → u < now + L → occ s u = 0) ∧ Inv s idx rs nx (now + L) := by
  have ho : ∀ m, m ≤ L → ∀ u, now ≤ u → u < now + m → occ s u = 0 := by
    intro m
    induction m with
    | zero => intro _ u a b; omega
    | succ m ih =>
      intro hm u a b
      have ih' := ih (by omega)
      by_cases e : u < now + m
      · exact ih' u a e
      · have : u = now + m := by omega
        subst this
        refine occ_zero.2 (fun i hi => ?_)
        obtain ⟨j, hj, rfl⟩ := h.onto i hi
        obtain ⟨a1, a2, a3⟩ := h1 j hj
        obtain ⟨b1, b2, b3, b4⟩ := h.soon j hj a1
        rw [idle m (fun u a b => by rw [ih' u a b]; omega) (fun u a b => b4 u a (by omega)), b1, a2]
  have ho' := ho L (Nat.le_refl _)
  refine ⟨ho', h.lt, h.ord, h.onto, fun j hj => ?_, fun j hj => ?_⟩
  · exact (h.on hj (fun u a b => by rw [ho' u a b]; omega)).1
  · exact (h.on hj (fun u a b => by rw [ho' u a b]; omega)).2

theorem Inv.slot {s : Sys} (hs : Ok s) {idx rs nx : Nat → Nat} {now : Nat} (h : Inv s idx rs nx now) {k L : Nat} (hk : k < s.n) (h1 : ∀ j, j ≤ k → now < nx j ∧ now + L ≤ nx j) (h2 : ∀ j, j < k → rs j = 0) (hL : L ≤ rs k) :
    (∀ u, now ≤ u → u < now + L → occ s u = idx k + 1) ∧ Inv s idx (up rs k (rs k - L)) nx (now + L) := by
  have ho : ∀ m, m ≤ L → ∀ u, now ≤ u → u < now + m → occ s u = idx k + 1 := by
    intro m
    induction m with
    | zero => intro _ u a b; omega
    | succ m ih =>
      intro hm u a b
      have ih' := ih (by omega)
      by_cases e : u < now + m
      · exact ih' u a e
      · have : u = now + m := by omega
        subst this
        refine (occ_iff hs (h.lt k hk)).2 ⟨?_, fun i hi hlt => ?_⟩
        · obtain ⟨a1, a2⟩ := h1 k (Nat.le_refl _)
          obtain ⟨b1, b2, b3, b4⟩ := h.soon k hk a1
          rw [Rule.runs m ih' (fun u a b => b4 u a (by omega)), b1]
          omega
        · obtain ⟨j, hj, rfl⟩ := h.onto i hi
          have hjk : j < k := by
            apply Decidable.byContradiction
            intro hn
            by_cases e : j = k
            · subst e; omega
            · have := h.ord k j (by omega) hj; omega
          obtain ⟨a1, a2⟩ := h1 j (by omega)
          obtain ⟨b1, b2, b3, b4⟩ := h.soon j hj a1
          rw [idle m (fun u a b => by rw [ih' u a b]; intro e; have := h.idx_inj hj hk (by omega); omega) (fun u a b => b4 u a (by omega)), b1, h2 j hjk]
  have ho' := ho L (Nat.le_refl _)
  refine ⟨ho', h.lt, h.ord, h.onto, fun j hj hle => ?_, fun j hj hlt => ?_⟩
  · by_cases e : j = k
    · subst e
      obtain ⟨a1, a2⟩ := h1 j (Nat.le_refl _)
      have : now + L = nx j := by omega
      rw [this]
      exact rest_rel (h.soon j hj a1).2.1
    · exact (h.on hj (fun u a b => by rw [ho' u a b]; intro e'; exact e (h.idx_inj hj hk (by omega)))).1 hle
  · by_cases e : j = k
    · subst e
      obtain ⟨a1, a2⟩ := h1 j (Nat.le_refl _)
      obtain ⟨b1, b2, b3, b4⟩ := h.soon j hj a1
      rw [up_same]
      refine ⟨?_, b2, hlt, fun x a b => b4 x (by omega) b⟩
      rw [Rule.runs L ho' (fun u a b => b4 u a (by omega)), b1]
    · rw [up_other _ _ e]
      exact (h.on hj (fun u a b => by rw [ho' u a b]; intro e'; exact e (h.idx_inj hj hk (by omega)))).2 hlt

/-- as they stand ahead of all releases -/
theorem Inv.start {s : Sys} (hs : Ok s) {idx : Nat → Nat} (lt : ∀ k, k < s.n → idx k < s.n) (ord : ∀ j k, j < k → k < s.n → s.pr (idx k) < s.pr (idx j)) (onto : ∀ i, i < s.n → ∃ k, k < s.n ∧ idx k = i) :
    Inv s idx (fun _ => 0) (fun k => s.O (idx k)) 0 := by
  refine ⟨lt, ord, onto, fun k hk hle => ?_, fun k hk hlt => ?_⟩
  · exact rest_rel ⟨hle, by simp⟩
  · exact ⟨rest_early 0 hlt, ⟨Nat.le_refl _, by simp⟩, hlt, fun x a b hr => by have := hr.1; omega⟩

end Rule
end Go.Proofs.YtnmhcnppdhdhfaaGreatDoor

namespace Go.Proofs.YtnmhcnppdhdhfaaGreatDoor
open Go.RowKit Plain
set_option linter.unusedVariables false
set_option maxRecDepth 100000

def nv (n : Nat) : Value := .int .i64 (n : Int)

/-- num.NextAt, of ticks -/
def nextN (o p f : Nat) : Nat := if f ≤ o then o else if (f - o) % p = 0 then f else f + (p - (f - o) % p)
theorem nextV_nat (o p f : Nat) (hp : 1 ≤ p) (hs : p + f ≤ 4611686018427387904) : nextV o p f = (nextN o p f : Int) := by
  unfold nextV nextN
  rw [if_neg (by omega)]
  by_cases h1 : f ≤ o
  · rw [if_pos h1, if_pos (by omega)]
  · rw [if_neg h1, if_neg (by omega)]
    have e : (f : Int) - o = ((f - o : Nat) : Int) := by omega
    rw [e, ← Int.natCast_emod]
    by_cases h2 : (f - o) % p = 0
    · rw [if_pos h2, if_pos (by omega)]
    · rw [if_neg h2, if_neg (by omega)]
      have := Nat.mod_lt (f - o) (show p > 0 by omega)
      rw [if_neg (by omega)]
      omega
theorem nextN_after {s : Rule.Sys} (hs : Rule.Ok s) {i now : Nat} (hi : i < s.n) : Rule.After s i now (nextN (s.O i) (s.P i) (now + 1)) := by
  have hp := hs.per i hi
  unfold nextN
  split
  · rename_i h
    exact ⟨⟨Nat.le_refl _, by simp⟩, by omega, fun x a b hr => by have := hr.1; omega⟩
  · rename_i h
    split
    · rename_i h2
      exact ⟨⟨by omega, h2⟩, by omega, fun x a b => by omega⟩
    · rename_i h2
      have hlt := Nat.mod_lt (now + 1 - s.O i) hp
      have hdm := Nat.div_add_mod (now + 1 - s.O i) (s.P i)
      refine ⟨⟨by omega, ?_⟩, by omega, fun x a b hr => ?_⟩
      · have e : now + 1 + (s.P i - (now + 1 - s.O i) % s.P i) - s.O i = s.P i * ((now + 1 - s.O i) / s.P i) + s.P i := by omega
        rw [e]
        simp
      · obtain ⟨h3, h4⟩ := hr
        have e : x - s.O i = (now + 1 - s.O i) % s.P i + (x - (now + 1)) + s.P i * ((now + 1 - s.O i) / s.P i) := by omega
        rw [e, Nat.add_mul_mod_self_left, Nat.mod_eq_of_lt (by omega)] at h4
        omega
theorem nextN_le (o p f : Nat) (ho : o < p) (hp : 1 ≤ p) : nextN o p f ≤ f + p := by
  unfold nextN
  split
  · omega
  · split
    · omega
    · omega

/-- block g holds the players: of each its server, its number, its rest, its next release -/
structure Pl (w : World) (g : Nat) (s : Rule.Sys) (idx rs nx : Nat → Nat) : Prop where
  at' : ∀ k, k < s.n → w.cell? ⟨g, k * 7, none⟩ = some (nv (s.P (idx k))) ∧ w.cell? ⟨g, k * 7 + 1, none⟩ = some (nv (s.B (idx k))) ∧ w.cell? ⟨g, k * 7 + 2, none⟩ = some (nv (s.O (idx k))) ∧
    w.cell? ⟨g, k * 7 + 4, none⟩ = some (nv (idx k + 1)) ∧ w.cell? ⟨g, k * 7 + 5, none⟩ = some (nv (rs k)) ∧ w.cell? ⟨g, k * 7 + 6, none⟩ = some (nv (nx k))
  fz : ∀ i, w.frozen? ⟨g, i, none⟩ = false

theorem Pl.kept {w w' : World} {g : Nat} {s : Rule.Sys} {idx rs nx : Nat → Nat} (h : Pl w g s idx rs nx) (hk : w'.heap[g]? = w.heap[g]?) : Pl w' g s idx rs nx := by
  have e : ∀ i, w'.cell? ⟨g, i, none⟩ = w.cell? ⟨g, i, none⟩ := fun i => World.cell?_of_block hk
  refine ⟨fun k hk' => ?_, fun i => ?_⟩
  · simp only [e]; exact h.at' k hk'
  · have := h.fz i
    simp only [World.frozen?, hk] at this ⊢
    exact this
theorem cell_set {w : World} {g i j : Nat} {v u : Value} (h : w.cell? ⟨g, i, none⟩ = some u) : (w.setCell ⟨g, j, none⟩ v).cell? ⟨g, i, none⟩ = some (if i = j then v else u) := by
  by_cases e : i = j
  · subst e
    rw [if_pos rfl]
    exact World.cell?_setCell_same' _ _ _ (by rw [h]; rfl)
  · rw [if_neg e]
    have hne : (⟨g, j, none⟩ : Addr) ≠ ⟨g, i, none⟩ := fun h' => e (by injection h' with _ h1 _; exact h1.symm)
    rw [World.cell?_setCell_other _ _ _ _ hne]
    exact h
end Go.Proofs.YtnmhcnppdhdhfaaGreatDoor
