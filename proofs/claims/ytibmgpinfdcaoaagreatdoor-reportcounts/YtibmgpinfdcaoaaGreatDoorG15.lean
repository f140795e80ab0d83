/-
  One text: NNext, OMath.
-/
import Derived.Test.YtibmgpinfdcaoaaGreatDoorProg
import Derived.Test.YtibmgpinfdcaoaaGreatDoorG06
import Derived.WalkKit
import Derived.WalkSpells
import Derived.WalkLawsBesides
import Derived.WalkMore
namespace Go.Proofs.YtibmgpinfdcaoaaGreatDoor
open Go.RowKit Plain
set_option linter.unusedVariables false
set_option maxRecDepth 100000

theorem comes_any (o p : Int) (w : World) :
    Calls Tryz.prog 112 #[.int .i64 o, .int .i64 p] w fun e w' => e = .returned (.bool (countB o p)) ∧ w' = w := by
  by_cases h1 : o < 0
  · rw [show countB o p = false from if_pos (by omega)]
    go_enter Tryz.func112, Tryz.ntmps112
    go_wp2
    go_ret
    exact ⟨rfl, rfl⟩
  by_cases h2 : p < 1
  · rw [show countB o p = false from if_pos (by omega)]
    have h3 : decide (1 ≤ p) = false := by simp; omega
    go_enter Tryz.func112, Tryz.ntmps112
    go_wp2
    go_ret
    exact ⟨rfl, rfl⟩
  rw [show countB o p = true from if_neg (by omega)]
  have h3 : decide (1 ≤ p) = true := by simp; omega
  go_enter Tryz.func112, Tryz.ntmps112
  go_wp2
  go_ret
  exact ⟨rfl, rfl⟩

theorem next_any (o p f : Int) (w : World) (ho2 : I64 o) (hp2 : I64 p) (hf : I64 f) :
    Calls Tryz.prog 98 #[.int .i64 o, .int .i64 p, .int .i64 f] w fun e w' => e = .returned (.tuple #[.int .i64 (nextV o p f), .bool (nextB o p f)]) ∧ w' = w := by
  unfold I64 at hf ho2 hp2
  obtain ⟨hf1, hf2⟩ := hf
  obtain ⟨_, ho2⟩ := ho2
  obtain ⟨_, hp2⟩ := hp2
  by_cases h1 : o < 0 ∨ p < 1
  · have hc : countB o p = false := if_pos h1
    rw [show nextV o p f = 0 from if_pos h1, show nextB o p f = false from if_pos h1]
    go_enter Tryz.func98, Tryz.ntmps98
    go_wp2_with (go_at_call 112; refine (comes_any _ _ _).mono ?_; rintro e w' ⟨rfl, rfl⟩)
    go_ret2
    exact ⟨rfl, rfl⟩
  have hc : countB o p = true := if_neg h1
  unfold nextV nextB
  rw [if_neg h1, if_neg h1]
  have ho : 0 ≤ o := by omega
  have hp : 1 ≤ p := by omega
  clear h1
  by_cases h2 : f ≤ o
  · rw [if_pos h2, if_pos h2]
    go_enter Tryz.func98, Tryz.ntmps98
    go_wp2_with (go_at_call 112; refine (comes_any _ _ _).mono ?_; rintro e w' ⟨rfl, rfl⟩)
    go_ret2
    exact ⟨rfl, rfl⟩
  rw [if_neg h2, if_neg h2]
  have r1 := Int.emod_nonneg (f - o) (b := p) (by omega)
  have r2 := Int.emod_lt_of_pos (f - o) (b := p) (by omega)
  have h2' : o < f := by omega
  clear h2
  by_cases h3 : (f - o) % p = 0
  · rw [if_pos h3, if_pos h3]
    go_enter Tryz.func98, Tryz.ntmps98
    go_wp2_with (go_at_call 112; refine (comes_any _ _ _).mono ?_; rintro e w' ⟨rfl, rfl⟩)
    go_ret2
    exact ⟨rfl, rfl⟩
  rw [if_neg h3, if_neg h3]
  by_cases h4 : 9223372036854775807 - f < p - (f - o) % p
  · rw [if_pos h4, if_pos h4]
    go_enter Tryz.func98, Tryz.ntmps98
    go_wp2_with (go_at_call 112; refine (comes_any _ _ _).mono ?_; rintro e w' ⟨rfl, rfl⟩)
    go_ret2
    exact ⟨rfl, rfl⟩
  rw [if_neg h4, if_neg h4]
  go_enter Tryz.func98, Tryz.ntmps98
  go_wp2_with (go_at_call 112; refine (comes_any _ _ _).mono ?_; rintro e w' ⟨rfl, rfl⟩)
  go_ret2
  exact ⟨rfl, rfl⟩

end Go.Proofs.YtibmgpinfdcaoaaGreatDoor

namespace Go.Proofs.YtibmgpinfdcaoaaGreatDoor
namespace Rule
set_option linter.unusedVariables false

structure Sys where
  n : Nat
  P : Nat → Nat
  B : Nat → Nat
  O : Nat → Nat
  pr : Nat → Int

def rel (s : Sys) (i t : Nat) : Prop := s.O i ≤ t ∧ (t - s.O i) % s.P i = 0
instance (s : Sys) (i t : Nat) : Decidable (rel s i t) := by unfold rel; exact inferInstance

/-- who has, of the first k, the greatest priority of those with something left (0: nobody) -/
def pick (s : Sys) (r : Nat → Nat) : Nat → Nat
  | 0 => 0
  | k + 1 => if 0 < r k ∧ (pick s r k = 0 ∨ s.pr (pick s r k - 1) < s.pr k) then k + 1 else pick s r k

theorem pick_le (s : Sys) (r : Nat → Nat) (k : Nat) : pick s r k ≤ k := by
  induction k with
  | zero => exact Nat.le_refl _
  | succ k ih => unfold pick; split <;> omega
theorem pick_zero (s : Sys) (r : Nat → Nat) (k : Nat) (h : pick s r k = 0) : ∀ j, j < k → r j = 0 := by
  induction k with
  | zero => intro j hj; omega
  | succ k ih =>
    unfold pick at h
    split at h
    · cases h
    · rename_i hn
      intro j hj
      by_cases e : j = k
      · subst e
        apply Decidable.byContradiction
        intro h0
        exact hn ⟨by omega, .inl h⟩
      · exact ih h j (by omega)
theorem pick_pos (s : Sys) (r : Nat → Nat) (k : Nat) (h : pick s r k ≠ 0) : 0 < r (pick s r k - 1) ∧ ∀ j, j < k → 0 < r j → s.pr j ≤ s.pr (pick s r k - 1) := by
  induction k with
  | zero => exact (h rfl).elim
  | succ k ih =>
    unfold pick at h ⊢
    split
    · rename_i hc
      simp only [Nat.add_sub_cancel]
      refine ⟨hc.1, fun j hj h0 => ?_⟩
      by_cases e : j = k
      · subst e; exact Int.le_refl _
      · by_cases hz : pick s r k = 0
        · have := pick_zero s r k hz j (by omega); omega
        · have := (ih hz).2 j (by omega) h0
          rcases hc.2 with h1 | h1
          · exact (hz h1).elim
          · omega
    · rename_i hc
      rw [if_neg hc] at h
      obtain ⟨h1, h2⟩ := ih h
      refine ⟨h1, fun j hj h0 => ?_⟩
      by_cases e : j = k
      · subst e
        apply Decidable.byContradiction
        intro hlt
        exact hc ⟨h0, .inr (by omega)⟩
      · exact h2 j (by omega) h0

def chosen (s : Sys) (r : Nat → Nat) : Nat := pick s r s.n

/-- what is left of each budget at a tick, behind its releases, ahead of what the tick takes -/
def rest (s : Sys) : Nat → Nat → Nat
  | 0 => fun i => if rel s i 0 then s.B i else 0
  | t + 1 => fun i => if rel s i (t + 1) then s.B i else rest s t i - (if chosen s (rest s t) = i + 1 then 1 else 0)
def occ (s : Sys) (t : Nat) : Nat := chosen s (rest s t)

structure Ok (s : Sys) : Prop where
  per : ∀ i, i < s.n → 0 < s.P i
  off : ∀ i, i < s.n → s.O i < s.P i
  inj : ∀ i j, i < s.n → j < s.n → s.pr i = s.pr j → i = j

theorem occ_le (s : Sys) (t : Nat) : occ s t ≤ s.n := pick_le _ _ _
theorem occ_zero {s : Sys} {t : Nat} : occ s t = 0 ↔ ∀ j, j < s.n → rest s t j = 0 := by
  constructor
  · exact pick_zero s _ _
  · intro h
    apply Decidable.byContradiction
    intro hn
    have h1 := (pick_pos s _ _ hn).1
    have h2 := pick_le s (rest s t) s.n
    have hn' : pick s (rest s t) s.n ≠ 0 := hn
    have := h (pick s (rest s t) s.n - 1) (by omega)
    omega
theorem occ_iff {s : Sys} (hs : Ok s) {t i : Nat} (hi : i < s.n) : occ s t = i + 1 ↔ 0 < rest s t i ∧ ∀ j, j < s.n → s.pr i < s.pr j → rest s t j = 0 := by
  constructor
  · intro h
    have h1 := pick_pos s (rest s t) s.n (by show occ s t ≠ 0; omega)
    have e : pick s (rest s t) s.n = i + 1 := h
    rw [e, Nat.add_sub_cancel] at h1
    refine ⟨h1.1, fun j hj hlt => ?_⟩
    apply Decidable.byContradiction
    intro h0
    have := h1.2 j hj (by omega)
    omega
  · rintro ⟨h1, h2⟩
    by_cases hz : occ s t = 0
    · have := occ_zero.1 hz i hi; omega
    · have h3 := pick_pos s (rest s t) s.n hz
      have h4 := pick_le s (rest s t) s.n
      have hz' : pick s (rest s t) s.n ≠ 0 := hz
      have h5 := h3.2 i hi h1
      have h6 : ¬ s.pr i < s.pr (pick s (rest s t) s.n - 1) := fun hlt => by
        have := h2 _ (by omega) hlt
        omega
      have := hs.inj i (pick s (rest s t) s.n - 1) hi (by omega) (by omega)
      show pick s (rest s t) s.n = i + 1
      omega

theorem rest_succ (s : Sys) (t i : Nat) : rest s (t + 1) i = if rel s i (t + 1) then s.B i else rest s t i - (if occ s t = i + 1 then 1 else 0) := rfl
theorem rest_rel {s : Sys} {t i : Nat} (h : rel s i t) : rest s t i = s.B i := by
  cases t with
  | zero => show (if rel s i 0 then s.B i else 0) = s.B i; rw [if_pos h]
  | succ t => rw [rest_succ, if_pos h]
theorem rest_le (s : Sys) (t i : Nat) : rest s t i ≤ s.B i := by
  induction t with
  | zero => show (if rel s i 0 then s.B i else 0) ≤ s.B i; split <;> omega
  | succ t ih => rw [rest_succ]; split <;> omega

theorem rel_add {s : Sys} {i t H : Nat} (hH : s.P i ∣ H) (h : rel s i t) : rel s i (t + H) := by
  obtain ⟨h1, h2⟩ := h
  refine ⟨by omega, ?_⟩
  have : t + H - s.O i = (t - s.O i) + H := by omega
  rw [this, Nat.add_mod, h2, Nat.mod_eq_zero_of_dvd hH]
  simp
theorem rel_sub {s : Sys} (hs : Ok s) {i t H : Nat} (hi : i < s.n) (hH : s.P i ∣ H) (h : rel s i (t + H)) : rel s i t := by
  obtain ⟨h1, h2⟩ := h
  have hp := hs.per i hi
  have ho := hs.off i hi
  have hd : s.P i ∣ t + H - s.O i := Nat.dvd_of_mod_eq_zero h2
  by_cases hlt : t < s.O i
  · exfalso
    obtain ⟨q, hq⟩ := hH
    obtain ⟨q', hq'⟩ := hd
    have e : s.P i * q = s.P i * q' + (s.O i - t) := by omega
    have : s.P i ∣ s.O i - t := ⟨q - q', by rw [Nat.mul_sub]; omega⟩
    have := Nat.le_of_dvd (by omega) this
    omega
  · refine ⟨by omega, ?_⟩
    have e : t + H - s.O i = (t - s.O i) + H := by omega
    rw [e] at hd
    exact Nat.mod_eq_zero_of_dvd ((Nat.dvd_add_iff_left hH).2 hd)

/-- what is left is not less a hyperperiod later -/
theorem mono {s : Sys} (hs : Ok s) {H : Nat} (hH : ∀ i, i < s.n → s.P i ∣ H) (t : Nat) : ∀ i, i < s.n → rest s t i ≤ rest s (t + H) i := by
  induction t with
  | zero =>
    intro i hi
    by_cases h : rel s i 0
    · rw [rest_rel h, rest_rel (rel_add (hH i hi) h)]; exact Nat.le_refl _
    · have : rest s 0 i = 0 := by show (if rel s i 0 then s.B i else 0) = 0; rw [if_neg h]
      omega
  | succ t ih =>
    intro i hi
    by_cases h : rel s i (t + 1 + H)
    · rw [rest_rel h]; exact rest_le _ _ _
    · have h' : ¬ rel s i (t + 1) := fun hr => h (rel_add (hH i hi) hr)
      have e : t + 1 + H = (t + H) + 1 := by omega
      have h2 : ¬ rel s i (t + H + 1) := fun hr => h (by rw [e]; exact hr)
      rw [rest_succ, if_neg h', e, rest_succ, if_neg h2]
      have h0 := ih i hi
      by_cases hl : occ s (t + H) = i + 1
      · by_cases he : occ s t = i + 1
        · rw [if_pos hl, if_pos he]; omega
        · rw [if_pos hl, if_neg he]
          have hz : rest s t i = 0 := by
            apply Decidable.byContradiction
            intro hn
            apply he
            refine (occ_iff hs hi).2 ⟨by omega, fun j hj hlt => ?_⟩
            have := ((occ_iff hs hi).1 hl).2 j hj hlt
            have := ih j hj
            omega
          omega
      · rw [if_neg hl]; split <;> omega

/-- servers of whom nobody below has to be asked: once they have nothing left at a tick from H on, all goes for them as a hyperperiod ahead -/
theorem back {s : Sys} (hs : Ok s) {H : Nat} (hH : ∀ i, i < s.n → s.P i ∣ H) (S : Nat → Prop) (hS : ∀ i j, i < s.n → j < s.n → S i → s.pr i < s.pr j → S j) (t : Nat)
    (h0 : ∀ i, i < s.n → S i → rest s (t + H) i = 0) (k : Nat) : ∀ i, i < s.n → S i → rest s (t + H + k) i = rest s (t + k) i := by
  induction k with
  | zero =>
    intro i hi hSi
    have h1 := h0 i hi hSi
    have h2 := mono hs hH t i hi
    simp only [Nat.add_zero]
    omega
  | succ k ih =>
    intro i hi hSi
    have e1 : t + H + (k + 1) = (t + H + k) + 1 := by omega
    have e2 : t + (k + 1) = (t + k) + 1 := by omega
    rw [e1, e2, rest_succ, rest_succ]
    have er : rel s i (t + H + k + 1) ↔ rel s i (t + k + 1) := by
      have e3 : t + H + k + 1 = (t + k + 1) + H := by omega
      rw [e3]
      exact ⟨rel_sub hs hi (hH i hi), rel_add (hH i hi)⟩
    have eo : occ s (t + H + k) = i + 1 ↔ occ s (t + k) = i + 1 := by
      rw [occ_iff hs hi, occ_iff hs hi, ih i hi hSi]
      constructor
      · rintro ⟨a, b⟩
        exact ⟨a, fun j hj hlt => by rw [← ih j hj (hS i j hi hj hSi hlt)]; exact b j hj hlt⟩
      · rintro ⟨a, b⟩
        exact ⟨a, fun j hj hlt => by rw [ih j hj (hS i j hi hj hSi hlt)]; exact b j hj hlt⟩
    rw [ih i hi hSi]
    by_cases h1 : rel s i (t + k + 1)
    · rw [if_pos h1, if_pos (er.2 h1)]
    · rw [if_neg h1, if_neg (fun h => h1 (er.1 h))]
      by_cases h2 : occ s (t + k) = i + 1
      · rw [if_pos h2, if_pos (eo.2 h2)]
      · rw [if_neg h2, if_neg (fun h => h2 (eo.1 h))]

theorem zeros {s : Sys} (hs : Ok s) {H : Nat} (hH : ∀ i, i < s.n → s.P i ∣ H) (S : Nat → Prop) (hS : ∀ i j, i < s.n → j < s.n → S i → s.pr i < s.pr j → S j) (t : Nat) (ht : H ≤ t) :
    (∀ i, i < s.n → S i → rest s t i = 0) ↔ (∀ i, i < s.n → S i → rest s (t + H) i = 0) := by
  obtain ⟨u, rfl⟩ : ∃ u, t = u + H := ⟨t - H, by omega⟩
  constructor
  · intro h i hi hSi
    rw [back hs hH S hS u h H i hi hSi]
    exact h i hi hSi
  · intro h i hi hSi
    have := h i hi hSi
    have := mono hs hH (u + H) i hi
    omega

/-- from H on the occupants come again with H -/
theorem again {s : Sys} (hs : Ok s) {H : Nat} (hH : ∀ i, i < s.n → s.P i ∣ H) (t : Nat) (ht : H ≤ t) : occ s (t + H) = occ s t := by
  by_cases hz : occ s (t + H) = 0
  · have h1 := occ_zero.1 hz
    rw [hz]
    exact (occ_zero.2 (fun j hj => (zeros hs hH (fun _ => True) (fun _ _ _ _ _ _ => trivial) t ht).2 (fun i hi _ => h1 i hi) j hj trivial)).symm
  · obtain ⟨i, hi⟩ : ∃ i, occ s (t + H) = i + 1 := ⟨occ s (t + H) - 1, by omega⟩
    have hin : i < s.n := by have := occ_le s (t + H); omega
    rw [hi]
    obtain ⟨h1, h2⟩ := (occ_iff hs hin).1 hi
    symm
    refine (occ_iff hs hin).2 ⟨?_, fun j hj hlt => (zeros hs hH (fun j => s.pr i < s.pr j) (fun a b _ _ h h' => by omega) t ht).2 h2 j hj hlt⟩
    apply Decidable.byContradiction
    intro hn
    have := (zeros hs hH (fun j => s.pr i ≤ s.pr j) (fun a b _ _ h h' => by omega) t ht).1 (fun j hj hle => by
      by_cases e : j = i
      · subst e; omega
      · have : s.pr i < s.pr j := by
          apply Decidable.byContradiction
          intro h'
          exact e (hs.inj j i hj hin (by omega))
        exact (zeros hs hH (fun j => s.pr i < s.pr j) (fun a b _ _ h h' => by omega) t ht).2 h2 j hj this) i hin (Int.le_refl _)
    omega

/-- the tick below 2 H that has the occupant of t -/
def fold (H t : Nat) : Nat := if t < H then t else H + t % H
theorem again_mul {s : Sys} (hs : Ok s) {H : Nat} (hH : ∀ i, i < s.n → s.P i ∣ H) (t : Nat) (ht : H ≤ t) (k : Nat) : occ s (t + k * H) = occ s t := by
  induction k with
  | zero => simp
  | succ k ih =>
    have e : t + (k + 1) * H = (t + k * H) + H := by rw [Nat.succ_mul]; omega
    rw [e, again hs hH _ (by omega), ih]
theorem occ_fold {s : Sys} (hs : Ok s) {H : Nat} (h1 : 0 < H) (hH : ∀ i, i < s.n → s.P i ∣ H) (t : Nat) : occ s t = occ s (fold H t) := by
  unfold fold
  split
  · rfl
  · rename_i h
    have hm := Nat.mod_add_div t H
    have hq : 1 ≤ t / H := (Nat.le_div_iff_mul_le h1).2 (by omega)
    have e : t = (H + t % H) + (t / H - 1) * H := by
      rw [Nat.sub_mul, Nat.mul_comm (t / H) H]
      have : H ≤ H * (t / H) := Nat.le_mul_of_pos_right H (by omega)
      omega
    have := again_mul hs hH (H + t % H) (by omega) (t / H - 1)
    rw [← e] at this
    exact this

/-! ### Counts -/
/-- how many ticks below t are p's -/
def cnt (f : Nat → Nat) (p : Nat) : Nat → Nat
  | 0 => 0
  | t + 1 => cnt f p t + if f t = p then 1 else 0
theorem cnt_le (f : Nat → Nat) (p t : Nat) : cnt f p t ≤ t := by
  induction t with
  | zero => exact Nat.le_refl _
  | succ t ih => show cnt f p t + (if f t = p then 1 else 0) ≤ t + 1; split <;> omega
theorem cnt_mono (f : Nat → Nat) (p : Nat) {a b : Nat} (h : a ≤ b) : cnt f p a ≤ cnt f p b := by
  induction b with
  | zero => have : a = 0 := by omega
            subst this; exact Nat.le_refl _
  | succ b ih =>
    by_cases e : a = b + 1
    · subst e; exact Nat.le_refl _
    · have := ih (by omega)
      show cnt f p a ≤ cnt f p b + (if f b = p then 1 else 0)
      omega
theorem cnt_diff (f : Nat → Nat) (p : Nat) {a b : Nat} (h : a ≤ b) : cnt f p b ≤ cnt f p a + (b - a) := by
  induction b with
  | zero => have : a = 0 := by omega
            subst this; omega
  | succ b ih =>
    by_cases e : a = b + 1
    · subst e; omega
    · have := ih (by omega)
      show cnt f p b + (if f b = p then 1 else 0) ≤ _
      split <;> omega
/-- from H on counts grow by the same -/
theorem cnt_again {f : Nat → Nat} {H : Nat} (hf : ∀ t, H ≤ t → f (t + H) = f t) (p t : Nat) (ht : H ≤ t) : cnt f p (t + H) + cnt f p H = cnt f p t + cnt f p (H + H) := by
  obtain ⟨k, rfl⟩ : ∃ k, t = H + k := ⟨t - H, by omega⟩
  clear ht
  induction k with
  | zero => simp only [Nat.add_zero]; omega
  | succ k ih =>
    have e : H + (k + 1) + H = (H + k + H) + 1 := by omega
    rw [e]
    show cnt f p (H + k + H) + (if f (H + k + H) = p then 1 else 0) + cnt f p H = cnt f p (H + k) + (if f (H + k) = p then 1 else 0) + cnt f p (H + H)
    rw [hf (H + k) (by omega)]
    omega
theorem cnt_turns {f : Nat → Nat} {H : Nat} (hf : ∀ t, H ≤ t → f (t + H) = f t) (p r k : Nat) : cnt f p (H + r + k * H) + k * cnt f p H = cnt f p (H + r) + k * cnt f p (H + H) := by
  induction k with
  | zero => simp
  | succ k ih =>
    have e : H + r + (k + 1) * H = (H + r + k * H) + H := by rw [Nat.succ_mul]; omega
    have h1 := cnt_again hf p (H + r + k * H) (by omega)
    rw [e, Nat.succ_mul, Nat.succ_mul]
    omega

/-- the last release at or ahead of t -/
def last (s : Sys) (i t : Nat) : Nat := t - (t - s.O i) % s.P i
theorem rest_early {s : Sys} {i : Nat} (t : Nat) (h : t < s.O i) : rest s t i = 0 := by
  induction t with
  | zero => show (if rel s i 0 then s.B i else 0) = 0; rw [if_neg (fun hr => by have := hr.1; omega)]
  | succ t ih => rw [rest_succ, if_neg (fun hr => by have := hr.1; omega), ih (by omega)]; split <;> rfl
theorem rest_cnt {s : Sys} (hs : Ok s) {i : Nat} (hi : i < s.n) (t : Nat) (h : s.O i ≤ t) : rest s t i + cnt (occ s) (i + 1) t = s.B i + cnt (occ s) (i + 1) (last s i t) := by
  have hp := hs.per i hi
  induction t with
  | zero =>
    have h1 : rel s i 0 := ⟨h, by simp⟩
    rw [rest_rel h1]
    have : last s i 0 = 0 := by unfold last; omega
    rw [this]
  | succ t ih =>
    by_cases hr : rel s i (t + 1)
    · rw [rest_rel hr]
      have : last s i (t + 1) = t + 1 := by unfold last; rw [hr.2]; omega
      rw [this]
    · have ht : s.O i ≤ t := by
        apply Decidable.byContradiction
        intro hn
        have e : t + 1 = s.O i := by omega
        exact hr ⟨h, by rw [e]; simp⟩
      have hm : (t + 1 - s.O i) % s.P i = (t - s.O i) % s.P i + 1 := by
        have hne : (t + 1 - s.O i) % s.P i ≠ 0 := fun e => hr ⟨h, e⟩
        have e1 : t + 1 - s.O i = (t - s.O i) + 1 := by omega
        rw [e1] at hne ⊢
        have hlt := Nat.mod_lt (t - s.O i) hp
        have hdm := Nat.div_add_mod (t - s.O i) (s.P i)
        have e2 : t - s.O i + 1 = (t - s.O i) % s.P i + 1 + s.P i * ((t - s.O i) / s.P i) := by omega
        have e3 : (t - s.O i + 1) % s.P i = ((t - s.O i) % s.P i + 1) % s.P i := by
          rw [e2, Nat.add_mul_mod_self_left]
        rw [e3] at hne ⊢
        by_cases he : (t - s.O i) % s.P i + 1 = s.P i
        · rw [he, Nat.mod_self] at hne; exact (hne rfl).elim
        · exact Nat.mod_eq_of_lt (by omega)
      have hl : last s i (t + 1) = last s i t := by
        unfold last
        have := Nat.mod_le (t - s.O i) (s.P i)
        omega
      rw [hl, rest_succ, if_neg hr]
      have := ih ht
      show rest s t i - (if occ s t = i + 1 then 1 else 0) + (cnt (occ s) (i + 1) t + if occ s t = i + 1 then 1 else 0) = _
      by_cases ho : occ s t = i + 1
      · rw [if_pos ho]
        have := ((occ_iff hs hi).1 ho).1
        omega
      · rw [if_neg ho]; omega

/-! ### Stretches -/
theorem idle {s : Sys} {i a : Nat} (m : Nat) (ho : ∀ u, a ≤ u → u < a + m → occ s u ≠ i + 1) (hr : ∀ u, a < u → u ≤ a + m → ¬ rel s i u) : rest s (a + m) i = rest s a i := by
  induction m with
  | zero => rfl
  | succ m ih =>
    have e : a + (m + 1) = (a + m) + 1 := by omega
    rw [e, rest_succ, if_neg (hr _ (by omega) (by omega)), if_neg (ho _ (by omega) (by omega)), ih (fun u h1 h2 => ho u h1 (by omega)) (fun u h1 h2 => hr u h1 (by omega))]
    rfl
theorem full {s : Sys} {i a : Nat} (m : Nat) (ho : ∀ u, a ≤ u → u < a + m → occ s u ≠ i + 1) (hb : rest s a i = s.B i) : rest s (a + m) i = s.B i := by
  induction m with
  | zero => exact hb
  | succ m ih =>
    have e : a + (m + 1) = (a + m) + 1 := by omega
    rw [e, rest_succ]
    split
    · rfl
    · rw [if_neg (ho _ (by omega) (by omega)), ih (fun u h1 h2 => ho u h1 (by omega))]; rfl
theorem runs {s : Sys} {i a : Nat} (m : Nat) (ho : ∀ u, a ≤ u → u < a + m → occ s u = i + 1) (hr : ∀ u, a < u → u ≤ a + m → ¬ rel s i u) : rest s (a + m) i = rest s a i - m := by
  induction m with
  | zero => rfl
  | succ m ih =>
    have e : a + (m + 1) = (a + m) + 1 := by omega
    rw [e, rest_succ, if_neg (hr _ (by omega) (by omega)), if_pos (ho _ (by omega) (by omega)), ih (fun u h1 h2 => ho u h1 (by omega)) (fun u h1 h2 => hr u h1 (by omega))]
    omega

end Rule
end Go.Proofs.YtibmgpinfdcaoaaGreatDoor
