/-
  One text: RPl, RJob, Heap.
-/
import Derived.WalkKit
import Derived.WalkSpells
import Derived.WalkLawsBesides
import Derived.Below
import Derived.WalkSmall
import Derived.Maps.AppendAt
import Derived.Laws.AppendOwnNone
import Derived.Deep.Draws
namespace Go.Proofs.YtnmhcnppdhdhfaaGreatDoor.Rp

/-- what is left of the job ahead of the work of tick t, behind its release: T the period, C what the job released at a tick takes, A the ticks that are there -/
def remn (A : Nat → Bool) (C : Nat → Nat) (T : Nat) : Nat → Nat
  | 0 => C 0
  | t + 1 => if (t + 1) % T = 0 then C (t + 1) else remn A C T t - (if A t then 1 else 0)
/-- .. behind it -/
def aft (A : Nat → Bool) (C : Nat → Nat) (T : Nat) (t : Nat) : Nat := remn A C T t - (if A t then 1 else 0)
/-- nobody is late at a release up to E -/
def okE (A : Nat → Bool) (C : Nat → Nat) (T E : Nat) : Prop := ∀ s, 0 < s → s ≤ E → s % T = 0 → aft A C T (s - 1) = 0
/-- the ticks that are left -/
def nxt (A : Nat → Bool) (C : Nat → Nat) (T : Nat) (t : Nat) : Bool := A t && decide (remn A C T t = 0)
/-- a job's last tick -/
def ends (A : Nat → Bool) (C : Nat → Nat) (T : Nat) (t : Nat) : Bool := A t && decide (remn A C T t = 1)
/-- the greatest response below E -/
def wrst (A : Nat → Bool) (C : Nat → Nat) (T : Nat) : Nat → Nat
  | 0 => 0
  | E + 1 => if ends A C T E = true then max (wrst A C T E) (E % T + 1) else wrst A C T E

theorem remn_succ (A : Nat → Bool) (C : Nat → Nat) (T t : Nat) : remn A C T (t + 1) = if (t + 1) % T = 0 then C (t + 1) else aft A C T t := rfl
theorem wrst_ge {A : Nat → Bool} {C : Nat → Nat} {T : Nat} : ∀ {E t : Nat}, t < E → ends A C T t = true → t % T + 1 ≤ wrst A C T E
  | 0, t, h, _ => by omega
  | E + 1, t, h, he => by
    rcases Nat.lt_or_eq_of_le (Nat.lt_succ_iff.1 h) with h1 | h1
    · have := wrst_ge h1 he
      rw [wrst]; split <;> omega
    · subst h1; rw [wrst, if_pos he]; omega
theorem wrst_le {A : Nat → Bool} {C : Nat → Nat} {T b : Nat} : ∀ {E : Nat}, (∀ t, t < E → ends A C T t = true → t % T + 1 ≤ b) → wrst A C T E ≤ b
  | 0, _ => by rw [wrst]; omega
  | E + 1, h => by
    have ih := wrst_le (E := E) (fun t ht => h t (by omega))
    rw [wrst]
    split
    · rename_i he
      have := h E (by omega) he
      omega
    · exact ih
theorem wrst_has {A : Nat → Bool} {C : Nat → Nat} {T : Nat} : ∀ {E : Nat}, wrst A C T E ≠ 0 → ∃ t, t < E ∧ ends A C T t = true ∧ t % T + 1 = wrst A C T E
  | 0, h => by rw [wrst] at h; omega
  | E + 1, h => by
    rw [wrst] at h ⊢
    by_cases he : ends A C T E = true
    · rw [if_pos he] at h ⊢
      by_cases hm : wrst A C T E ≤ E % T + 1
      · exact ⟨E, by omega, he, by omega⟩
      · obtain ⟨t, h1, h2, h3⟩ := wrst_has (A := A) (C := C) (T := T) (E := E) (by omega)
        exact ⟨t, by omega, h2, by omega⟩
    · rw [if_neg he] at h ⊢
      obtain ⟨t, h1, h2, h3⟩ := wrst_has h
      exact ⟨t, by omega, h2, h3⟩

/-! ### more ticks and shorter jobs: never more is left -/
theorem remn_mono {A B : Nat → Bool} {C D : Nat → Nat} {T : Nat} (hA : ∀ t, B t = true → A t = true) (hC : ∀ s, C s ≤ D s) : ∀ t, remn A C T t ≤ remn B D T t
  | 0 => hC 0
  | t + 1 => by
    have ih := remn_mono (T := T) hA hC t
    rw [remn, remn]
    split
    · exact hC _
    · cases hb : B t with
      | true => rw [hA t hb]; simp; omega
      | false => simp; split <;> omega
theorem aft_mono {A B : Nat → Bool} {C D : Nat → Nat} {T : Nat} (hA : ∀ t, B t = true → A t = true) (hC : ∀ s, C s ≤ D s) (t : Nat) : aft A C T t ≤ aft B D T t := by
  have ih := remn_mono (T := T) hA hC t
  unfold aft
  cases hb : B t with
  | true => rw [hA t hb]; simp; omega
  | false => simp; split <;> omega
theorem okE_mono {A B : Nat → Bool} {C D : Nat → Nat} {T E : Nat} (hA : ∀ t, B t = true → A t = true) (hC : ∀ s, C s ≤ D s) (h : okE B D T E) : okE A C T E := fun s h0 h1 h2 => by
  have := aft_mono (T := T) hA hC (s - 1)
  have := h s h0 h1 h2
  omega
theorem okE_less {A : Nat → Bool} {C : Nat → Nat} {T E E' : Nat} (h : okE A C T E) (hE : E' ≤ E) : okE A C T E' := fun s h0 h1 h2 => h s h0 (by omega) h2
theorem nxt_mono {A B : Nat → Bool} {C D : Nat → Nat} {T : Nat} (hA : ∀ t, B t = true → A t = true) (hC : ∀ s, C s ≤ D s) (t : Nat) (h : nxt B D T t = true) : nxt A C T t = true := by
  have ih := remn_mono (T := T) hA hC t
  unfold nxt at h ⊢
  simp only [Bool.and_eq_true, decide_eq_true_eq] at h ⊢
  exact ⟨hA t h.1, by omega⟩
/-- what is not done at a tick ends behind it, ahead of the next release, if nobody is late there -/
theorem ends_later {A : Nat → Bool} {C : Nat → Nat} {T : Nat} : ∀ (k t : Nat), 1 ≤ remn A C T t → aft A C T (t + k) = 0 → (∀ i, 1 ≤ i → i ≤ k → (t + i) % T ≠ 0) → ∃ j, j ≤ k ∧ ends A C T (t + j) = true
  | 0, t, h1, h2, _ => by
    refine ⟨0, by omega, ?_⟩
    unfold aft at h2
    unfold ends
    simp only [Nat.add_zero] at h2 ⊢
    cases hA : A t with
    | true => simp [hA] at h2 ⊢; omega
    | false => simp [hA] at h2; omega
  | k + 1, t, h1, h2, h3 => by
    by_cases he : ends A C T t = true
    · exact ⟨0, by omega, by simpa using he⟩
    · have hr : 1 ≤ remn A C T (t + 1) := by
        rw [remn_succ, if_neg (h3 1 (by omega) (by omega))]
        unfold aft
        unfold ends at he
        cases hA : A t with
        | true => rw [hA] at he; simp at he ⊢; omega
        | false => simp; omega
      obtain ⟨j, hj, e⟩ := ends_later k (t + 1) hr (by rw [show t + 1 + k = t + (k + 1) by omega]; exact h2) (fun i hi1 hi2 => by rw [show t + 1 + i = t + (i + 1) by omega]; exact h3 (i + 1) (by omega) (by omega))
      exact ⟨j + 1, by omega, by rw [show t + (j + 1) = t + 1 + j by omega]; exact e⟩
theorem mod_next {T : Nat} (hT : 0 < T) (t : Nat) : ∃ k, t + k + 1 = T * (t / T + 1) ∧ (t + k) % T = T - 1 ∧ ∀ i, i ≤ k → (t + i) % T = t % T + i := by
  have h1 := Nat.div_add_mod t T
  have h2 := Nat.mod_lt t hT
  refine ⟨T - 1 - t % T, by rw [Nat.mul_add, Nat.mul_one]; omega, ?_, ?_⟩
  · have : t + (T - 1 - t % T) = T * (t / T) + (T - 1) := by omega
    rw [this, Nat.mul_add_mod, Nat.mod_eq_of_lt (by omega)]
  · intro i hi
    have : t + i = T * (t / T) + (t % T + i) := by omega
    rw [this, Nat.mul_add_mod, Nat.mod_eq_of_lt (by omega)]
theorem wrst_mono {A B : Nat → Bool} {C D : Nat → Nat} {T E : Nat} (hT : 0 < T) (hE : E % T = 0) (hA : ∀ t, B t = true → A t = true) (hC : ∀ s, C s ≤ D s) (h : okE B D T E) : wrst A C T E ≤ wrst B D T E := by
  refine wrst_le (fun t ht he => ?_)
  obtain ⟨k, hk1, hk2, hk3⟩ := mod_next hT t
  have hr : 1 ≤ remn B D T t := by
    have := remn_mono (T := T) hA hC t
    unfold ends at he
    simp only [Bool.and_eq_true, decide_eq_true_eq] at he
    omega
  have hkE : t + k + 1 ≤ E := by
    have e1 : E = T * (E / T) := by have := Nat.div_add_mod E T; omega
    have e2 : t / T < E / T := by
      have h1 := Nat.div_add_mod t T
      apply Decidable.byContradiction
      intro hn
      have : E / T ≤ t / T := by omega
      have := Nat.mul_le_mul_left T this
      omega
    rw [hk1, e1]
    exact Nat.mul_le_mul_left T e2
  have ha := h (t + k + 1) (by omega) hkE (by rw [hk1]; exact Nat.mul_mod_right _ _)
  simp only [Nat.add_sub_cancel] at ha
  have hlt : t % T + k = T - 1 := by have := hk3 k (Nat.le_refl _); omega
  obtain ⟨j, hj, hj2⟩ := ends_later k t hr ha (fun i h1 h2 => by rw [hk3 i h2]; omega)
  have := wrst_ge (E := E) (by omega) hj2
  rw [hk3 j hj] at this
  omega

/-! ### from M on, all comes again with M -/
def again (A : Nat → Bool) (M : Nat) : Prop := ∀ t, M ≤ t → A (t + M) = A t
theorem remn_again {A : Nat → Bool} {c T M : Nat} (h : again A M) (hM : 0 < M) (hT : M % T = 0) : ∀ k, remn A (fun _ => c) T (M + k + M) = remn A (fun _ => c) T (M + k)
  | 0 => by
    obtain ⟨m, rfl⟩ : ∃ m, M = m + 1 := ⟨M - 1, by omega⟩
    rw [show m + 1 + 0 + (m + 1) = (m + 1 + m) + 1 by omega, Nat.add_zero, remn, remn, if_pos hT, if_pos (by rw [show m + 1 + m + 1 = (m + 1) + (m + 1) by omega, Nat.add_mod, hT]; simp)]
  | k + 1 => by
    have ih := remn_again (c := c) h hM hT k
    rw [show M + (k + 1) + M = (M + k + M) + 1 by omega, show M + (k + 1) = (M + k) + 1 by omega, remn, remn, ih, h (M + k) (by omega)]
    have : (M + k + M + 1) % T = (M + k + 1) % T := by
      rw [show M + k + M + 1 = (M + k + 1) + M by omega, Nat.add_mod, hT, Nat.add_zero, Nat.mod_mod]
    rw [this]
theorem remn_ag {A : Nat → Bool} {c T M t : Nat} (h : again A M) (hM : 0 < M) (hT : M % T = 0) (ht : M ≤ t) : remn A (fun _ => c) T (t + M) = remn A (fun _ => c) T t := by
  obtain ⟨k, rfl⟩ : ∃ k, t = M + k := ⟨t - M, by omega⟩
  exact remn_again h hM hT k
theorem nxt_again {A : Nat → Bool} {c T M : Nat} (h : again A M) (hM : 0 < M) (hT : M % T = 0) : again (nxt A (fun _ => c) T) M := fun t ht => by
  unfold nxt
  rw [remn_ag h hM hT ht, h t ht]
theorem okE_again {A : Nat → Bool} {c T M : Nat} (h : again A M) (hM : 0 < M) (hT : M % T = 0) (ho : okE A (fun _ => c) T (2 * M)) : ∀ E, okE A (fun _ => c) T E := by
  have key : ∀ n s, s ≤ n → 0 < s → s % T = 0 → aft A (fun _ => c) T (s - 1) = 0 := by
    intro n
    induction n with
    | zero => intro s h1 h2; omega
    | succ n ih =>
      intro s h1 h2 h3
      by_cases hs : s ≤ 2 * M
      · exact ho s h2 hs h3
      · have e : (s - M) % T = 0 := by
          have : s % T = ((s - M) + M) % T := by rw [Nat.sub_add_cancel (by omega)]
          rw [Nat.add_mod, hT, Nat.add_zero, Nat.mod_mod] at this
          omega
        have := ih (s - M) (by omega) (by omega) e
        unfold aft at this ⊢
        rw [show s - 1 = (s - M - 1) + M by omega, remn_ag h hM hT (by omega), h _ (by omega)]
        exact this
  exact fun E s h0 h1 h2 => key s s (Nat.le_refl _) h0 h2
theorem ends_ag {A : Nat → Bool} {c T M t : Nat} (h : again A M) (hM : 0 < M) (hT : M % T = 0) (ht : M ≤ t) : ends A (fun _ => c) T (t + M) = ends A (fun _ => c) T t := by
  unfold ends
  rw [remn_ag h hM hT ht, h t ht]
theorem wrst_again {A : Nat → Bool} {c T M : Nat} (h : again A M) (hM : 0 < M) (hT : M % T = 0) (E : Nat) (hE : 2 * M ≤ E) : wrst A (fun _ => c) T E = wrst A (fun _ => c) T (2 * M) := by
  have key : ∀ n t, t ≤ n → ends A (fun _ => c) T t = true → t % T + 1 ≤ wrst A (fun _ => c) T (2 * M) := by
    intro n
    induction n with
    | zero => intro t ht he; exact wrst_ge (by omega) he
    | succ n ih =>
      intro t ht he
      by_cases hs : t < 2 * M
      · exact wrst_ge hs he
      · have e : t % T = (t - M) % T := by
          have : t % T = ((t - M) + M) % T := by rw [Nat.sub_add_cancel (by omega)]
          rw [Nat.add_mod, hT, Nat.add_zero, Nat.mod_mod] at this
          exact this
        rw [e]
        refine ih (t - M) (by omega) ?_
        rw [show t = (t - M) + M by omega, ends_ag h hM hT (by omega)] at he
        exact he
  apply Nat.le_antisymm
  · exact wrst_le (fun t _ he => key t t (Nat.le_refl _) he)
  · exact wrst_le (fun t ht he => wrst_ge (by omega) he)
end Go.Proofs.YtnmhcnppdhdhfaaGreatDoor.Rp

namespace Go.Proofs.YtnmhcnppdhdhfaaGreatDoor.Rp
set_option linter.unusedVariables false

structure Wk where
  T : Nat
  C : Nat
  left : Nat
  released : Nat
  release : Nat
  worst : Nat
abbrev Wk.rem (w : Wk) (A : Nat → Bool) : Nat → Nat := remn A (fun _ => w.C) w.T
abbrev Wk.aft (w : Wk) (A : Nat → Bool) : Nat → Nat := Rp.aft A (fun _ => w.C) w.T
abbrev Wk.nx (w : Wk) (A : Nat → Bool) : Nat → Bool := nxt A (fun _ => w.C) w.T

/-- how a process stands, all ticks below now being done -/
structure J (A : Nat → Bool) (now : Nat) (w : Wk) : Prop where
  pT : 0 < w.T
  pC : 0 < w.C
  div : w.release % w.T = 0
  rel : (w.release = 0 ∧ w.released = 0) ∨ w.released + w.T = w.release
  ok : ∀ s, 0 < s → s < w.release → s % w.T = 0 → w.aft A (s - 1) = 0
  wo : w.worst = wrst A (fun _ => w.C) w.T now
  pend : w.release ≤ now → (w.release = 0 → w.left = 0) ∧ (0 < w.release → w.aft A (w.release - 1) = w.left) ∧ ∀ t, w.release ≤ t → t < now → A t = false
  ahead : now < w.release → w.left = w.rem A now ∧ w.release ≤ now + w.T

theorem rem_at {A : Nat → Bool} {C : Nat → Nat} {T r : Nat} (hr : r % T = 0) : remn A C T r = C r := by
  cases r with
  | zero => rfl
  | succ r => rw [remn, if_pos hr]
theorem mod_off {T r i : Nat} (hr : r % T = 0) (h0 : 0 < i) (h1 : i < T) : (r + i) % T ≠ 0 := by
  rw [Nat.add_mod, hr, Nat.zero_add, Nat.mod_mod, Nat.mod_eq_of_lt h1]; omega
theorem rem_still {A : Nat → Bool} {C : Nat → Nat} {T a : Nat} : ∀ k, (∀ t, a ≤ t → t < a + k → A t = false) → (∀ i, 0 < i → i ≤ k → (a + i) % T ≠ 0) → remn A C T (a + k) = remn A C T a
  | 0, _, _ => rfl
  | k + 1, h1, h2 => by
    have ih := rem_still (C := C) k (fun t ht1 ht2 => h1 t ht1 (by omega)) (fun i hi1 hi2 => h2 i hi1 (by omega))
    rw [show a + (k + 1) = (a + k) + 1 by omega, remn, if_neg (by have := h2 (k + 1) (by omega) (by omega); rwa [show a + (k + 1) = a + k + 1 by omega] at this), ih, h1 (a + k) (by omega) (by omega)]
    simp
theorem rem_down {A : Nat → Bool} {C : Nat → Nat} {T a : Nat} : ∀ k, (∀ t, a ≤ t → t < a + k → A t = true) → (∀ i, 0 < i → i ≤ k → (a + i) % T ≠ 0) → remn A C T (a + k) = remn A C T a - k
  | 0, _, _ => rfl
  | k + 1, h1, h2 => by
    have ih := rem_down (C := C) k (fun t ht1 ht2 => h1 t ht1 (by omega)) (fun i hi1 hi2 => h2 i hi1 (by omega))
    rw [show a + (k + 1) = (a + k) + 1 by omega, remn, if_neg (by have := h2 (k + 1) (by omega) (by omega); rwa [show a + (k + 1) = a + k + 1 by omega] at this), ih, h1 (a + k) (by omega) (by omega)]
    simp
    omega
theorem rem_none {A : Nat → Bool} {C : Nat → Nat} {T a : Nat} (h0 : remn A C T a = 0) : ∀ k, (∀ i, 0 < i → i ≤ k → (a + i) % T ≠ 0) → remn A C T (a + k) = 0
  | 0, _ => h0
  | k + 1, h2 => by
    have ih := rem_none h0 k (fun i hi1 hi2 => h2 i hi1 (by omega))
    rw [show a + (k + 1) = (a + k) + 1 by omega, remn, if_neg (by have := h2 (k + 1) (by omega) (by omega); rwa [show a + (k + 1) = a + k + 1 by omega] at this), ih]
    omega

/-- between two neighbouring multiples there is none -/
theorem no_mult {T r n i : Nat} (hr : r % T = 0) (hT : 0 < T) (hn : n < r) (hb : r ≤ n + T) (h0 : 0 < i) (hi : n + i < r) : (n + i) % T ≠ 0 := by
  intro h
  have e1 : r = T * (r / T) := by have := Nat.div_add_mod r T; omega
  have e2 : n + i = T * ((n + i) / T) := by have := Nat.div_add_mod (n + i) T; omega
  have h1 : (n + i) / T < r / T := by
    apply Decidable.byContradiction
    intro hh
    have : r / T ≤ (n + i) / T := by omega
    have := Nat.mul_le_mul_left T this
    omega
  have h2 : T * ((n + i) / T + 1) ≤ T * (r / T) := Nat.mul_le_mul_left T h1
  rw [Nat.mul_add, Nat.mul_one] at h2
  omega

theorem J.start (T C : Nat) (A : Nat → Bool) (hT : 0 < T) (hC : 0 < C) : J A 0 ⟨T, C, 0, 0, 0, 0⟩ :=
  ⟨hT, hC, Nat.zero_mod _, .inl ⟨rfl, rfl⟩, fun s h0 h1 => by simp at h1, rfl, fun _ => ⟨fun _ => rfl, fun h => by simp at h, fun t _ h => by omega⟩, fun h => by simp at h⟩
/-- one release is done -/
theorem J.catch {A : Nat → Bool} {now : Nat} {w : Wk} (h : J A now w) (hr : w.release ≤ now) (hl : w.left = 0) : J A now { w with left := w.C, released := w.release, release := w.release + w.T } := by
  obtain ⟨p1, p2, p3⟩ := h.pend hr
  have hT := h.pT
  have hq : remn A (fun _ => w.C) w.T w.release = w.C := rem_at h.div
  refine ⟨h.pT, h.pC, ?_, .inr rfl, ?_, h.wo, ?_, ?_⟩
  · show (w.release + w.T) % w.T = 0
    rw [Nat.add_mod_right]; exact h.div
  · intro s h0 h1 h2
    show Rp.aft A (fun _ => w.C) w.T (s - 1) = 0
    have h1' : s < w.release + w.T := h1
    rcases Nat.lt_trichotomy s w.release with hs | hs | hs
    · exact h.ok s h0 hs h2
    · rw [hs]; exact (p2 (by omega)).trans hl
    · exfalso
      have := mod_off (i := s - w.release) h.div (by omega) (by omega)
      rw [show w.release + (s - w.release) = s by omega] at this
      exact this h2
  · intro hh
    have hh' : w.release + w.T ≤ now := hh
    refine ⟨fun e => by have : w.release + w.T = 0 := e; omega, fun _ => ?_, fun t ht1 ht2 => p3 t (by have : w.release + w.T ≤ t := ht1; omega) ht2⟩
    show Rp.aft A (fun _ => w.C) w.T (w.release + w.T - 1) = w.C
    have := rem_still (A := A) (C := fun _ => w.C) (T := w.T) (a := w.release) (w.T - 1) (fun t ht1 ht2 => p3 t ht1 (by omega)) (fun i hi1 hi2 => mod_off h.div hi1 (by omega))
    unfold Rp.aft
    rw [show w.release + w.T - 1 = w.release + (w.T - 1) by omega, this, hq, p3 _ (by omega) (by omega)]
    simp
  · intro hh
    have hh' : now < w.release + w.T := hh
    refine ⟨?_, by show w.release + w.T ≤ now + w.T; omega⟩
    show w.C = remn A (fun _ => w.C) w.T now
    have := rem_still (A := A) (C := fun _ => w.C) (T := w.T) (a := w.release) (now - w.release) (fun t ht1 ht2 => p3 t ht1 (by omega)) (fun i hi1 hi2 => mod_off h.div hi1 (by omega))
    rw [show w.release + (now - w.release) = now by omega] at this
    rw [this, hq]
/-- a release at which it is late -/
theorem J.late {A : Nat → Bool} {now ar : Nat} {w : Wk} (h : J A now w) (har : ar ≤ now) (hr : w.release ≤ ar) (hl : 0 < w.left) : ¬ okE A (fun _ => w.C) w.T ar := fun ho => by
  obtain ⟨p1, p2, p3⟩ := h.pend (by omega)
  by_cases h0 : w.release = 0
  · have := p1 h0; omega
  · have := ho w.release (by omega) hr h.div
    have e := p2 (by omega)
    have e' : Rp.aft A (fun _ => w.C) w.T (w.release - 1) = w.left := e
    omega
theorem J.okd {A : Nat → Bool} {now : Nat} {w : Wk} (h : J A now w) (hr : now < w.release) : okE A (fun _ => w.C) w.T now := fun s h0 h1 h2 => h.ok s h0 (by omega) h2

theorem wrst_still {A : Nat → Bool} {C : Nat → Nat} {T a : Nat} : ∀ k, (∀ t, a ≤ t → t < a + k → ends A C T t = false) → wrst A C T (a + k) = wrst A C T a
  | 0, _ => rfl
  | k + 1, h => by
    rw [show a + (k + 1) = (a + k) + 1 by omega, wrst, if_neg (by rw [h (a + k) (by omega) (by omega)]; simp), wrst_still k (fun t h1 h2 => h t h1 (by omega))]
/-- ticks that are not there -/
theorem J.skip {A : Nat → Bool} {now now' : Nat} {w : Wk} (h : J A now w) (hn : now ≤ now') (hA : ∀ t, now ≤ t → t < now' → A t = false) : J A now' w := by
  obtain ⟨k, rfl⟩ : ∃ k, now' = now + k := ⟨now' - now, by omega⟩
  refine ⟨h.pT, h.pC, h.div, h.rel, h.ok, ?_, ?_, ?_⟩
  · rw [h.wo, wrst_still k (fun t h1 h2 => by unfold ends; rw [hA t h1 h2]; rfl)]
  · intro hr
    by_cases hh : w.release ≤ now
    · obtain ⟨p1, p2, p3⟩ := h.pend hh
      refine ⟨p1, p2, fun t h1 h2 => ?_⟩
      by_cases ht : t < now
      · exact p3 t h1 ht
      · exact hA t (by omega) h2
    · obtain ⟨q1, q2⟩ := h.ahead (by omega)
      refine ⟨fun e => by omega, fun _ => ?_, fun t h1 h2 => hA t (by omega) h2⟩
      have := rem_still (A := A) (C := fun _ => w.C) (T := w.T) (a := now) (w.release - 1 - now) (fun t h1 h2 => hA t h1 (by omega)) (fun i hi1 hi2 => no_mult h.div h.pT (by omega) q2 hi1 (by omega))
      show Rp.aft A (fun _ => w.C) w.T (w.release - 1) = w.left
      unfold Rp.aft
      rw [show w.release - 1 = now + (w.release - 1 - now) by omega, this, hA _ (by omega) (by omega), q1]
      simp
  · intro hr
    obtain ⟨q1, q2⟩ := h.ahead (by omega)
    have := rem_still (A := A) (C := fun _ => w.C) (T := w.T) (a := now) k hA (fun i hi1 hi2 => no_mult h.div h.pT (by omega) q2 hi1 (by omega))
    exact ⟨by rw [q1]; exact this.symm, by omega⟩
/-- nothing to do -/
theorem J.idle {A : Nat → Bool} {now now' : Nat} {w : Wk} (h : J A now w) (hr : now < w.release) (hl : w.left = 0) (hn : now ≤ now') (hn' : now' ≤ w.release) : J A now' w ∧ ∀ t, now ≤ t → t < now' → w.rem A t = 0 := by
  obtain ⟨q1, q2⟩ := h.ahead hr
  have q0 : remn A (fun _ => w.C) w.T now = 0 := by rw [← hl]; exact q1.symm
  have hz : ∀ t, now ≤ t → t < w.release → remn A (fun _ => w.C) w.T t = 0 := fun t h1 h2 => by
    have := rem_none q0 (t - now) (fun i hi1 hi2 => no_mult h.div h.pT hr q2 hi1 (by omega))
    rwa [show now + (t - now) = t by omega] at this
  refine ⟨?_, fun t h1 h2 => hz t h1 (by omega)⟩
  obtain ⟨k, rfl⟩ : ∃ k, now' = now + k := ⟨now' - now, by omega⟩
  refine ⟨h.pT, h.pC, h.div, h.rel, h.ok, ?_, ?_, ?_⟩
  · rw [h.wo, wrst_still k (fun t h1 h2 => by unfold ends; rw [hz t h1 (by omega)]; simp)]
  · intro hh
    refine ⟨fun e => by omega, fun _ => ?_, fun t h1 h2 => by omega⟩
    show Rp.aft A (fun _ => w.C) w.T (w.release - 1) = w.left
    unfold Rp.aft
    rw [hz (w.release - 1) (by omega) (by omega), hl]
    simp
  · intro hh
    exact ⟨by rw [hl]; exact (hz _ (by omega) hh).symm, by omega⟩
/-- some instructions are done -/
theorem J.work {A : Nat → Bool} {now k : Nat} {w : Wk} (h : J A now w) (hr : now < w.release) (hk0 : 0 < k) (hk : k ≤ w.left) (hn : now + k ≤ w.release) (hA : ∀ t, now ≤ t → t < now + k → A t = true) :
    J A (now + k) { w with left := w.left - k, worst := if w.left = k then max w.worst (now + k - w.released) else w.worst } ∧ ∀ t, now ≤ t → t < now + k → 0 < w.rem A t := by
  obtain ⟨q1, q2⟩ := h.ahead hr
  have q1' : remn A (fun _ => w.C) w.T now = w.left := q1.symm
  have hd : ∀ i, i ≤ k → now + i < w.release → remn A (fun _ => w.C) w.T (now + i) = w.left - i := fun i hi hlt => by
    rw [rem_down i (fun t h1 h2 => hA t h1 (by omega)) (fun j hj1 hj2 => no_mult h.div h.pT hr q2 hj1 (by omega)), q1']
  have hp : ∀ t, now ≤ t → t < now + k → 0 < remn A (fun _ => w.C) w.T t := fun t h1 h2 => by
    have := hd (t - now) (by omega) (by omega)
    rw [show now + (t - now) = t by omega] at this
    omega
  refine ⟨?_, hp⟩
  have hrl : w.released + w.T = w.release := by
    rcases h.rel with e | e
    · omega
    · exact e
  refine ⟨h.pT, h.pC, h.div, h.rel, h.ok, ?_, ?_, ?_⟩
  · show (if w.left = k then max w.worst (now + k - w.released) else w.worst) = wrst A (fun _ => w.C) w.T (now + k)
    obtain ⟨m, rfl⟩ : ∃ m, k = m + 1 := ⟨k - 1, by omega⟩
    have e0 : wrst A (fun _ => w.C) w.T (now + m) = w.worst := by
      rw [h.wo]
      refine wrst_still m (fun t h1 h2 => ?_)
      have := hd (t - now) (by omega) (by omega)
      rw [show now + (t - now) = t by omega] at this
      unfold ends
      rw [this, decide_eq_false (by omega), Bool.and_false]
    have e1 : ends A (fun _ => w.C) w.T (now + m) = decide (w.left = m + 1) := by
      unfold ends
      rw [hd m (by omega) (by omega), hA (now + m) (by omega) (by omega), Bool.true_and]
      by_cases e : w.left = m + 1
      · rw [decide_eq_true e, decide_eq_true (by omega)]
      · rw [decide_eq_false e, decide_eq_false (by omega)]
    have e2 : (now + m) % w.T + 1 = now + (m + 1) - w.released := by
      have hdv : w.released % w.T = 0 := by
        have := h.div
        rw [← hrl, Nat.add_mod_right] at this
        exact this
      have : now + m = w.released + (now + m - w.released) := by omega
      rw [this, Nat.add_mod, hdv, Nat.zero_add, Nat.mod_mod, Nat.mod_eq_of_lt (by omega)]
      omega
    rw [show now + (m + 1) = (now + m) + 1 by omega, wrst, e1, e0]
    by_cases e : w.left = m + 1
    · rw [if_pos e, if_pos (decide_eq_true e), e2]
      rw [show now + (m + 1) - w.released = now + m + 1 - w.released by omega]
    · rw [if_neg e, if_neg (by rw [decide_eq_false e]; simp)]
  · intro hh
    have hh' : w.release ≤ now + k := hh
    refine ⟨fun e => by have : w.release = 0 := e; omega, fun _ => ?_, fun t h1 h2 => by have : w.release ≤ t := h1; omega⟩
    show Rp.aft A (fun _ => w.C) w.T (w.release - 1) = w.left - k
    unfold Rp.aft
    have := hd (k - 1) (by omega) (by omega)
    rw [show w.release - 1 = now + (k - 1) by omega, this, hA _ (by omega) (by omega)]
    simp
    omega
  · intro hh
    have hh' : now + k < w.release := hh
    exact ⟨(hd k (Nat.le_refl _) hh').symm, by show w.release ≤ now + k + w.T; omega⟩
/-- at the end: what is released there is not asked -/
theorem J.fin_ok {A : Nat → Bool} {E : Nat} {w : Wk} (h : J A E w) (hr : w.release = E) (h0 : 0 < E) : (w.left = 0 ↔ okE A (fun _ => w.C) w.T E) := by
  obtain ⟨p1, p2, p3⟩ := h.pend (by omega)
  have e : Rp.aft A (fun _ => w.C) w.T (w.release - 1) = w.left := p2 (by omega)
  constructor
  · intro hl s h1 h2 h3
    by_cases hs : s = E
    · rw [hs, ← hr, e]; exact hl
    · exact h.ok s h1 (by omega) h3
  · intro ho
    have := ho w.release (by omega) (by omega) h.div
    omega
end Go.Proofs.YtnmhcnppdhdhfaaGreatDoor.Rp

namespace Go.Proofs.YtnmhcnppdhdhfaaGreatDoor
open Go.RowKit
set_option linter.unusedVariables false
set_option maxRecDepth 100000

/-- a byte as a value -/
def bv (x : Nat) : Value := .int .u8 (x : Int)
theorem bv_one (xs : List Nat) : ∀ u ∈ xs.map bv, u.oneCell' = true := by
  intro u hu; rw [List.mem_map] at hu; obtain ⟨i, _, rfl⟩ := hu; rfl
theorem one_one (k : IntKind) (x : Int) : ∀ u ∈ [Value.int k x], u.oneCell' = true := by
  intro u hu; simp at hu; subst hu; rfl
theorem bv_get {xs : List Nat} {i : Nat} (h : i < xs.length) : (xs.map bv)[i]? = some (bv (xs.getD i 0)) := by
  simp [List.getD, h]

theorem cell_lt {w : World} {a : Addr} {v : Value} (h : w.cell? a = some v) : a.block < w.heap.size := by
  apply Decidable.byContradiction
  intro hn
  have : w.heap[a.block]? = none := by simp; omega
  simp [World.cell?, this] at h
theorem heap_lt {w : World} {b : Nat} {o : Obj} (h : w.heap[b]? = some o) : b < w.heap.size := (Array.getElem?_eq_some_iff.1 h).1
theorem add_none (b o j : Nat) : (Addr.add ⟨b, o, none⟩ j) = ⟨b, o + j, none⟩ := by
  by_cases h : j = 0
  · subst h; simp [Addr.add]
  · simp [Addr.add, h]

/-- What was there and lies outside F is as it was. -/
structure Kept (F : Nat → Prop) (w w' : World) : Prop where
  os : w'.os = w.os
  tape : w'.tape = w.tape
  output : w'.output = w.output
  size : w.heap.size ≤ w'.heap.size
  block : ∀ k, k < w.heap.size → ¬ F k → w'.heap[k]? = w.heap[k]?

/-- F, or new since w -/
def Or' (F : Nat → Prop) (w : World) (k : Nat) : Prop := F k ∨ w.heap.size ≤ k
def No : Nat → Prop := fun _ => False
def Two (F G : Nat → Prop) : Nat → Prop := fun k => F k ∨ G k

namespace Kept
variable {F G : Nat → Prop} {a b c w w' : World}
theorem refl (F : Nat → Prop) (w : World) : Kept F w w := ⟨rfl, rfl, rfl, Nat.le_refl _, fun _ _ _ => rfl⟩
theorem trans (h : Kept F a b) (k : Kept G b c) (hG : ∀ k, G k → F k ∨ a.heap.size ≤ k) : Kept F a c :=
  ⟨k.os.trans h.os, k.tape.trans h.tape, k.output.trans h.output, Nat.le_trans h.size k.size, fun i hi hF =>
    (k.block i (Nat.lt_of_lt_of_le hi h.size) (fun hg => by rcases hG i hg with h1 | h1; exact hF h1; omega)).trans (h.block i hi hF)⟩
theorem mono (h : Kept F a b) (hF : ∀ k, F k → G k) : Kept G a b := ⟨h.os, h.tape, h.output, h.size, fun i hi hG => h.block i hi (fun h => hG (hF i h))⟩
theorem of_below (h : Below w.heap.size w w') : Kept F w w' := ⟨h.os, h.tape, h.output, h.size, fun k hk _ => h.block k hk⟩
theorem of_belowN {B : Nat} (h : Below B w w') (hF : ∀ k, B ≤ k → k < w.heap.size → F k) : Kept F w w' :=
  ⟨h.os, h.tape, h.output, h.size, fun k hk hn => h.block k (Nat.lt_of_not_le fun hB => hn (hF k hB hk))⟩
theorem below (h : Kept F w w') {B : Nat} (hF : ∀ k, F k → B ≤ k) (hB : B ≤ w.heap.size) : Below B w w' :=
  ⟨h.os, h.tape, h.output, h.size, fun k hk => h.block k (by omega) (fun hf => by have := hF k hf; omega)⟩
theorem below0 (h : Kept No w w') : Below w.heap.size w w' := h.below (fun _ h => h.elim) (Nat.le_refl _)
theorem alloc (h : Kept F a w) (o : Obj) : Kept F a (w.alloc o) :=
  ⟨h.os, h.tape, h.output, by have := h.size; simp; omega, fun k hk hF => (Below.heap_alloc _ _ _ (by have := h.size; omega)).trans (h.block k hk hF)⟩
theorem setCell (h : Kept F a w) {p : Addr} (hp : F p.block ∨ a.heap.size ≤ p.block) (u : Value) : Kept F a (w.setCell p u) :=
  ⟨h.os, h.tape, h.output, by have := h.size; simpa [World.setCell] using this, fun k hk hF => (Below.heap_setCell _ _ _ _ (fun e => by subst e; rcases hp with h1 | h1; exact hF h1; omega)).trans (h.block k hk hF)⟩
theorem drewN (h : Kept F a w) (n : Nat) : Kept F a (w.drewN n) := ⟨h.os, h.tape, h.output, h.size, h.block⟩
theorem drew (h : Kept F a w) : Kept F a w.drew := ⟨h.os, h.tape, h.output, h.size, h.block⟩
theorem grown {row : Option Nat} (h : Kept F a w) (hg : w.grownBy w' row) (hr : ∀ k, row = some k → F k ∨ a.heap.size ≤ k) : Kept F a w' :=
  h.trans (G := fun k => row = some k) ⟨hg.os, hg.tape, hg.output, hg.size, fun k hk hn => hg.block k hk (fun e => hn e.symm)⟩ hr
theorem at' (h : Kept F w w') {k : Nat} {o : Obj} (ho : w.heap[k]? = some o) (hF : ¬ F k) : w'.heap[k]? = some o := (h.block k (heap_lt ho) hF).trans ho
theorem cell (h : Kept F w w') {p : Addr} {v : Value} (hv : w.cell? p = some v) (hF : ¬ F p.block) : w'.cell? p = some v :=
  (World.cell?_of_block (h.block _ (cell_lt hv) hF)).trans hv
theorem owns (h : Kept F w w') {base : Nat} {e : TypeId} {size : Nat} {v : Value} {n : Nat} {xs : List Value} (ho : w.ownsRow base e size v n xs) (hF : ∀ g, v.ownBlock = some g → ¬ F g) : w'.ownsRow base e size v n xs := by
  refine ⟨ho.1, ?_⟩
  rcases ho.2 with h1 | ⟨g, cap, cur, hv, hb, hg, r⟩
  · exact .inl h1
  · exact .inr ⟨g, cap, cur, hv, hb, h.at' hg (hF g (by rw [hv]; rfl)), r⟩
end Kept

/-- an owned row, its cells by index -/
theorem owns_cells {w : World} {base : Nat} {e : TypeId} {v : Value} {n : Nat} {xs : List Value} (h : w.ownsRow base e 1 v n xs) :
    (v = .slice none 0 0 ∧ n = 0) ∨ ∃ g cap, v = .slice (some ⟨g, 0, none⟩) n cap ∧ base ≤ g ∧ g < w.heap.size ∧ n ≤ cap ∧ cap ≤ maxLen ∧ (∀ i u, xs[i]? = some u → w.cell? ⟨g, i, none⟩ = some u) ∧ ∀ i, w.frozen? ⟨g, i, none⟩ = false := by
  have hc := h
  obtain ⟨_, h1 | ⟨g, cap, cur, rfl, hb, hg, hn, hm, _, _⟩⟩ := h
  · exact .inl h1
  · refine .inr ⟨g, cap, rfl, hb, ?_, hn, hm, ?_, ?_⟩
    · exact (hc.lt g rfl).2
    · intro i u hu
      have := hc.cells (g := g) rfl i u hu
      rw [add_none, Nat.zero_add] at this
      exact this
    · intro i; simp [World.frozen?, hg]

/-- v is a slice of the bytes xs (nil too); where there is a byte, they lie in a block of F. -/
structure Bs (w : World) (F : Nat → Prop) (a : Option Addr) (n c : Nat) (xs : List Nat) : Prop where
  len : xs.length = n
  cap : n ≤ c
  max : c ≤ 9223372036854775807
  nil : a = none → c = 0
  at' : ∀ i, i < n → ∃ b o, a = some ⟨b, o, none⟩ ∧ F b ∧ w.cell? ⟨b, o + i, none⟩ = some (bv (xs.getD i 0))
  lt : ∀ x ∈ xs, x < 256

namespace Bs
variable {w w' : World} {F G : Nat → Prop} {a : Option Addr} {n c : Nat} {xs : List Nat}
theorem kept (h : Bs w F a n c xs) (k : Kept G w w') (hd : ∀ b, F b → ¬ G b) : Bs w' F a n c xs :=
  ⟨h.len, h.cap, h.max, h.nil, fun i hi => by obtain ⟨b, o, e, hb, hc⟩ := h.at' i hi; exact ⟨b, o, e, hb, k.cell hc (hd b hb)⟩, h.lt⟩
theorem mono (h : Bs w F a n c xs) (hF : ∀ k, F k → G k) : Bs w G a n c xs :=
  ⟨h.len, h.cap, h.max, h.nil, fun i hi => by obtain ⟨b, o, e, hb, hc⟩ := h.at' i hi; exact ⟨b, o, e, hF b hb, hc⟩, h.lt⟩
theorem news {ad : Addr} (h : Bs w F (some ad) n c xs) : ∀ j u, (xs.map bv)[j]? = some u → w.cell? (ad.add j) = some u := by
  intro j u hj
  by_cases hl : j < n
  · rw [bv_get (by rw [h.len]; exact hl)] at hj
    obtain ⟨b, o, e, _, hc⟩ := h.at' j hl
    simp only [Option.some.injEq] at e
    subst e
    rw [add_none, hc]; exact hj
  · have : (xs.map bv)[j]? = none := by simp [h.len]; omega
    rw [this] at hj; cases hj
end Bs

theorem Bs.of_owns {w : World} {base : Nat} {e : TypeId} {v : Value} {xs : List Nat} (h : w.ownsRow base e 1 v xs.length (xs.map bv)) (hl : ∀ x ∈ xs, x < 256) :
    ∃ a c, v = .slice a xs.length c ∧ Bs w (fun g => v.ownBlock = some g) a xs.length c xs := by
  rcases owns_cells h with ⟨rfl, h0⟩ | ⟨g, cap, rfl, hb, hg, hn, hm, hc, hf⟩
  · refine ⟨none, 0, by rw [h0], ⟨rfl, by omega, by omega, fun _ => rfl, fun i hi => by omega, hl⟩⟩
  · refine ⟨_, cap, rfl, ⟨rfl, hn, hm, fun h => (by cases h), fun i hi => ⟨g, 0, rfl, rfl, ?_⟩, hl⟩⟩
    rw [Nat.zero_add]
    exact hc i _ (bv_get hi)

end Go.Proofs.YtnmhcnppdhdhfaaGreatDoor
