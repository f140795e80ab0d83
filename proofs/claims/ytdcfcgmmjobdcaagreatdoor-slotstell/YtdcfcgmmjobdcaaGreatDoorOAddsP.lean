/-
  Plain, of spans: runs, counts, firsts (no dump).
-/
import Derived.Test.YtdcfcgmmjobdcaaGreatDoorOJoinP
namespace Go.Proofs.YtdcfcgmmjobdcaaGreatDoor
namespace Rule
set_option linter.unusedVariables false

/-- neighbours are unlike -/
def Unlike (L : List (Nat × Nat)) : Prop := ∀ i x y, L[i]? = some x → L[i + 1]? = some y → x.2 ≠ y.2
theorem Unlike.snoc {L : List (Nat × Nat)} (h : Unlike L) (x : Nat × Nat) (hx : ∀ y, L.getLast? = some y → y.2 ≠ x.2) : Unlike (L ++ [x]) := by
  intro i a b ha hb
  have hi : i + 1 < (L ++ [x]).length := (List.getElem?_eq_some_iff.1 hb).1
  simp at hi
  by_cases h1 : i + 1 < L.length
  · rw [List.getElem?_append_left h1] at hb
    rw [List.getElem?_append_left (by omega)] at ha
    exact h i a b ha hb
  · have e : i + 1 = L.length := by omega
    rw [List.getElem?_append_left (by omega)] at ha
    rw [e, List.getElem?_append_right (Nat.le_refl _)] at hb
    simp at hb
    subst hb
    refine hx a ?_
    rw [List.getLast?_eq_getElem?, ← e, Nat.add_sub_cancel]
    exact ha
theorem Unlike.init {L : List (Nat × Nat)} {x : Nat × Nat} (h : Unlike (L ++ [x])) : Unlike L ∧ ∀ y, L.getLast? = some y → y.2 ≠ x.2 := by
  refine ⟨fun i a b ha hb => ?_, fun y hy => ?_⟩
  · have h2 : i + 1 < L.length := (List.getElem?_eq_some_iff.1 hb).1
    exact h i a b (by rw [List.getElem?_append_left (by omega)]; exact ha) (by rw [List.getElem?_append_left h2]; exact hb)
  · rw [List.getLast?_eq_getElem?] at hy
    have hl : L.length - 1 < L.length := (List.getElem?_eq_some_iff.1 hy).1
    refine h (L.length - 1) y x (by rw [List.getElem?_append_left hl]; exact hy) ?_
    rw [show L.length - 1 + 1 = L.length by omega, List.getElem?_append_right (Nat.le_refl _)]
    simp
theorem Unlike.join {L : List (Nat × Nat)} (h : Unlike L) (x : Nat × Nat) : Unlike (joinL L x) := by
  rcases List.eq_nil_or_concat L with rfl | ⟨K, y, rfl⟩
  · rw [joinL_nil]
    intro i a b ha hb
    have := (List.getElem?_eq_some_iff.1 hb).1
    simp at this
  · rw [List.concat_eq_append] at h ⊢
    rw [joinL_snoc]
    obtain ⟨h1, h2⟩ := h.init
    by_cases e : y.2 = x.2
    · rw [if_pos e]
      exact h1.snoc _ (fun z hz => by have := h2 z hz; show z.2 ≠ x.2; rw [← e]; exact this)
    · rw [if_neg e]
      refine h.snoc x (fun z hz => ?_)
      simp at hz
      subst hz
      exact e
theorem runsOf_unlike (f : Nat → Nat) (a m : Nat) : Unlike (runsOf f a m) := by
  induction m with
  | zero => intro i x y h; simp [runsOf] at h
  | succ m ih => exact ih.join _

theorem cnt_run (f : Nat → Nat) (p q t len : Nat) (h : ∀ u, t ≤ u → u < t + len → f u = q) : cnt f p (t + len) = cnt f p t + (if q = p then len else 0) := by
  induction len with
  | zero => simp
  | succ len ih =>
    have := ih (fun u x y => h u x (by omega))
    show cnt f p (t + len) + (if f (t + len) = p then 1 else 0) = _
    rw [this, h (t + len) (by omega) (by omega)]
    split <;> omega
/-- how many ticks from a on, below t, are p's -/
def cI (f : Nat → Nat) (a t p : Nat) : Int := (cnt f p t : Int) - (cnt f p a : Int)
theorem cI_start (f : Nat → Nat) (a p : Nat) : cI f a a p = 0 := by unfold cI; omega
theorem cI_nonneg (f : Nat → Nat) (a t p : Nat) (h : a ≤ t) : 0 ≤ cI f a t p := by unfold cI; have := cnt_mono f p h; omega
theorem cI_le (f : Nat → Nat) (a t p : Nat) (h : a ≤ t) : cI f a t p ≤ (t : Int) - a := by unfold cI; have := cnt_diff f p h; omega
theorem cI_run (f : Nat → Nat) (a t len q p : Nat) (h : ∀ u, t ≤ u → u < t + len → f u = q) : cI f a (t + len) p = cI f a t p + (if q = p then (len : Int) else 0) := by
  unfold cI
  rw [cnt_run f p q t len h]
  split <;> omega
theorem cnt_pos {f : Nat → Nat} {p a t u : Nat} (h1 : a ≤ u) (h2 : u < t) (h : f u = p) : cnt f p a < cnt f p t := by
  have e1 := cnt_mono f p h1
  have e2 : cnt f p (u + 1) ≤ cnt f p t := cnt_mono f p (by omega)
  have e3 : cnt f p (u + 1) = cnt f p u + 1 := by show cnt f p u + (if f u = p then 1 else 0) = _; rw [if_pos h]
  omega
theorem cI_zero {f : Nat → Nat} {a t p : Nat} (h : cI f a t p = 0) : ∀ u, a ≤ u → u < t → f u ≠ p := fun u h1 h2 e => by
  have := cnt_pos h1 h2 e
  unfold cI at h
  omega
theorem cI_pos {f : Nat → Nat} {a t p u : Nat} (h1 : a ≤ u) (h2 : u < t) (h : f u = p) : 0 < cI f a t p := by
  have := cnt_pos h1 h2 h
  unfold cI
  omega
/-- the first tick of p from a on -/
def First (f : Nat → Nat) (p a t : Nat) : Prop := a ≤ t ∧ f t = p ∧ ∀ u, a ≤ u → u < t → f u ≠ p
theorem First.uniq {f : Nat → Nat} {p a t u : Nat} (h : First f p a t) (k : First f p a u) : t = u := by
  apply Decidable.byContradiction
  intro hn
  by_cases hlt : t < u
  · exact k.2.2 t h.1 hlt h.2.1
  · exact h.2.2 u k.1 (by omega) k.2.1
theorem First.near {f : Nat → Nat} {p a t H : Nat} (h1 : 0 < H) (hf : ∀ t, H ≤ t → f (t + H) = f t) (h : First f p a t) : t < a + 2 * H := by
  apply Decidable.byContradiction
  intro hn
  have e := hf (t - H) (by omega)
  rw [show t - H + H = t by omega, h.2.1] at e
  exact h.2.2 (t - H) (by omega) (by omega) e.symm
/-- what the rounds of the first loop know of firsts -/
def Firsts (f : Nat → Nat) (n a t : Nat) (fi : Nat → Int) : Prop := ∀ p, p ≤ n → 0 < cI f a t p → ∃ u : Nat, fi p = u ∧ First f p a u ∧ u < t
theorem Firsts.start (f : Nat → Nat) (n a : Nat) (fi : Nat → Int) : Firsts f n a a fi := fun p _ h => by rw [cI_start] at h; omega
theorem Firsts.old {f : Nat → Nat} {n a t len q : Nat} {fi : Nat → Int} (h : Firsts f n a t fi) (hr : ∀ u, t ≤ u → u < t + len → f u = q) (hq : cI f a t q ≠ 0) (hat : a ≤ t) : Firsts f n a (t + len) fi := fun p hp h0 => by
  rw [cI_run f a t len q p hr] at h0
  have h1 : 0 < cI f a t p := by
    by_cases e : q = p
    · subst e; have := cI_nonneg f a t q hat; omega
    · rw [if_neg e] at h0; omega
  obtain ⟨u, e1, e2, e3⟩ := h p hp h1
  exact ⟨u, e1, e2, by omega⟩
theorem Firsts.new {f : Nat → Nat} {n a t len q : Nat} {fi : Nat → Int} (h : Firsts f n a t fi) (hl : 1 ≤ len) (hr : ∀ u, t ≤ u → u < t + len → f u = q) (hq : cI f a t q = 0) (hat : a ≤ t) : Firsts f n a (t + len) (fun p => if p = q then (t : Int) else fi p) := fun p hp h0 => by
  rw [cI_run f a t len q p hr] at h0
  by_cases e : p = q
  · subst e
    exact ⟨t, by simp, ⟨hat, hr t (Nat.le_refl _) (by omega), cI_zero hq⟩, by omega⟩
  · rw [if_neg (fun h => e h.symm)] at h0
    obtain ⟨u, e1, e2, e3⟩ := h p hp (by omega)
    exact ⟨u, by simp only [if_neg e]; exact e1, e2, by omega⟩
/-- what NextOf answers of a span -/
theorem next_in {f : Nat → Nat} {p a b H : Nat} {x : Int} {fi : Nat → Int} {n : Nat} (h1 : 0 < H) (hf : ∀ t, H ≤ t → f (t + H) = f t) (hab : a ≤ b) (hb : b ≤ 1099511627776) (hp : p ≤ n) (hfi : Firsts f n a b fi)
    (hx : (x = -1 ∧ ∀ u, a ≤ u → u < min (a + 2 * H) 1099511627776 → f u ≠ p) ∨ ∃ t : Nat, x = t ∧ t < min (a + 2 * H) 1099511627776 ∧ First f p a t) :
    (0 < cI f a b p → x = fi p) ∧ (cI f a b p = 0 → x ≠ -1 → (b : Int) ≤ x) := by
  constructor
  · intro h0
    obtain ⟨u, e1, e2, e3⟩ := hfi p hp h0
    rcases hx with ⟨rfl, hno⟩ | ⟨t, rfl, ht, hF⟩
    · exact (hno u e2.1 (by have := e2.near h1 hf; omega) e2.2.1).elim
    · rw [e1, hF.uniq e2]
  · intro h0 hne
    rcases hx with ⟨rfl, hno⟩ | ⟨t, rfl, ht, hF⟩
    · exact (hne rfl).elim
    · apply Decidable.byContradiction
      intro hn
      exact cI_zero h0 t hF.1 (by omega) hF.2.1
end Rule
end Go.Proofs.YtdcfcgmmjobdcaaGreatDoor
