/-
  ChannelOnce: plain mathematics (no dump).
-/
import Derived.Test.YtnoiehlbohmnlaaCTick
namespace Go.Proofs.Ytnoiehlbohmnlaa.Plain
open Go Go.RowKit

/-- Next tells a tick -/
structure NxtY (k f ph pe t N : Int) : Prop where
  ge : t ≤ N
  fr : ph ≤ N
  lt : N < 1099511627776
  md : (N - ph) % pe = 0
  near : ph ≤ t → N - t < pe
  first : t < ph → N = ph

theorem nxt_facts {k f ph pe : Int} (t : Int) (h : Tk k f ph pe) :
    (nxtV k f ph pe t = -1 ∧ (1099511627776 ≤ ph ∨ 1099511627776 ≤ t ∨ (ph < t ∧ 1099511627776 - t ≤ pe)) ∧ dueB k f ph pe t = false) ∨
    (nxtV k f ph pe t ≠ -1 ∧ NxtY k f ph pe t (nxtV k f ph pe t)) := by
  have e := nxt_eq t h
  have d := due_iff t h
  have d' : ∀ p : Prop, ¬ p → (dueB k f ph pe t = true ↔ p) → dueB k f ph pe t = false := fun p hp hd => by
    cases hb : dueB k f ph pe t
    · rfl
    · exact absurd (hd.1 hb) hp
  obtain ⟨-, -, hp, ho⟩ := h
  have r1 := Int.emod_nonneg (t - ph) (b := pe) (by omega)
  have r2 := Int.emod_lt_of_pos (t - ph) (b := pe) (by omega)
  by_cases h0 : 1099511627776 ≤ ph
  · rw [if_pos h0] at e
    exact .inl ⟨e, .inl h0, d' _ (by omega) d⟩
  rw [if_neg h0] at e
  by_cases h1 : t ≤ ph
  · rw [if_pos h1] at e
    refine .inr ⟨by omega, ?_⟩
    rw [e]
    exact ⟨h1, Int.le_refl _, by omega, by simp, fun _ => by omega, fun _ => rfl⟩
  rw [if_neg h1] at e
  by_cases h2 : 1099511627776 ≤ t
  · rw [if_pos h2] at e
    exact .inl ⟨e, .inr (.inl h2), d' _ (by omega) d⟩
  rw [if_neg h2] at e
  by_cases h3 : (t - ph) % pe = 0
  · rw [if_pos h3] at e
    refine .inr ⟨by omega, ?_⟩
    rw [e]
    exact ⟨Int.le_refl _, by omega, by omega, h3, fun _ => by omega, fun _ => by omega⟩
  rw [if_neg h3] at e
  by_cases h4 : 1099511627776 - t ≤ pe - (t - ph) % pe
  · rw [if_pos h4] at e
    exact .inl ⟨e, .inr (.inr ⟨by omega, by omega⟩), d' _ (fun hh => h3 hh.2.2) d⟩
  rw [if_neg h4] at e
  refine .inr ⟨by omega, ?_⟩
  rw [e]
  refine ⟨by omega, by omega, by omega, ?_, fun _ => by omega, fun _ => by omega⟩
  have e2 : t + pe - (t - ph) % pe - ph = pe + pe * ((t - ph) / pe) := by
    have := Int.emod_add_mul_ediv (t - ph) pe
    omega
  rw [e2, show pe + pe * ((t - ph) / pe) = pe * (1 + (t - ph) / pe) by rw [Int.mul_add, Int.mul_one]]
  exact Int.mul_emod_right _ _

theorem NxtY.due {k f ph pe t N : Int} (h : Tk k f ph pe) (y : NxtY k f ph pe t N) : dueB k f ph pe N = true := (due_iff N h).2 ⟨y.fr, y.lt, y.md⟩
theorem NxtY.not {k f ph pe t N : Int} (h : Tk k f ph pe) (y : NxtY k f ph pe t N) {u : Int} (h1 : t ≤ u) (h2 : u < N) : dueB k f ph pe u = false := by
  cases hb : dueB k f ph pe u
  · rfl
  · exfalso
    obtain ⟨a, b, c⟩ := (due_iff u h).1 hb
    have hpe : 1 ≤ pe := h.2.2.1
    by_cases ht : t < ph
    · have := y.first ht; omega
    · have nr := y.near (by omega)
      have hd : (N - u) % pe = 0 := by
        have e : N - u = (N - ph) - (u - ph) := by omega
        rw [e, Int.sub_emod, y.md, c]; simp
      have : (N - u) % pe = N - u := Int.emod_eq_of_lt (by omega) (by omega)
      omega
theorem NxtY.later {k f ph pe t N : Int} (h : Tk k f ph pe) (y : NxtY k f ph pe t N) {g : Int} (hg : 1 ≤ g) (h2 : N + g < 1099511627776) : dueB k f ph pe (N + g) = decide (g % pe = 0) := by
  have e : (N + g - ph) % pe = g % pe := by
    have e1 : N + g - ph = (N - ph) + g := by omega
    rw [e1, Int.add_emod, y.md]; simp
  by_cases hm : g % pe = 0
  · rw [decide_eq_true hm]; exact (due_iff _ h).2 ⟨by have := y.fr; omega, h2, by rw [e]; exact hm⟩
  · rw [decide_eq_false hm]
    cases hb : dueB k f ph pe (N + g)
    · rfl
    · exact absurd (e ▸ ((due_iff _ h).1 hb).2.2) hm
end Go.Proofs.Ytnoiehlbohmnlaa.Plain
