/-
  A channel's ticks: plain mathematics (no dump).
-/
import Derived.Test.YtfjaajjljmbmbaaGreatDoorNTicks
namespace Go.Proofs.YtfjaajjljmbmbaaGreatDoor.Plain
open Go Go.RowKit

def tfB (k f ph pe t : Int) : Bool := if k = 1 ∧ f ≠ 0 then nextB ph pe t && decide (nextV ph pe t < 1099511627776) else false
def tfV (k f ph pe t : Int) : Int := if k = 1 ∧ f ≠ 0 then nextV ph pe t else 0
def dueB (k f ph pe t : Int) : Bool := tfB k f ph pe t && decide (tfV k f ph pe t = t)
def nxtV (k f ph pe t : Int) : Int := if tfB k f ph pe t = true then tfV k f ph pe t else -1
/-- it takes messages -/
def Tk (k f ph pe : Int) : Prop := k = 1 ∧ f ≠ 0 ∧ 1 ≤ pe ∧ 0 ≤ ph
instance (k f ph pe : Int) : Decidable (Tk k f ph pe) := inferInstanceAs (Decidable (_ ∧ _))

theorem tf_no {k f ph pe : Int} (t : Int) (h : ¬ Tk k f ph pe) : tfB k f ph pe t = false := by
  unfold tfB Tk at *
  split
  · rename_i hk
    unfold nextB
    rw [if_pos (by omega)]; rfl
  · rfl
theorem tf_yes {k f ph pe : Int} (t : Int) (h : Tk k f ph pe) : tfV k f ph pe t = nextV ph pe t ∧ tfB k f ph pe t = (nextB ph pe t && decide (nextV ph pe t < 1099511627776)) := by
  unfold tfV tfB Tk at *
  rw [if_pos ⟨h.1, h.2.1⟩, if_pos ⟨h.1, h.2.1⟩]; exact ⟨rfl, rfl⟩

theorem due_no {k f ph pe : Int} (t : Int) (h : ¬ Tk k f ph pe) : dueB k f ph pe t = false := by unfold dueB; rw [tf_no t h]; rfl
theorem nxt_no {k f ph pe : Int} (t : Int) (h : ¬ Tk k f ph pe) : nxtV k f ph pe t = -1 := by unfold nxtV; rw [tf_no t h]; rfl

theorem due_iff {k f ph pe : Int} (t : Int) (h : Tk k f ph pe) : dueB k f ph pe t = true ↔ (ph ≤ t ∧ t < 1099511627776 ∧ (t - ph) % pe = 0) := by
  obtain ⟨e1, e2⟩ := tf_yes t h
  unfold dueB
  rw [e1, e2]
  obtain ⟨-, -, hp, ho⟩ := h
  unfold nextV nextB
  have hz : ¬ (ph < 0 ∨ pe < 1) := by omega
  simp only [if_neg hz]
  by_cases h1 : t ≤ ph
  · simp only [if_pos h1, Bool.true_and, Bool.and_eq_true, decide_eq_true_eq]
    constructor
    · rintro ⟨a, rfl⟩; exact ⟨by omega, a, by simp⟩
    · rintro ⟨a, b, c⟩; exact ⟨by omega, by omega⟩
  simp only [if_neg h1]
  by_cases h2 : (t - ph) % pe = 0
  · simp only [if_pos h2, Bool.true_and, Bool.and_eq_true, decide_eq_true_eq]
    exact ⟨fun a => ⟨by omega, a.1, h2⟩, fun a => ⟨a.2.1, trivial⟩⟩
  simp only [if_neg h2]
  have r1 := Int.emod_nonneg (t - ph) (b := pe) (by omega)
  have r2 := Int.emod_lt_of_pos (t - ph) (b := pe) (by omega)
  constructor
  · intro hh
    exfalso
    split at hh
    · simp at hh
    · simp only [Bool.true_and, Bool.and_eq_true, decide_eq_true_eq] at hh; omega
  · rintro ⟨_, _, c⟩; exact absurd c h2

/-- Next, as the document tells it -/
theorem nxt_eq {k f ph pe : Int} (t : Int) (h : Tk k f ph pe) : nxtV k f ph pe t =
    if 1099511627776 ≤ ph then -1 else if t ≤ ph then ph else if 1099511627776 ≤ t then -1 else if (t - ph) % pe = 0 then t else if 1099511627776 - t ≤ pe - (t - ph) % pe then -1 else t + pe - (t - ph) % pe := by
  obtain ⟨e1, e2⟩ := tf_yes t h
  unfold nxtV
  rw [e1, e2]
  obtain ⟨-, -, hp, ho⟩ := h
  unfold nextV nextB
  have hz : ¬ (ph < 0 ∨ pe < 1) := by omega
  simp only [if_neg hz]
  have r1 := Int.emod_nonneg (t - ph) (b := pe) (by omega)
  have r2 := Int.emod_lt_of_pos (t - ph) (b := pe) (by omega)
  generalize (t - ph) % pe = r at *
  by_cases h1 : t ≤ ph
  · simp only [if_pos h1, Bool.true_and, decide_eq_true_eq]
    split <;> split <;> omega
  simp only [if_neg h1]
  by_cases h2 : r = 0
  · simp only [if_pos h2, Bool.true_and, decide_eq_true_eq]
    repeat' split
    all_goals omega
  simp only [if_neg h2]
  by_cases h3 : 9223372036854775807 - t < pe - r
  · simp only [if_pos h3, Bool.false_and]
    repeat' split
    all_goals first | omega | simp at *
  simp only [if_neg h3, Bool.true_and, decide_eq_true_eq]
  repeat' split
  all_goals omega

end Go.Proofs.YtfjaajjljmbmbaaGreatDoor.Plain
