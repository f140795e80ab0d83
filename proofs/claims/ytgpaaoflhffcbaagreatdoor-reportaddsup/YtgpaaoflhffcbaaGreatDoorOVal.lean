/-
  Servers that may be: what check.Hyper's yes tells.
-/
import Derived.Test.YtgpaaoflhffcbaaGreatDoorCHyp2
import Derived.Test.YtgpaaoflhffcbaaGreatDoorONext
namespace Go.Proofs.YtgpaaoflhffcbaaGreatDoor
open Go.RowKit Plain
set_option linter.unusedVariables false
set_option maxRecDepth 100000

def gs (xs : List Srv) (i : Nat) : Srv := xs.getD i ⟨0, 0, 0, 0⟩
def sys (xs : List Srv) : Rule.Sys := ⟨xs.length, fun i => (gs xs i).p.toNat, fun i => (gs xs i).b.toNat, fun i => (gs xs i).o.toNat, fun i => (gs xs i).q⟩
/-- the hyperperiod -/
def hyp (xs : List Srv) : Nat := (lcmV (zP xs) xs.length 1048576).toNat

structure Vd (xs : List Srv) : Prop where
  num : xs.length ≤ 32
  per : ∀ i, i < xs.length → 1 ≤ (gs xs i).p ∧ (gs xs i).p ≤ 1048576
  bud : ∀ i, i < xs.length → 1 ≤ (gs xs i).b ∧ (gs xs i).b ≤ (gs xs i).p
  off : ∀ i, i < xs.length → 0 ≤ (gs xs i).o ∧ (gs xs i).o < (gs xs i).p
  inj : ∀ i j, i < xs.length → j < xs.length → (gs xs i).q = (gs xs j).q → i = j
  hyp1 : 1 ≤ hyp xs
  hyp2 : hyp xs ≤ 1048576
  dvd : ∀ i, i < xs.length → (gs xs i).p.toNat ∣ hyp xs

theorem Vd.bd {xs : List Srv} (h : Vd xs) : Bd (sys xs) := by
  refine ⟨⟨fun i hi => ?_, fun i hi => ?_, fun i j hi hj e => h.inj i j hi hj e⟩, fun i hi => ?_, fun i hi => ?_, h.num⟩
  · have := h.per i hi; show 0 < (gs xs i).p.toNat; omega
  · have := h.off i hi; show (gs xs i).o.toNat < (gs xs i).p.toNat; omega
  · have := h.per i hi; show (gs xs i).p.toNat ≤ _; omega
  · have := h.bud i hi; have := h.per i hi; show (gs xs i).b.toNat ≤ _; omega

theorem inB_of {n lo hi : Int} (h : inB n lo hi = true) : lo ≤ n ∧ n ≤ hi := by simpa [inB] using h
theorem idxF_m1 {ys : List Srv} {q : Int} : ∀ {n : Nat}, ¬ 0 ≤ idxF ys q n → idxF ys q n = -1
  | 0, _ => rfl
  | n + 1, h => by
    rw [idxF] at h ⊢
    by_cases h1 : idxF ys q n = -1
    · rw [if_pos h1] at h ⊢
      by_cases h2 : (ys.getD n ⟨0, 0, 0, 0⟩).q = q
      · rw [if_pos h2] at h; omega
      · rw [if_neg h2]
    · rw [if_neg h1] at h ⊢
      exact idxF_m1 h
theorem idxF_neg {ys : List Srv} {q : Int} : ∀ {n : Nat}, ¬ 0 ≤ idxF ys q n → ∀ j, j < n → (ys.getD j ⟨0, 0, 0, 0⟩).q ≠ q
  | 0, _, j, hj => by omega
  | n + 1, h, j, hj => by
    rw [idxF] at h
    by_cases h1 : idxF ys q n = -1
    · rw [if_pos h1] at h
      by_cases h2 : (ys.getD n ⟨0, 0, 0, 0⟩).q = q
      · rw [if_pos h2] at h; omega
      · by_cases e : j = n
        · subst e; exact h2
        · exact idxF_neg (by rw [h1]; omega) j (by omega)
    · rw [if_neg h1] at h
      exfalso
      exact h1 (idxF_m1 h)
theorem vd_of {xs : List Srv} (h : timF xs xs.length = none) : Vd xs := by
  have hf := tim_none h
  have hf' := hf
  unfold findF at hf'
  by_cases h32 : xs.length ≤ 32
  · rw [if_pos h32] at hf'
    have key : ∀ i, i < xs.length → ∀ j, j < 5 → bS xs i j = true := fun i hi j hj => by
      have := rowsF_zero (eachF_none hf' i hi) j hj
      by_cases hb : bS xs i j = true
      · exact hb
      · rw [if_neg hb] at this; omega
    have hb : lcmB (zP xs) xs.length 1048576 = true := by
      unfold timF at h
      rw [hf] at h
      unfold togF at h
      by_cases hb : lcmB (zP xs) xs.length 1048576 = true
      · exact hb
      · rw [if_neg hb] at h; cases h
    unfold lcmB at hb
    have hpos := of_decide_eq_true hb
    have hl := lcmV_facts (zP xs) xs.length 1048576
    have hper : ∀ i, i < xs.length → 1 ≤ (gs xs i).p ∧ (gs xs i).p ≤ 1048576 := fun i hi => by
      have := key i hi 0 (by omega)
      exact inB_of this
    refine ⟨h32, hper, fun i hi => ?_, fun i hi => ?_, ?_, ?_, ?_, fun i hi => ?_⟩
    · have := key i hi 1 (by omega)
      exact inB_of this
    · have := key i hi 2 (by omega)
      have hp := hper i hi
      have e : wrap64 ((gs xs i).p - 1) = (gs xs i).p - 1 := by unfold wrap64; omega
      have h2 : (0 ≤ (gs xs i).o) ∧ (gs xs i).o ≤ wrap64 ((gs xs i).p - 1) := inB_of this
      rw [e] at h2
      omega
    · have hq : ∀ i j, i < xs.length → j < i → (gs xs i).q ≠ (gs xs j).q := fun i j hi hj e => by
        have := key i hi 4 (by omega)
        simp only [bS, Bool.not_eq_true', decide_eq_false_iff_not] at this
        have h2 := idxF_neg this j hj
        apply h2
        have e2 : (xs.take i).getD j ⟨0, 0, 0, 0⟩ = xs.getD j ⟨0, 0, 0, 0⟩ := by
          rw [List.getD_eq_getElem?_getD, List.getD_eq_getElem?_getD, List.getElem?_take, if_pos hj]
        rw [e2]
        exact e.symm
      intro i j hi hj e
      rcases Nat.lt_trichotomy i j with h1 | h1 | h1
      · exact (hq j i hj h1 e.symm).elim
      · exact h1
      · exact (hq i j hi h1 e).elim
    · unfold hyp; omega
    · unfold hyp; have := (hl.2.1 hpos).1; omega
    · have := ((hl.2.1 hpos).2 i hi)
      have h1 : (gs xs i).p ∣ lcmV (zP xs) xs.length 1048576 := this.2
      have hp := (hper i hi).1
      unfold hyp
      rw [← Int.natCast_dvd_natCast, Int.toNat_of_nonneg (by omega), Int.toNat_of_nonneg (by omega)]
      exact h1
  · rw [if_neg h32] at hf'; cases hf'
end Go.Proofs.YtgpaaoflhffcbaaGreatDoor
