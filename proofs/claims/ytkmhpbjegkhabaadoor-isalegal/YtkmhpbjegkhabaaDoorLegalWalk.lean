/-
  The law IsaLegal.
-/
import Derived.Test.YtkmhpbjegkhabaaDoorLegalLaw
namespace Go.Proofs.YtkmhpbjegkhabaaDoor
open Go.RowKit
set_option linter.unusedVariables false

theorem shape_of (o : Int) (ho : 0 ≤ o ∧ o < 256) : ∃ s, Sh9 s ∧ shV o = ⟨s.toArray⟩ ∧ (kn o = true → s = shs.getD o.toNat []) ∧ s.length ≤ 3 := by
  by_cases hk : 1 ≤ o ∧ o ≤ 27
  · obtain ⟨k, rfl⟩ : ∃ k : Nat, o = (k : Int) + 1 := ⟨(o - 1).toNat, by omega⟩
    have hk2 : k < 27 := by omega
    refine ⟨shs.getD (k + 1) [], sh9 k hk2, sh_yes hk2, fun _ => ?_, sh_size k hk2⟩
    rw [show ((k : Int) + 1).toNat = k + 1 by omega]
  · refine ⟨[], .inl rfl, sh_no hk, fun h => ?_, by decide⟩
    rw [kn_no hk] at h; cases h

theorem jp_mem : ∀ k, k < 27 → decide (0 ≤ Lib.indexByte (shs.getD (k + 1) []) 112) = decide ((112 : UInt8) ∈ shs.getD (k + 1) []) := by decide
theorem jmr_place : (112 : UInt8) ∉ shs.getD 25 [] := by decide
theorem jmr_only : ∀ k, k < 27 → nms.getD (k + 1) [] = [106, 109, 114] → k = 24 := by decide

set_option maxHeartbeats 4000000 in
theorem isaLegal_walk (o a b c n : Int) (ho : 0 ≤ o ∧ o < 256) (ha : 0 ≤ a ∧ a < 256) (hb : 0 ≤ b ∧ b < 256) (hc : 0 ≤ c ∧ c < 256) (hn : -2147483648 ≤ n ∧ n ≤ 2147483647) (w : World) (hO : Ops w) (hT : Pow w) :
    Calls Tryd.prog 6 #[insV o a b c n] w fun ex w' => ex = .returned (.bool true) ∧ Below w.heap.size w w' := by
  obtain ⟨s, h9, hs, hsk, hsl⟩ := shape_of o ho
  have hbx : Below w.heap.size w (box w o a b c n) := (Below.refl _ w).alloc (Nat.le_refl _) _
  have up : ∀ w0, Below (w.heap.size + 1) (box w o a b c n) w0 → Below w.heap.size w w0 := fun w0 h => hbx.trans (h.mono (Nat.le_succ _))
  have hB : w.heap.size + 1 ≤ (box w o a b c n).heap.size := by simp
  have c10 := fun w0 (h : Below (w.heap.size + 1) (box w o a b c n) w0) => shape_any o ho w0 (hO.below (up w0 h) hO.pos)
  have c8 := fun w0 (h : Below (w.heap.size + 1) (box w o a b c n) w0) => name_any o ho w0 (hO.below (up w0 h) hO.pos)
  have c18 := fun w0 (h : Below (w.heap.size + 1) (box w o a b c n) w0) => via (plain_any s h9 o a b c n w0) h hB
  have c19 := fun w0 (h : Below (w.heap.size + 1) (box w o a b c n) w0) => via (jumps_any o a b c n ho ha hb hc hn w0 (hO.below (up w0 h) hO.pos)) h hB
  have c20 := fun w0 (h : Below (w.heap.size + 1) (box w o a b c n) w0) => via (legal_any o a b c n ho ha hb hc w0 (hO.below (up w0 h) hO.pos)) h hB
  have c14 := fun w0 (h : Below (w.heap.size + 1) (box w o a b c n) w0) => via (known_walk w0 (hO.below (up w0 h) hO.pos) (hT.below (up w0 h))) h hB
  rw [hs] at c10
  have hsz : (⟨s.toArray⟩ : ByteArray).size ≤ 3 := by simpa [ByteArray.size] using hsl
  have hP : decide ((112 : UInt8) ∈ s) = decide ((112 : UInt8) ∈ (⟨s.toArray⟩ : ByteArray).data.toList) := by simp
  unfold plV at c18
  cases hk : kn o
  · have hl : lg o a b c n = false := by unfold lg; rw [hk]; rfl
    have hj : jmB o a b c n = false := by unfold jmB; rw [hl]; rfl
    have hN : jmN o a b c n = 0 := by unfold jmN; rw [hl]; rfl
    exact ll_unknown o a b c n _ _ _ _ _ ha hb hc hn w (nmV o) ⟨s.toArray⟩ (kn o) _ _ _ hsz hP c10 c8 c18 c19 c20 c14 hk hl hj hN
  · have hse := hsk hk
    have hl0 : lg o a b c n = lgS s a b c n := by unfold lg; rw [hk, hse]; rfl
    cases hl : lg o a b c n
    · have hj : jmB o a b c n = false := by unfold jmB; rw [hl]; rfl
      have hN : jmN o a b c n = 0 := by unfold jmN; rw [hl]; rfl
      rw [hl] at hl0
      by_cases z1 : (if (97 : UInt8) ∈ s then 0 else a) = 0
      · by_cases z2 : (if (98 : UInt8) ∈ s then 0 else b) = 0
        · by_cases z3 : (if (99 : UInt8) ∈ s then 0 else c) = 0
          · by_cases z4 : (if (110 : UInt8) ∈ s ∨ (112 : UInt8) ∈ s then 0 else n) = 0
            · by_cases h1 : a < 16
              · by_cases h2 : b < 16
                · by_cases h3 : c < 16
                  · exfalso
                    have : lgS s a b c n = true := by
                      unfold lgS
                      apply decide_eq_true
                      refine ⟨?_, ?_, ?_, ?_⟩
                      · by_cases h : (97 : UInt8) ∈ s
                        · rw [if_pos h]; exact h1
                        · rw [if_neg h] at z1 ⊢; exact z1
                      · by_cases h : (98 : UInt8) ∈ s
                        · rw [if_pos h]; exact h2
                        · rw [if_neg h] at z2 ⊢; exact z2
                      · by_cases h : (99 : UInt8) ∈ s
                        · rw [if_pos h]; exact h3
                        · rw [if_neg h] at z3 ⊢; exact z3
                      · by_cases h : (110 : UInt8) ∈ s ∨ (112 : UInt8) ∈ s
                        · rcases h with h | h
                          · exact .inl h
                          · exact .inr (.inl h)
                        · rw [if_neg h] at z4; exact .inr (.inr z4)
                    rw [this] at hl0; cases hl0
                  · exact ll_c16 o a b c n _ _ _ _ _ ha hb hc hn w (nmV o) ⟨s.toArray⟩ (kn o) _ _ _ hsz hP c10 c8 c18 c19 c20 c14 hk hl hj hN z1 z2 z3 z4 h1 h2 (by omega)
                · exact ll_b16 o a b c n _ _ _ _ _ ha hb hc hn w (nmV o) ⟨s.toArray⟩ (kn o) _ _ _ hsz hP c10 c8 c18 c19 c20 c14 hk hl hj hN z1 z2 z3 z4 h1 (by omega)
              · exact ll_a16 o a b c n _ _ _ _ _ ha hb hc hn w (nmV o) ⟨s.toArray⟩ (kn o) _ _ _ hsz hP c10 c8 c18 c19 c20 c14 hk hl hj hN z1 z2 z3 z4 (by omega)
            · exact ll_nn o a b c n _ _ _ _ _ ha hb hc hn w (nmV o) ⟨s.toArray⟩ (kn o) _ _ _ hsz hP c10 c8 c18 c19 c20 c14 hk hl hj hN z1 z2 z3 (beq_false_of_ne z4)
          · exact ll_nc o a b c n _ _ _ _ _ ha hb hc hn w (nmV o) ⟨s.toArray⟩ (kn o) _ _ _ hsz hP c10 c8 c18 c19 c20 c14 hk hl hj hN z1 z2 (beq_false_of_ne z3)
        · exact ll_nb o a b c n _ _ _ _ _ ha hb hc hn w (nmV o) ⟨s.toArray⟩ (kn o) _ _ _ hsz hP c10 c8 c18 c19 c20 c14 hk hl hj hN z1 (beq_false_of_ne z2)
      · exact ll_na o a b c n _ _ _ _ _ ha hb hc hn w (nmV o) ⟨s.toArray⟩ (kn o) _ _ _ hsz hP c10 c8 c18 c19 c20 c14 hk hl hj hN (beq_false_of_ne z1)
    · have hk2 : 1 ≤ o ∧ o ≤ 27 := by unfold kn at hk; simpa using hk
      have hall : lgS s a b c n = true := by rw [← hl0, hl]
      unfold lgS at hall
      obtain ⟨g1, g2, g3, g4⟩ := of_decide_eq_true hall
      have z1 : (if (97 : UInt8) ∈ s then 0 else a) = 0 := by
        by_cases h : (97 : UInt8) ∈ s
        · rw [if_pos h]
        · rw [if_neg h] at g1 ⊢; exact g1
      have z2 : (if (98 : UInt8) ∈ s then 0 else b) = 0 := by
        by_cases h : (98 : UInt8) ∈ s
        · rw [if_pos h]
        · rw [if_neg h] at g2 ⊢; exact g2
      have z3 : (if (99 : UInt8) ∈ s then 0 else c) = 0 := by
        by_cases h : (99 : UInt8) ∈ s
        · rw [if_pos h]
        · rw [if_neg h] at g3 ⊢; exact g3
      have z4 : (if (110 : UInt8) ∈ s ∨ (112 : UInt8) ∈ s then 0 else n) = 0 := by
        by_cases h : (110 : UInt8) ∈ s ∨ (112 : UInt8) ∈ s
        · rw [if_pos h]
        · rw [if_neg h]
          rcases g4 with g | g | g
          · exact absurd (.inl g) h
          · exact absurd (.inr g) h
          · exact g
      have h1 : a < 16 := by split at g1 <;> omega
      have h2 : b < 16 := by split at g2 <;> omega
      have h3 : c < 16 := by split at g3 <;> omega
      obtain ⟨k, hok⟩ : ∃ k : Nat, o = (k : Int) + 1 := ⟨(o - 1).toNat, by omega⟩
      have hk3 : k < 27 := by omega
      have hto : o.toNat = k + 1 := by omega
      have hjp : jp o = decide ((112 : UInt8) ∈ s) := by unfold jp; rw [hto, hse, hto]; exact jp_mem k hk3
      have hnm : nmV o = nmB (k + 1) := by rw [hok]; exact nm_yes hk3
      by_cases h25 : o = 25
      · have hj : jmB o a b c n = true := by unfold jmB; rw [hl, h25]; rfl
        have hN : jmN o a b c n = -1 := by unfold jmN; rw [hl, if_pos rfl, if_pos h25]
        have hPf : decide ((112 : UInt8) ∈ s) = false := by rw [hse, hto, show k + 1 = 25 by omega]; decide
        have hNM : nmV o = ⟨#[106, 109, 114]⟩ := by rw [hnm, show k + 1 = 25 by omega]; rfl
        exact ll_jmr o a b c n _ _ _ _ _ ha hb hc hn w (nmV o) ⟨s.toArray⟩ (kn o) _ _ _ hsz hP c10 c8 c18 c19 c20 c14 hk hl hPf hNM hj hN h1 h2 h3 z1 z2 z3 z4
      · have hNM : ¬ (nmV o).toList = [106, 109, 114] := fun h => by
          rw [ByteArray.toList_eq, hnm] at h
          have := jmr_only k hk3 (by unfold nmB at h; simpa using h)
          omega
        cases hPc : decide ((112 : UInt8) ∈ s)
        · have hj : jmB o a b c n = false := by unfold jmB; rw [hl, hjp, hPc, show (o == 25) = false by simpa using h25]; rfl
          have hN : jmN o a b c n = 0 := by unfold jmN; rw [hl, if_pos rfl, if_neg h25, hjp, hPc]; rfl
          exact ll_stay o a b c n _ _ _ _ _ ha hb hc hn w (nmV o) ⟨s.toArray⟩ (kn o) _ _ _ hsz hP c10 c8 c18 c19 c20 c14 hk hl hPc hNM hj hN h1 h2 h3 z1 z2 z3 z4
        · have hj : jmB o a b c n = true := by unfold jmB; rw [hl, hjp, hPc, show (o == 25) = false by simpa using h25]; rfl
          have hN : jmN o a b c n = n := by unfold jmN; rw [hl, if_pos rfl, if_neg h25, hjp, hPc]; rfl
          exact ll_place o a b c n _ _ _ _ _ ha hb hc hn w (nmV o) ⟨s.toArray⟩ (kn o) _ _ _ hsz hP c10 c8 c18 c19 c20 c14 hk hl hPc hNM hj hN.symm h1 h2 h3 z1 z2 z3 z4

end Go.Proofs.YtkmhpbjegkhabaaDoor
