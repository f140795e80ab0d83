/-
  The law IsaNames.
-/
import Derived.Test.YtkmhpbjegkhabaaDoorSmall
import Derived.Deep.RegionWith
namespace Go.Proofs.YtkmhpbjegkhabaaDoor
open Go.RowKit
set_option linter.unusedVariables false

set_option maxHeartbeats 8000000 in
set_option maxRecDepth 100000 in
theorem isaNames_walk (a b : Int) (ha : 0 ≤ a ∧ a < 256) (hb : 0 ≤ b ∧ b < 256) (w : World) (hO : Ops w) (hT : Pow w) :
    Calls Tryd.prog 5 #[.int .u8 a, .int .u8 b] w fun ex w' => ex = .returned (.bool true) ∧ Below w.heap.size w w' := by
  have c8a := fun w0 (h : Below w.heap.size w w0) => name_any a ha w0 (hO.below h hO.pos)
  have c8b := fun w0 (h : Below w.heap.size w w0) => name_any b hb w0 (hO.below h hO.pos)
  have c12a := fun w0 => known_any a ha w0
  have c12b := fun w0 => known_any b hb w0
  have c14 := fun w0 (h : Below w.heap.size w w0) => via (known_walk w0 (hO.below h hO.pos) (hT.below h)) h (Nat.le_refl _)
  have b0 : Below w.heap.size w w := Below.refl _ _
  have hno : kn a = false → nmV a = ⟨#[]⟩ := fun h => by unfold nmV; rw [h]; rfl
  have hsm : kn a = true → ∀ w0, Calls Tryd.prog 17 #[.string (nmV a)] w0 fun ex w' => ex = .returned (.bool true) ∧ w' = w0 := fun h w0 => by
    have hk2 : 1 ≤ a ∧ a ≤ 27 := by unfold kn at h; simpa using h
    obtain ⟨i, rfl⟩ : ∃ k : Nat, a = (k : Int) + 1 := ⟨(a - 1).toNat, by omega⟩
    rw [nm_yes (by omega)]
    exact small_name i (by omega) w0
  have hun : kn a = true → kn b = true → a ≠ b → ¬ nmV a = nmV b := fun h1 h2 hne he => by
    have k1 : 1 ≤ a ∧ a ≤ 27 := by unfold kn at h1; simpa using h1
    have k2 : 1 ≤ b ∧ b ≤ 27 := by unfold kn at h2; simpa using h2
    obtain ⟨i, rfl⟩ : ∃ k : Nat, a = (k : Int) + 1 := ⟨(a - 1).toNat, by omega⟩
    obtain ⟨j, rfl⟩ : ∃ k : Nat, b = (k : Int) + 1 := ⟨(b - 1).toNat, by omega⟩
    rw [nm_yes (by omega), nm_yes (by omega)] at he
    have := nmB_unlike (show i < 27 by omega) (show j < 27 by omega) he
    omega
  obtain ⟨X, hX⟩ : ∃ X, X = nmV a := ⟨_, rfl⟩
  obtain ⟨Y, hY⟩ : ∃ Y, Y = nmV b := ⟨_, rfl⟩
  obtain ⟨KA, hKA⟩ : ∃ K, K = kn a := ⟨_, rfl⟩
  obtain ⟨KB, hKB⟩ : ∃ K, K = kn b := ⟨_, rfl⟩
  rw [← hX, ← hKA] at c8a
  rw [← hY, ← hKB] at c8b
  rw [← hKA] at c12a
  rw [← hKB] at c12b
  rw [← hX, ← hKA] at hno hsm
  rw [← hX, ← hKA, ← hKB, ← hY] at hun
  clear hO hT ha hb hX hY hKA hKB
  cases KA
  · have hX0 := hno rfl
    subst hX0
    clear hno hsm hun
    go_enter Tryd.func5, Tryd.ntmps5
    go_wp2_with (first
      | (go_at_call_of 8 a; refine (c8a _ (by assumption)).mono ?_; rintro ex w2 ⟨rfl, hw⟩; obtain rfl := hw.symm)
      | (go_at_call_of 8 b; refine (c8b _ (by assumption)).mono ?_; rintro ex w2 ⟨rfl, hw⟩; obtain rfl := hw.symm)
      | (go_at_call 14; refine (c14 _ (by assumption)).mono ?_; rintro ex w3 ⟨rfl, b3⟩)
      | (go_at_call_of 12 a; refine (c12a _).mono ?_; rintro ex w2 ⟨rfl, hw⟩; obtain rfl := hw.symm)
      | (go_at_call_of 12 b; refine (c12b _).mono ?_; rintro ex w2 ⟨rfl, hw⟩; obtain rfl := hw.symm))
    all_goals
      go_ret
      refine ⟨?_, by assumption⟩
      first | rfl | (simp; done)
  · have c17 := hsm rfl
    cases KB
    · clear hno hsm hun
      go_enter Tryd.func5, Tryd.ntmps5
      go_wp2_with (first
      | (go_at_call_of 8 a; refine (c8a _ (by assumption)).mono ?_; rintro ex w2 ⟨rfl, hw⟩; obtain rfl := hw.symm)
      | (go_at_call_of 8 b; refine (c8b _ (by assumption)).mono ?_; rintro ex w2 ⟨rfl, hw⟩; obtain rfl := hw.symm)
      | (go_at_call 14; refine (c14 _ (by assumption)).mono ?_; rintro ex w3 ⟨rfl, b3⟩)
      | (go_at_call_of 12 a; refine (c12a _).mono ?_; rintro ex w2 ⟨rfl, hw⟩; obtain rfl := hw.symm)
      | (go_at_call_of 12 b; refine (c12b _).mono ?_; rintro ex w2 ⟨rfl, hw⟩; obtain rfl := hw.symm)
      | (go_at_call 17; refine (c17 _).mono ?_; rintro ex w2 ⟨rfl, hw⟩; obtain rfl := hw.symm))
      all_goals
        go_ret
        refine ⟨?_, by assumption⟩
        first | rfl | (simp; done)
    · by_cases hab : a = b
      · have e : (a == b) = true := by simpa using hab
        clear hno hsm hun hab
        go_enter Tryd.func5, Tryd.ntmps5
        go_wp2_with (first
      | (go_at_call_of 8 a; refine (c8a _ (by assumption)).mono ?_; rintro ex w2 ⟨rfl, hw⟩; obtain rfl := hw.symm)
      | (go_at_call_of 8 b; refine (c8b _ (by assumption)).mono ?_; rintro ex w2 ⟨rfl, hw⟩; obtain rfl := hw.symm)
      | (go_at_call 14; refine (c14 _ (by assumption)).mono ?_; rintro ex w3 ⟨rfl, b3⟩)
      | (go_at_call_of 12 a; refine (c12a _).mono ?_; rintro ex w2 ⟨rfl, hw⟩; obtain rfl := hw.symm)
      | (go_at_call_of 12 b; refine (c12b _).mono ?_; rintro ex w2 ⟨rfl, hw⟩; obtain rfl := hw.symm)
      | (go_at_call 17; refine (c17 _).mono ?_; rintro ex w2 ⟨rfl, hw⟩; obtain rfl := hw.symm))
        all_goals
          go_ret
          refine ⟨?_, by assumption⟩
          first | rfl | (simp; done) | (simp at e; simp [e]; done)
      · have hXY0 := hun rfl rfl hab
        have hXY : ¬ X.toList = Y.toList := fun h => hXY0 (by rw [ByteArray.toList_eq, ByteArray.toList_eq] at h; cases X; cases Y; simp only [ByteArray.mk.injEq]; exact Array.toList_inj.1 h)
        clear hXY0
        have e : (a == b) = false := by simpa using hab
        clear hno hsm hun hab
        go_enter Tryd.func5, Tryd.ntmps5
        go_wp2_with (first
      | (go_at_call_of 8 a; refine (c8a _ (by assumption)).mono ?_; rintro ex w2 ⟨rfl, hw⟩; obtain rfl := hw.symm)
      | (go_at_call_of 8 b; refine (c8b _ (by assumption)).mono ?_; rintro ex w2 ⟨rfl, hw⟩; obtain rfl := hw.symm)
      | (go_at_call 14; refine (c14 _ (by assumption)).mono ?_; rintro ex w3 ⟨rfl, b3⟩)
      | (go_at_call_of 12 a; refine (c12a _).mono ?_; rintro ex w2 ⟨rfl, hw⟩; obtain rfl := hw.symm)
      | (go_at_call_of 12 b; refine (c12b _).mono ?_; rintro ex w2 ⟨rfl, hw⟩; obtain rfl := hw.symm)
      | (go_at_call 17; refine (c17 _).mono ?_; rintro ex w2 ⟨rfl, hw⟩; obtain rfl := hw.symm))
        all_goals
          go_ret
          refine ⟨?_, by assumption⟩
          first | rfl | (simp; done) | (simp [hXY]; done)

end Go.Proofs.YtkmhpbjegkhabaaDoor
