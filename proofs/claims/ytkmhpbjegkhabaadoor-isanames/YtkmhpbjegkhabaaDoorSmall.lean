/-
  small, of the names.
-/
import Derived.Test.YtkmhpbjegkhabaaDoorKnown
namespace Go.Proofs.YtkmhpbjegkhabaaDoor
open Go.RowKit
set_option linter.unusedVariables false

theorem nm_letters : ∀ k, k < 27 → ∀ x ∈ nms.getD (k + 1) [], 97 ≤ x.toNat ∧ x.toNat ≤ 122 := by decide
theorem nm_unlike : ∀ i, i < 27 → ∀ j, j < 27 → nms.getD (i + 1) [] = nms.getD (j + 1) [] → i = j := by decide
theorem nmB_unlike {i j : Nat} (hi : i < 27) (hj : j < 27) (h : nmB (i + 1) = nmB (j + 1)) : i = j := by
  apply nm_unlike i hi j hj
  unfold nmB at h
  have := congrArg (fun b : ByteArray => b.data.toList) h
  simpa using this

set_option maxHeartbeats 4000000 in
theorem small_any (S : ByteArray) (h0 : 0 < S.size) (hm : S.size < 1000) (hS : ∀ j (hj : j < S.size), 97 ≤ (S[j]'hj).toNat ∧ (S[j]'hj).toNat ≤ 122) (w : World) :
    Calls Tryd.prog 17 #[.string S] w fun ex w' => ex = .returned (.bool true) ∧ w' = w := by
  have HS : Hid (∀ j (hj : j < S.size), 97 ≤ (S[j]'hj).toNat ∧ (S[j]'hj).toNat ≤ 122) := hS
  clear hS
  go_enter Tryd.func17, Tryd.ntmps17
  go_wp2
  go_loopw [3] (fun i wr => ∃ k : Nat, k ≤ S.size ∧ i = .int .i64 k ∧ wr = w) (fun i _ => S.size - (intOf i).toNat)
  case atStart => exact ⟨0, by omega, rfl, rfl⟩
  case round =>
    obtain ⟨k, hk, rfl, rfl⟩ := hrel
    by_cases hlt : k < S.size
    · obtain ⟨g1, g2⟩ := HS.out k hlt
      have i1 : ¬ (((S[k]'hlt).toNat : Int) < 97) := by omega
      have i2 : ¬ (122 < ((S[k]'hlt).toNat : Int)) := by omega
      go_wp2
      go_roundw
      case rel => exact ⟨k + 1, by omega, by go_num, trivial⟩
      case measure => simp [intOf]; omega
    · have hkS : k = S.size := by omega
      subst hkS
      go_wp2
      go_ret
      refine ⟨?_, rfl⟩
      simp

theorem small_name (k : Nat) (hk : k < 27) (w : World) : Calls Tryd.prog 17 #[.string (nmB (k + 1))] w fun ex w' => ex = .returned (.bool true) ∧ w' = w := by
  have n1 := nm_size k hk
  have s1 : (nmB (k + 1)).size = (nms.getD (k + 1) []).length := by unfold nmB; simp [ByteArray.size]
  refine small_any _ (by omega) (by omega) (fun j hj => ?_) w
  apply nm_letters k hk
  have hj2 : j < (nms.getD (k + 1) []).length := by omega
  have e : (nmB (k + 1))[j]'hj = (nms.getD (k + 1) [])[j]'hj2 := by unfold nmB; rfl
  rw [e]
  exact List.getElem_mem _

end Go.Proofs.YtkmhpbjegkhabaaDoor
