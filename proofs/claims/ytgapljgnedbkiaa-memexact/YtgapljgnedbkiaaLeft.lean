/-
  'left'.
-/
import Derived.Test.YtgapljgnedbkiaaMarks
namespace Go.Proofs.Ytgapljgnedbkiaa
open Go.RowKit
set_option linter.unusedVariables false

set_option maxHeartbeats 2000000 in
theorem left_any (G : Nat → Prop) (B g n cap : Nat) (a : Option Addr) (c : Nat) (xs ys : List Int) (w : World) (h : Zs w G a n c ys) (hm : Mm w B (.slice (some ⟨g, 0, none⟩) n cap) xs (mks 40)) (hl : xs.length = n) :
    Calls Try.prog 14 #[.slice (some ⟨g, 0, none⟩) n cap, .slice a n c] w fun ex w' => ex = .returned (.bool (decide (xs = ys))) ∧ ∃ k, w' = w.drewN k := by
  obtain ⟨a', c', hv, hz⟩ := hm.zs
  injection hv with e1 e2 e3
  subst e1 e3
  rw [hl] at hz
  clear e2
  have c16 := same_any _ _ (some ⟨g, 0, none⟩) a n n cap c xs ys w hz h
  obtain ⟨cap', cur, hv, hblk, _, hcap, hmax, _, _⟩ := hm.blk (g := g) rfl
  injection hv with _ e2 e3
  subst e3
  clear e2
  rw [hl, mks_length] at hcap
  have HC : Hid (∀ i, i < 40 → w.cell? ⟨g, n + i, none⟩ = some (.int .i64 (-700 - (i : Int)))) := by
    intro i hi
    have := hm.spare (g := g) rfl (i := i) (by rw [mks_length]; exact hi)
    rw [hl, mks_get hi] at this
    exact this
  clear hm h hz hl hblk
  go_enter Try.func14, Try.ntmps14
  go_wp2_with fail
  go_loop [6] (fun i => ∃ j : Nat, j ≤ 40 ∧ i = .int .i64 j) (fun i => 40 - (intOf i).toNat)
  case atStart => exact ⟨0, by omega, rfl⟩
  case round =>
    obtain ⟨j, hj, rfl⟩ := hrel
    by_cases hlt : j < 40
    · have hc := HC.out j hlt
      have e40 : wrap64 ((n : Int) + (j : Int)) = ((n + j : Nat) : Int) := by unfold wrap64; omega
      go_wp2_with fail
      go_round
      case rel => exact ⟨j + 1, by omega, by go_num⟩
      case measure => simp [intOf]; omega
    · have hj3 : j = 40 := by omega
      subst hj3
      go_wp2_with (go_at_call 16; refine c16.mono ?_; rintro ex w1 ⟨rfl, nd, rfl⟩)
      go_ret
      exact ⟨rfl, nd, rfl⟩

end Go.Proofs.Ytgapljgnedbkiaa
