/-
  'slotFor'.
-/
import Derived.Test.YtffgcijicmfmlaaGreatDoorWPart
import Derived.Test.YtffgcijicmfmlaaGreatDoorWObj
import Derived.Deep.DeepCutAuto
import Derived.Deep.QuietTactic
import Derived.BigQuiet
import Derived.WalkSmall
namespace Go.Proofs.YtffgcijicmfmlaaGreatDoor
open Go.RowKit
set_option linter.unusedVariables false

def intOf : Value → Int
  | .int _ n => n
  | _ => 0

set_option maxHeartbeats 1000000 in
theorem slotFor_any (b n t : Nat) (hn : n < 4398046511104) (ht : t < 4398046511104) (w : World) (hnow : w.cell? ⟨b, 0, none⟩ = some (.int .i64 n)) :
    Calls Tryz.prog 122 #[.pointer (some ⟨b, 0, none⟩), .int .i64 t] w fun ex w' => ex = .returned (.pointer (some ⟨b, 2 + sl n t, none⟩)) ∧ ∃ q, w' = w.drewN q := by
  have hn63 : n < 9223372036854775808 := by omega
  have ht63 : t < 9223372036854775808 := by omega
  obtain ⟨r, hr⟩ : ∃ r, r = sl n t := ⟨_, rfl⟩
  rw [← hr]
  have HR : Hid (r = sl n t) := hr
  clear hr
  go_enter Tryz.func122, Tryz.ntmps122
  go_wp2
  go_loopw [5, 7] (fun h j wr => ∃ k : Nat, k ≤ 7 ∧ h = .int .i64 (lvN k n t) ∧ j = .int .i64 k ∧ ∃ q, wr = w.drewN q) (fun _ j _ => 7 - (intOf j).toNat)
  case atStart => exact ⟨0, by omega, rfl, rfl, 0, rfl⟩
  case round =>
    obtain ⟨k, hk, rfl, rfl, q, hwr⟩ := hrel
    have hnow' : wr.cell? ⟨b, 0, none⟩ = some (.int .i64 n) := by rw [hwr]; exact hnow
    have HW : Hid (wr = w.drewN q) := hwr
    clear hwr hnow
    by_cases hlt : k < 7
    · have HL : Hid (lvN (k + 1) n t = if pt t k ≠ pt n k then k else lvN k n t) := (show _ = _ from rfl)
      generalize lvN k n t = h0 at HL
      by_cases hp : pt t k = pt n k
      · have HL2 : Hid (lvN (k + 1) n t = h0) := (show _ = _ by rw [HL.out, if_neg (by simp [hp])])
        have g1 : (((pt t k : Nat) : Int) != ((pt n k : Nat) : Int)) = false := by simp [hp]
        clear hp
        go_upto_region 5 with fail
        go_quiet ((go_at_call 127; refine Calls.quiet_of_same (partOf_any _ _ ?_ ?_ _) <;> assumption))
        go_wp2
        go_roundw
        case rel => exact ⟨k + 1, by omega, by rw [HL2.out], by go_num, _, by rw [HW.out, World.drewN_drewN]⟩
        case measure => simp [intOf]; omega
      · have HL2 : Hid (lvN (k + 1) n t = k) := (show _ = _ by rw [HL.out, if_pos hp])
        have g1 : (((pt t k : Nat) : Int) != ((pt n k : Nat) : Int)) = true := by simp; omega
        clear hp
        go_upto_region 5 with fail
        go_quiet ((go_at_call 127; refine Calls.quiet_of_same (partOf_any _ _ ?_ ?_ _) <;> assumption))
        go_wp2
        go_roundw
        case rel => exact ⟨k + 1, by omega, by rw [HL2.out], by go_num, _, by rw [HW.out, World.drewN_drewN]⟩
        case measure => simp [intOf]; omega
    · have hk7 : k = 7 := by omega
      subst hk7
      have hl : lvN 7 n t < 7 := lv_lt n t
      have HRR : Hid (r = 64 * lvN 7 n t + pt t (lvN 7 n t)) := (show _ = _ by rw [HR.out]; rfl)
      have hpl := pt_lt t (lvN 7 n t)
      generalize lvN 7 n t = l0 at hl HRR hpl
      have cP := fun w0 => partOf_any t l0 hl ht63 w0
      generalize pt t l0 = p0 at HRR hpl cP
      go_upto_region 8 with fail
      go_quiet ((go_at_call 127; refine Calls.quiet_of_same (cP _)))
      go_wp2
      go_ret
      exact ⟨by rw [HRR.out, show 2 + (64 * l0 + p0) = 2 + l0 * 64 + p0 by omega]; rfl, _, by rw [HW.out, World.drewN_drewN]⟩

end Go.Proofs.YtffgcijicmfmlaaGreatDoor
