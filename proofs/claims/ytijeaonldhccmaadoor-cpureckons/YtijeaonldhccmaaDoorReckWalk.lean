/-
  'CpuReckons'.
-/
import Derived.Test.YtijeaonldhccmaaDoorSure
import Derived.Test.YtijeaonldhccmaaDoorReck
import Derived.Test.YtijeaonldhccmaaDoorRefA
namespace Go.Proofs.YtijeaonldhccmaaDoor
open Go.RowKit
set_option linter.unusedVariables false

/-- what 'sure' answers -/
def sv (o x y : Int) : Int :=
  if o = 7 then wrap64 (x + y) else
  if o = 8 then wrap64 (x - y) else
  if o = 9 then wrap64 (x * y) else
  if o = 10 then (if y = 0 then 0 else qt x y) else
  if o = 12 then bits .and .i64 x y else
  if o = 13 then bits .or .i64 x y else
  if o = 14 then bits .xor .i64 x y else
  if o = 15 then shl x y else
  if o = 16 then shr x y else
  if o = 17 then sar x y else
  if o = 19 then fl (decide (x < y)) else
  if o = 20 then fl (decide (un x < un y)) else
  fl (x == y)
def sok (o : Int) : Bool := [7, 8, 9, 10, 12, 13, 14, 15, 16, 17, 19, 20, 21].contains o
theorem sv7 (x y : Int) : sv 7 x y = wrap64 (x + y) := by unfold sv; rw [if_pos rfl]
theorem sv8 (x y : Int) : sv 8 x y = wrap64 (x - y) := by unfold sv; rw [if_neg (by decide), if_pos rfl]
theorem sv9 (x y : Int) : sv 9 x y = wrap64 (x * y) := by unfold sv; rw [if_neg (by decide), if_neg (by decide), if_pos rfl]
theorem sv10 (x y : Int) : sv 10 x y = if y = 0 then 0 else qt x y := by unfold sv; rw [if_neg (by decide), if_neg (by decide), if_neg (by decide), if_pos rfl]
theorem sv12 (x y : Int) : sv 12 x y = bits .and .i64 x y := by unfold sv; rw [if_neg (by decide), if_neg (by decide), if_neg (by decide), if_neg (by decide), if_pos rfl]
theorem sv13 (x y : Int) : sv 13 x y = bits .or .i64 x y := by unfold sv; rw [if_neg (by decide), if_neg (by decide), if_neg (by decide), if_neg (by decide), if_neg (by decide), if_pos rfl]
theorem sv14 (x y : Int) : sv 14 x y = bits .xor .i64 x y := by unfold sv; rw [if_neg (by decide), if_neg (by decide), if_neg (by decide), if_neg (by decide), if_neg (by decide), if_neg (by decide), if_pos rfl]
theorem sv15 (x y : Int) : sv 15 x y = shl x y := by unfold sv; rw [if_neg (by decide), if_neg (by decide), if_neg (by decide), if_neg (by decide), if_neg (by decide), if_neg (by decide), if_neg (by decide), if_pos rfl]
theorem sv16 (x y : Int) : sv 16 x y = shr x y := by unfold sv; rw [if_neg (by decide), if_neg (by decide), if_neg (by decide), if_neg (by decide), if_neg (by decide), if_neg (by decide), if_neg (by decide), if_neg (by decide), if_pos rfl]
theorem sv17 (x y : Int) : sv 17 x y = sar x y := by unfold sv; rw [if_neg (by decide), if_neg (by decide), if_neg (by decide), if_neg (by decide), if_neg (by decide), if_neg (by decide), if_neg (by decide), if_neg (by decide), if_neg (by decide), if_pos rfl]
theorem sv19 (x y : Int) : sv 19 x y = fl (decide (x < y)) := by unfold sv; rw [if_neg (by decide), if_neg (by decide), if_neg (by decide), if_neg (by decide), if_neg (by decide), if_neg (by decide), if_neg (by decide), if_neg (by decide), if_neg (by decide), if_neg (by decide), if_pos rfl]
theorem sv20 (x y : Int) : sv 20 x y = fl (decide (un x < un y)) := by unfold sv; rw [if_neg (by decide), if_neg (by decide), if_neg (by decide), if_neg (by decide), if_neg (by decide), if_neg (by decide), if_neg (by decide), if_neg (by decide), if_neg (by decide), if_neg (by decide), if_neg (by decide), if_pos rfl]
theorem sv21 (x y : Int) : sv 21 x y = fl (x == y) := by unfold sv; rw [if_neg (by decide), if_neg (by decide), if_neg (by decide), if_neg (by decide), if_neg (by decide), if_neg (by decide), if_neg (by decide), if_neg (by decide), if_neg (by decide), if_neg (by decide), if_neg (by decide), if_neg (by decide)]

theorem sure_sv (W w : World) (hO : Ops W) (o x y : Int) (ho : sok o = true) (hb : Below W.heap.size W w) :
    Calls Tryd.prog 13 #[.int .u8 o, .int .i64 x, .int .i64 y] w fun ex w' => ex = .returned (.int .i64 (sv o x y)) ∧ Below W.heap.size W w' := by
  have hO' := hO.below hb hO.pos
  have key : ∀ V, (Calls Tryd.prog 13 #[.int .u8 o, .int .i64 x, .int .i64 y] w fun ex w' => ex = .returned (.int .i64 V) ∧ Below w.heap.size w w') → sv o x y = V → Calls Tryd.prog 13 #[.int .u8 o, .int .i64 x, .int .i64 y] w fun ex w' => ex = .returned (.int .i64 (sv o x y)) ∧ Below W.heap.size W w' := by
    intro V h e
    rw [e]
    refine h.mono ?_
    rintro ex w' ⟨rfl, b⟩
    exact ⟨rfl, hb.trans (b.mono hb.size)⟩
  have h : o = 7 ∨ o = 8 ∨ o = 9 ∨ o = 10 ∨ o = 12 ∨ o = 13 ∨ o = 14 ∨ o = 15 ∨ o = 16 ∨ o = 17 ∨ o = 19 ∨ o = 20 ∨ o = 21 := by simpa [sok] using ho
  rcases h with rfl | rfl | rfl | rfl | rfl | rfl | rfl | rfl | rfl | rfl | rfl | rfl | rfl
  · exact key _ (s7 x y w hO') (sv7 x y)
  · exact key _ (s8 x y w hO') (sv8 x y)
  · exact key _ (s9 x y w hO') (sv9 x y)
  · by_cases hy : y = 0
    · subst hy
      exact key 0 (sure_of 10 x 0 0 false w (d10n x w hO')) (by rw [sv10, if_pos rfl])
    · exact key _ (s10 x y hy w hO') (by rw [sv10, if_neg hy])
  · exact key _ (s12 x y w hO') (sv12 x y)
  · exact key _ (s13 x y w hO') (sv13 x y)
  · exact key _ (s14 x y w hO') (sv14 x y)
  · exact key _ (s15 x y w hO') (sv15 x y)
  · exact key _ (s16 x y w hO') (sv16 x y)
  · exact key _ (s17 x y w hO') (sv17 x y)
  · exact key _ (s19 x y w hO') (sv19 x y)
  · exact key _ (s20 x y w hO') (sv20 x y)
  · exact key _ (s21 x y w hO') (sv21 x y)

theorem power_any (k : Nat) (hk : k < 64) (w : World) : Calls Tryd.prog 16 #[.int .i64 k] w fun ex w' => ex = .returned (.int .i64 (pw k)) ∧ w' = w := by
  go_enter Tryd.func16, Tryd.ntmps16
  go_wp2
  go_loop [3, 4] (fun p i => ∃ j : Nat, j ≤ k ∧ i = .int .i64 j ∧ p = .int .i64 (pw j)) (fun _ i => k - (intOf i).toNat)
  case atStart => exact ⟨0, by omega, rfl, val_int pw_zero.symm⟩
  case round =>
    obtain ⟨j, hj, rfl, rfl⟩ := hrel
    by_cases hlt : j < k
    · have HS : Hid (pw (j + 1) = wrap64 (pw j + pw j)) := pw_succ j
      go_wp2
      go_round
      case rel => exact ⟨j + 1, by omega, by go_num, val_int HS.out.symm⟩
      case measure => simp [intOf]; omega
    · obtain rfl : j = k := by omega
      go_wp2
      go_ret
      exact ⟨rfl, rfl⟩

theorem cut_any (d : Int) (hd : I6 d) (w : World) : Calls Tryd.prog 15 #[.int .i64 d, .int .i64 64] w fun ex w' => (∃ q : Int, ex = .returned (.tuple #[.int .i64 q, .int .i64 (d % 64)])) ∧ w' = w := by
  have e0 := quo_r (c := 64) hd
  have h6 : I6 64 := by unfold I6; omega
  obtain ⟨T, hT⟩ : ∃ T, T = d.tmod 64 := ⟨_, rfl⟩
  rw [← hT] at e0
  by_cases h1 : T < 0
  · have HR : Hid (d % 64 = wrap64 (T + 64)) := (show rm d 64 = wrap64 (T + 64) by rw [hT]; exact rm_pos h6 (by decide) (by rw [← hT]; exact h1))
    clear hT hd h6
    go_enter Tryd.func15, Tryd.ntmps15
    go_wp2
    go_ret2
    exact ⟨⟨_, ret_two rfl HR.out.symm⟩, rfl⟩
  · have HR : Hid (d % 64 = T) := (show rm d 64 = T by rw [rm_yes (by decide) (by rw [← hT]; omega)]; exact hT.symm)
    clear hT hd h6
    go_enter Tryd.func15, Tryd.ntmps15
    go_wp2
    go_ret2
    exact ⟨⟨_, ret_two rfl HR.out.symm⟩, rfl⟩

end Go.Proofs.YtijeaonldhccmaaDoor
