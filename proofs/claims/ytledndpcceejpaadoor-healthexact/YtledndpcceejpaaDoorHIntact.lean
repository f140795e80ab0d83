/-
  The partition's lists are as they were.
-/
import Derived.Test.YtledndpcceejpaaDoorHPrt
import Derived.Deep.DeepCutAuto
namespace Go.Proofs.YtledndpcceejpaaDoor
open Go.RowKit
set_option linter.unusedVariables false
set_option maxRecDepth 100000

theorem prL_len : ∀ n, (prL n).length = n * 6
  | 0 => rfl
  | n + 1 => by show (prL n ++ prC n).length = _; rw [List.length_append, prL_len n]; simp [prC]; omega
theorem prL_at : ∀ (n i : Nat), i < n → ∀ j, j < 6 → (prL n)[i * 6 + j]? = (prC i)[j]?
  | 0, i, h, j, hj => by omega
  | n + 1, i, h, j, hj => by
    show (prL n ++ prC n)[i * 6 + j]? = _
    rcases Nat.lt_or_eq_of_le (Nat.lt_succ_iff.1 h) with h1 | h1
    · rw [List.getElem?_append_left (by rw [prL_len]; omega)]
      exact prL_at n i h1 j hj
    · subst h1
      rw [List.getElem?_append_right (by rw [prL_len]; omega), prL_len, show i * 6 + j - i * 6 = j by omega]
theorem Pm.at' {W : World} {B gi gc g N cap : Nat} (h : Pm W B gi gc g N cap) {i : Nat} (hi : i < N + 1) {j : Nat} (hj : j < 6) {v : Value} (hv : (prC i)[j]? = some v) : W.cell? ⟨g, i * 6 + j, none⟩ = some v := by
  have := h.own.cells (g := g) rfl (i * 6 + j) v ((prL_at (N + 1) i hi j hj).trans hv)
  rw [add_none, Nat.zero_add] at this
  exact this
theorem Pm.cap {W : World} {B gi gc g N cap : Nat} (h : Pm W B gi gc g N cap) : N + 1 ≤ cap ∧ cap ≤ maxLen := by
  rcases h.own.2 with ⟨e, _⟩ | ⟨g', cap', cur, e, _, _, h1, h2, _⟩
  · cases e
  · injection e with _ _ e3; subst e3; exact ⟨h1, h2⟩

set_option maxHeartbeats 4000000 in
theorem intact_any (cs : List Value) (B gi gc g N cap : Nat) (h6 : cs[6]? = some (.slice (some ⟨gi, 0, none⟩) 2 3)) (h7 : cs[7]? = some (.slice (some ⟨gc, 0, none⟩) 2 3)) (h8 : cs[8]? = some (.slice (some ⟨g, 0, none⟩) N cap)) (w : World) (hP : Pm w B gi gc g N cap) (hN : N ≤ 40) :
    Calls Tryd.prog 7 #[.agg cs.toArray] w fun e w' => e = .returned (.bool true) ∧ Kept No w w' := by
  have HK : Hid (Kept No w (w.alloc (.cells cs.toArray 36))) := (Kept.refl No w).alloc _
  have d8 := pn_cell w cs 36 8 _ h8
  have d7 := pn_cell w cs 36 7 _ h7
  have d6 := pn_cell w cs 36 6 _ h6
  have HP := hid (hP.keep HK.out)
  obtain ⟨hc1, hc2⟩ := hP.cap
  clear h8 h7 h6 hP
  have hcz : (N : Int) + 1 ≤ (cap : Int) := by omega
  obtain ⟨w0, e0⟩ : ∃ w0, w0 = w.alloc (.cells cs.toArray 36) := ⟨_, rfl⟩
  rw [← e0] at HK d8 d7 d6 HP
  have i0 : w0.cell? ⟨gi, 0, none⟩ = some (.int .i64 5) := cell_row HP.out.ci rfl
  have i1 : w0.cell? ⟨gi, 1, none⟩ = some (.int .i64 6) := cell_row HP.out.ci rfl
  have i2 : w0.cell? ⟨gi, 2, none⟩ = some (.int .i64 7) := cell_row HP.out.ci rfl
  have k0 : w0.cell? ⟨gc, 0, none⟩ = some (.int .u8 7) := cell_row HP.out.cc rfl
  have k1 : w0.cell? ⟨gc, 5, none⟩ = some (.int .u8 8) := cell_row HP.out.cc rfl
  have k2 : w0.cell? ⟨gc, 10, none⟩ = some (.int .u8 9) := cell_row HP.out.cc rfl
  go_enter Tryd.func7, Tryd.ntmps7
  go_upto_region 1 with fail
  rw [← e0]
  clear e0
  go_wp2
  go_loopw [4] (fun x wr => ∃ i : Nat, i ≤ N + 1 ∧ x = .int .i64 i ∧ wr = w0) (fun x _ => N + 1 - (intOf x).toNat)
  case atStart => exact ⟨0, by omega, rfl, rfl⟩
  case round =>
    obtain ⟨i, hi, rfl, hw⟩ := hrel
    obtain rfl := hw.symm
    clear hw
    by_cases hlt : i < N + 1
    · have hltz : (i : Int) < (N : Int) + 1 := by omega
      have c0 := HP.out.at' hlt (j := 0) (by decide) (v := .int .i64 (100 + (i : Int))) rfl
      have c1 := HP.out.at' hlt (j := 1) (by decide) (v := .int .i64 0) rfl
      have c2 := HP.out.at' hlt (j := 2) (by decide) (v := .int .i64 0) rfl
      have c3 := HP.out.at' hlt (j := 3) (by decide) (v := .int .i64 0) rfl
      have c4 := HP.out.at' hlt (j := 4) (by decide) (v := .int .i64 0) rfl
      have c5 := HP.out.at' hlt (j := 5) (by decide) (v := .bool false) rfl
      rw [Nat.add_zero] at c0
      go_wp2
      refine ⟨⟨i + 1, by omega, by go_num, trivial⟩, ?_⟩
      simp [intOf]; omega
    · have hltz : ¬ (i : Int) < (N : Int) + 1 := by omega
      go_wp2
      go_ret
      exact ⟨rfl, HK.out⟩
end Go.Proofs.YtledndpcceejpaaDoor
