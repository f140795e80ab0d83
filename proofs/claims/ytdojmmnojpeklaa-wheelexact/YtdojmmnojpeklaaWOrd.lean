/-
  'ordered'.
-/
import Derived.Test.YtdojmmnojpeklaaWSame
namespace Go.Proofs.Ytdojmmnojpeklaa
open Go.RowKit
set_option linter.unusedVariables false

set_option maxHeartbeats 2000000 in
set_option maxRecDepth 100000 in
theorem ordered_yes (G : Nat → Prop) (p : Option Addr) (n c : Nat) (xs : List Fi) (fr th : Int) (w : World) (hx : Fs w G p n c xs) (hs : xs.Pairwise lt2) (hb : ∀ x, x ∈ xs → fr ≤ x.t ∧ x.t ≤ th) :
    Calls Try.prog 13 #[.slice p n c, .int .i64 fr, .int .i64 th] w fun ex w' => ex = .returned (.bool true) ∧ ∃ q, w' = w.drewN q := by
  have HX : Hid (Fs w G p n c xs) := hx
  have h1 := hx.cap
  have h2 := hx.max
  have HL : Hid (xs.length = n) := hx.len
  have HS : Hid (xs.Pairwise lt2 ∧ ∀ x, x ∈ xs → fr ≤ x.t ∧ x.t ≤ th) := ⟨hs, hb⟩
  clear hx hs hb
  go_enter Try.func13, Try.ntmps13
  go_wp2
  go_loopw [7] (fun d wr => ∃ (j : Nat), j ≤ n ∧ d = .int .i64 j ∧ ∃ q, wr = w.drewN q) (fun d _ => n - (intOf d).toNat)
  case atStart => exact ⟨0, Nat.zero_le _, rfl, 0, rfl⟩
  case round =>
    obtain ⟨j, hj, rfl, q, hwr⟩ := hrel
    have HW : Hid (wr = w.drewN q) := hwr
    clear hwr
    by_cases hlt : j < n
    · obtain ⟨x, hx⟩ : ∃ x, xs[j]? = some x := ⟨_, List.getElem?_eq_getElem (by rw [HL.out]; exact hlt)⟩
      obtain ⟨g, o, rfl, _, r0, r1⟩ := HX.out.at' j x hx
      obtain ⟨b1, b2⟩ := HS.out.2 x (at_mem hx)
      have r0' : wr.cell? ⟨g, o + j * 2, none⟩ = some (.int .i64 x.t) := by rw [HW.out]; exact r0
      have r1' : wr.cell? ⟨g, o + j * 2 + 1, none⟩ = some (.int .i64 x.i) := by rw [HW.out]; exact r1
      clear r0 r1
      by_cases hj0 : j = 0
      · have g1 : decide ((j : Int) > 0) = false := by rw [hj0]; rfl
        have g1' : ¬ (0 < j) := by omega
        have g2 : ¬ (x.t < fr) := by omega
        have g3 : ¬ (x.t > th) := by omega
        obtain ⟨xt, xi⟩ := x
        dsimp only at r0' r1' g2 g3
        clear b1 b2 hx hj0
        go_upto_region 6 with fail
        go_quiet (fail)
        go_wp2
        go_roundw
        case rel => exact ⟨j + 1, by omega, by go_num, _, by rw [HW.out, World.drewN_drewN]⟩
        case measure => simp [intOf]; omega
      · obtain ⟨k, rfl⟩ : ∃ k, j = k + 1 := ⟨j - 1, by omega⟩
        obtain ⟨y, hy⟩ : ∃ y, xs[k]? = some y := ⟨_, List.getElem?_eq_getElem (by rw [HL.out]; omega)⟩
        obtain ⟨g', o', e, _, s0, s1⟩ := HX.out.at' k y hy
        injection e with e
        injection e with e1 e2 _
        subst e1 e2
        have s0' : wr.cell? ⟨g, o + k * 2, none⟩ = some (.int .i64 y.t) := by rw [HW.out]; exact s0
        have s1' : wr.cell? ⟨g, o + k * 2 + 1, none⟩ = some (.int .i64 y.i) := by rw [HW.out]; exact s1
        have hlt2 : lt2 y x := by
          have h3 := List.pairwise_iff_getElem.1 HS.out.1 k (k + 1) (by rw [HL.out]; omega) (by rw [HL.out]; omega) (by omega)
          rw [List.getElem?_eq_getElem (by rw [HL.out]; omega)] at hx hy
          injection hx with hx
          injection hy with hy
          rw [hx, hy] at h3
          exact h3
        have g2 : ¬ (x.t < fr) := by omega
        have g3 : ¬ (x.t > th) := by omega
        have g4 : decide (y.t > x.t) = false := by unfold lt2 at hlt2; exact decide_eq_false (by omega)
        have g0 : decide (((k : Int) + 1) > 0) = true := decide_eq_true (by omega)
        have g00 : 0 < k + 1 := by omega
        clear s0 s1 hx hy b1 b2 hj0
        by_cases et : y.t = x.t
        · have g5 : (y.t == x.t) = true := by simpa using et
          have g6 : decide (y.i ≥ x.i) = false := by unfold lt2 at hlt2; exact decide_eq_false (by omega)
          clear hlt2 et
          obtain ⟨xt, xi⟩ := x
          obtain ⟨yt, yi⟩ := y
          dsimp only at r0' r1' s0' s1' g2 g3 g4 g5 g6
          go_upto_region 6 with fail
          go_quiet (fail)
          go_wp2
          go_roundw
          case rel => exact ⟨k + 1 + 1, by omega, by go_num, _, by rw [HW.out, World.drewN_drewN]⟩
          case measure => simp [intOf]; omega
        · have g5 : (y.t == x.t) = false := by simpa using et
          clear hlt2 et
          obtain ⟨xt, xi⟩ := x
          obtain ⟨yt, yi⟩ := y
          dsimp only at r0' r1' s0' s1' g2 g3 g4 g5
          go_upto_region 6 with fail
          go_quiet (fail)
          go_wp2
          go_roundw
          case rel => exact ⟨k + 1 + 1, by omega, by go_num, _, by rw [HW.out, World.drewN_drewN]⟩
          case measure => simp [intOf]; omega
    · have hjn : j = n := by omega
      subst hjn
      go_wp2
      go_ret
      exact ⟨rfl, q, HW.out⟩

end Go.Proofs.Ytdojmmnojpeklaa
