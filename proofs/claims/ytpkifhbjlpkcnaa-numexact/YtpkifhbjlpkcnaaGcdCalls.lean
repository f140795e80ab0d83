/-
  The contract of Gcd[int64].
-/
import Derived.Test.YtpkifhbjlpkcnaaCalls
import Derived.Test.YtpkifhbjlpkcnaaGcds
import Derived.Deep.QuietTactic
import Derived.BigQuiet
namespace Go.Proofs.Ytpkifhbjlpkcnaa
open Go.RowKit Plain
set_option linter.unusedVariables false

theorem ret1 {a b : Int} (h : a = b) : Ending.returned (.int .i64 a) = .returned (.int .i64 b) := by rw [h]

set_option maxHeartbeats 400000 in
theorem gcd64_any (a b : Int) (w : World) (ha : I64 a) (hb : I64 b) :
    Calls Try.prog 9 #[.int .i64 a, .int .i64 b] w fun e w' => e = .returned (.int .i64 (gcdF a b)) ∧ ∃ n, w' = w.drewN n := by
  go_enter Try.func9, Try.ntmps9
  go_wp2
  go_loopw [0, 1] (fun x y w' => ∃ (c d : Int) (n : Nat), I64 c ∧ I64 d ∧ x = .int .i64 c ∧ y = .int .i64 d ∧ Int.gcd c d = Int.gcd a b ∧ w' = w.drewN n) (fun _ y _ => (intOf y).natAbs)
  case atStart => exact ⟨a, b, 0, ha, hb, rfl, rfl, rfl, rfl⟩
  case round =>
    obtain ⟨c, d, n, hc, hd, rfl, rfl, hg, rfl⟩ := hrel
    have HG : Hid (Int.gcd c d = Int.gcd a b) := hg
    clear hg
    by_cases h0 : d = 0
    · subst h0
      have he := gcdF_end a b c hc HG.out
      have HE : Hid (gcdF a b = if c = -9223372036854775808 then 0 else if c < 0 then -c else c) := he
      clear he
      unfold I64 at hc
      obtain ⟨hc1, hc2⟩ := hc
      by_cases h1 : c = -9223372036854775808
      · have H4 : Hid (gcdF a b = 0) := HE.out.trans (if_pos h1)
        clear HE
        subst h1
        have hw : wrap64 9223372036854775808 < 0 := by unfold wrap64; omega
        go_wp2
        go_ret
        exact ⟨ret1 H4.out.symm, n, rfl⟩
      · by_cases h2 : c < 0
        · have h3 : -9223372036854775808 < c := by omega
          have h4 := HE.out
          rw [if_neg h1, if_pos h2] at h4
          have H4 : Hid (gcdF a b = -c) := h4
          clear h4 h1
          go_wp2
          go_ret
          exact ⟨ret1 H4.out.symm, n, rfl⟩
        · have h4 := HE.out
          rw [if_neg h1, if_neg h2] at h4
          have H4 : Hid (gcdF a b = c) := h4
          clear h4 h1
          go_wp2
          go_ret
          exact ⟨ret1 H4.out.symm, n, rfl⟩
    · have hs := gcd_step c d
      have HS : Hid (Int.gcd d (c.tmod d) = Int.gcd a b) := hs.trans HG.out
      have ht := tmod_I64 c d hc
      have hl := tmod_lt c d h0
      clear hs
      go_wp2
      go_quiet (fail)
      go_wp2
      go_roundw
      case rel => exact ⟨d, c.tmod d, _, hd, ht, rfl, rfl, HS.out, World.drewN_drewN ..⟩
      case measure => simpa [intOf] using hl

end Go.Proofs.Ytpkifhbjlpkcnaa
