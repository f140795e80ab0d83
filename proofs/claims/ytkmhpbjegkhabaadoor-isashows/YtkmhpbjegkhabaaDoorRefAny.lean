/-
  Show: the document's, of any instruction.
-/
import Derived.Test.YtkmhpbjegkhabaaDoorRefLine
namespace Go.Proofs.YtkmhpbjegkhabaaDoor
open Go.RowKit
set_option linter.unusedVariables false

set_option maxHeartbeats 4000000 in
theorem refShow_any (o a b c n : Int) (ho : 0 ≤ o ∧ o < 256) (ha : 0 ≤ a ∧ a < 256) (hb : 0 ≤ b ∧ b < 256) (hc : 0 ≤ c ∧ c < 256) (hn : -2147483648 ≤ n ∧ n ≤ 2147483647) (w : World) :
    Calls Tryd.prog 22 #[insV o a b c n] w fun ex w' => ex = .returned (.tuple #[.string (shw o a b c n), .bool (lg o a b c n)]) ∧ Below w.heap.size w w' := by
  have hbx : Below w.heap.size w (box w o a b c n) := (Below.refl _ w).alloc (Nat.le_refl _) _
  have c24 := via (refLegal_any o a b c n ho ha hb hc (box w o a b c n)) (Below.refl (w.heap.size + 1) (box w o a b c n)) (by simp)
  cases hl : lg o a b c n
  · have e : shw o a b c n = ⟨#[]⟩ := by unfold shw; rw [hl]; rfl
    rw [e]
    rw [hl] at c24
    have HBX : Hid (Below w.heap.size w (box w o a b c n)) := hbx
    unfold insV at *
    clear hl e hbx ho ha hb hc hn
    go_enter Tryd.func22, Tryd.ntmps22
    go_wp2_with (go_at_call 24; refine c24.mono ?_; rintro ex w1 ⟨rfl, b1⟩; have bw1 := HBX.out.trans (b1.mono (Nat.le_succ _)))
    go_ret2
    exact ⟨rfl, bw1⟩
  · rw [hl] at c24
    have hk : kn o = true := by unfold lg at hl; cases h : kn o <;> simp [h] at hl; rfl
    have hk2 : 1 ≤ o ∧ o ≤ 27 := by unfold kn at hk; simpa using hk
    obtain ⟨k, hok⟩ : ∃ k : Nat, o = (k : Int) + 1 := ⟨(o - 1).toNat, by omega⟩
    have e : shw o a b c n = upto (nmB (k + 1)) (shB (k + 1)) a b c n (shB (k + 1)).size := by
      unfold shw line upto
      rw [hl, show o.toNat = k + 1 by omega, List.take_of_length_le (by simp)]
      unfold nmB shB
      simp
    rw [e]
    exact refShow_yes o a b c n k hok (by omega) ha hb hc hn w _ _ rfl rfl c24

end Go.Proofs.YtkmhpbjegkhabaaDoor
