/-
  The walks of NumExact's parts that only reckon: pairs, ticks.
-/
import Derived.Test.YtpkifhbjlpkcnaaRefGcd
import Derived.Test.YtpkifhbjlpkcnaaIntCalls
namespace Go.Proofs.Ytpkifhbjlpkcnaa
open Go.RowKit Plain
set_option linter.unusedVariables false

/-- an Op -/
abbrev opV (A B P F L : Int) (a0 : Option Addr) (len cap : Nat) (M : Int) : Value :=
  .agg #[.int .i64 A, .int .i64 B, .int .i64 P, .int .i64 F, .int .i64 L, .slice a0 len cap, .int .i64 M]

set_option maxRecDepth 100000 in
set_option maxHeartbeats 1000000 in
theorem ticks_any (A B P F L : Int) (a0 : Option Addr) (len cap : Nat) (M : Int) (w : World) (hA : I64 A) (hB : I64 B) (hP : I64 P) (hF : I64 F) (hL : I64 L) :
    Calls Try.prog 19 #[opV A B P F L a0 len cap M] w fun e w' => e = .returned (.bool true) ∧ Below w.heap.size w w' := by
  have hB2 := hB.2
  unfold opV
  go_enter Try.func19, Try.ntmps19
  go_wp2
  go_quiet ((first | (go_at_call 10; exact Calls.quiet_of_same (later_any _ _ _)) | (go_at_call 31; refine Calls.quiet_of_same (rlater_any _ _ _ ?_); assumption)))
  go_wp2_with (first | (go_at_call 12; refine (next_any _ _ _ _ ?_ ?_ ?_).mono ?_; all_goals first | assumption | (rintro e w' ⟨rfl, hw⟩; subst hw)) | (go_at_call 32; refine (rnext_any _ _ _ _ ?_ ?_ ?_).mono ?_; all_goals first | assumption | (rintro e w' ⟨rfl, hw⟩; subst hw)) | (go_at_call 13; refine (count_any _ _ _ _ _ ?_ ?_).mono ?_; all_goals first | assumption | (rintro e w' ⟨rfl, hw⟩; subst hw)) | (go_at_call 33; refine (rcount_any _ _ _ _ _ ?_ ?_).mono ?_; all_goals first | assumption | (rintro e w' ⟨rfl, hw⟩; subst hw)))
  go_ret
  exact ⟨rfl, below_drewN ((Below.refl _ _).alloc (Nat.le_refl _) _) _⟩

theorem quiet_add {f : FuncId} {args : Array Value} {W : World} {a n : Nat} {v : Value} (h : Calls Try.prog f args (W.drewN (a + n)) fun e w' => e = .returned v ∧ ∃ k, w' = (W.drewN (a + n)).drewN k) :
    Calls Try.prog f args (W.drewN (a + n)) fun e w' => e = .returned v ∧ ∃ k, w' = W.drewN (a + k) :=
  h.mono fun e w' ⟨he, k, hk⟩ => ⟨he, n + k, by rw [hk, World.drewN_drewN, Nat.add_assoc]⟩
theorem quiet_add_same {f : FuncId} {args : Array Value} {W : World} {a n : Nat} {v : Value} (h : Calls Try.prog f args (W.drewN (a + n)) fun e w' => e = .returned v ∧ w' = W.drewN (a + n)) :
    Calls Try.prog f args (W.drewN (a + n)) fun e w' => e = .returned v ∧ ∃ k, w' = W.drewN (a + k) :=
  h.mono fun e w' ⟨he, hk⟩ => ⟨he, n, hk⟩

set_option maxRecDepth 100000 in
set_option maxHeartbeats 1000000 in
theorem pairs_any (A B P F L : Int) (a0 : Option Addr) (len cap : Nat) (M : Int) (w : World) (hA : I64 A) (hB : I64 B) :
    Calls Try.prog 17 #[opV A B P F L a0 len cap M] w fun e w' => e = .returned (.bool true) ∧ Below w.heap.size w w' := by
  unfold opV
  go_enter Try.func17, Try.ntmps17
  go_wp2_with (first | (go_at_call 11; refine (add_any _ _ _).mono ?_; rintro e w' ⟨rfl, hw⟩; subst hw) | (go_at_call 22; refine (radd_any _ _ _ ?_ ?_).mono ?_; all_goals first | assumption | (rintro e w' ⟨rfl, hw⟩; subst hw)) | (go_at_call 14; refine (sub_any _ _ _).mono ?_; rintro e w' ⟨rfl, hw⟩; subst hw) | (go_at_call 23; refine (rsub_any _ _ _ ?_ ?_).mono ?_; all_goals first | assumption | (rintro e w' ⟨rfl, hw⟩; subst hw)) | (go_at_call 15; refine (mul_any _ _ _ ?_ ?_).mono ?_; all_goals first | assumption | (rintro e w' ⟨rfl, hw⟩; subst hw)) | (go_at_call 24; refine (rmul_any _ _ _ ?_ ?_).mono ?_; all_goals first | assumption | (rintro e w' ⟨rfl, hw⟩; subst hw)) | (go_at_call 16; refine (div_any _ _ _ ?_ ?_).mono ?_; all_goals first | assumption | (rintro e w' ⟨rfl, nd, hw⟩; subst hw)) | (go_at_call 25; refine (rdiv_any _ _ _ ?_ ?_).mono ?_; all_goals first | assumption | (rintro e w' ⟨rfl, hw⟩; subst hw)))
  go_quiet ((first | (go_at_call 9; refine quiet_add (gcd64_any _ _ _ ?_ ?_) <;> assumption) | (go_at_call 26; refine quiet_add_same (rgcd_any _ _ _ ?_ ?_) <;> assumption)))
  go_wp2
  go_quiet ((first | (go_at_call 27; refine quiet_add (gcdInt_any _ _ _ ?_ ?_) <;> assumption) | (go_at_call 26; refine quiet_add_same (rgcd_any _ _ _ ?_ ?_) <;> assumption)))
  go_wp2
  go_ret
  exact ⟨rfl, below_drewN (below_drewN (below_drewN ((Below.refl _ _).alloc (Nat.le_refl _) _) _) _) _⟩

end Go.Proofs.Ytpkifhbjlpkcnaa
