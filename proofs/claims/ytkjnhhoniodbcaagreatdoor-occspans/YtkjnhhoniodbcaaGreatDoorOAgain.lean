/-
  again, whatever the turn.
-/
import Derived.Test.YtkjnhhoniodbcaaGreatDoorOAgain1
import Derived.Test.YtkjnhhoniodbcaaGreatDoorOAgain2
namespace Go.Proofs.YtkjnhhoniodbcaaGreatDoor
open Go.RowKit Go.Shelf Plain
set_option linter.unusedVariables false
theorem again_any {f : Nat → Nat} {H fr below : Nat} {T : List (Nat × Nat)} (hT : Turn f H fr T) (b1 b2 base : Nat) (v : Value) (hlt : fr < below) (hb : below ≤ 1099511627776) (hTl : T.length ≤ 4000000) (l : Nat) (J Jx : St) (W : World) (S : Nat → Prop)
    (ho : Ow W base v T) (hFS : ∀ k, v.ownBlock = some k → ¬ S k) (h1 : W.cell? ⟨b1, 0, none⟩ = some v) (h2 : W.heap[b2]? = some (.cells #[.int .i64 fr, .int .i64 below] 51)) (hn1 : ¬ S b1) (hn2 : ¬ S b2)
    (hJ : Hangs J) (hJx : Hangs Jx) (hTk : Takes Tryz.prog l f below J Jx) (h0 : J fr W S) :
    Calls Tryz.prog 55 #[.func (.yield l) #[] #[], .pointer (some ⟨b1, 0, none⟩), .pointer (some ⟨b2, 0, none⟩)] W fun e W' => (∃ v, e = .returned v) ∧ ∃ S', Kept S W W' ∧ More S W S' ∧ (J below W' S' ∨ ∃ q, Jx q W' S') := by
  by_cases hone : T.length = 1
  · exact again_one hT b1 b2 base v hlt hb hone l J Jx W S ho hFS h1 h2 hn1 hn2 hJ hJx hTk h0
  · exact again_more hT b1 b2 base v hlt hb hTl hone l J Jx W S ho hFS h1 h2 hn1 hn2 hJ hJx hTk h0
end Go.Proofs.YtkjnhhoniodbcaaGreatDoor
