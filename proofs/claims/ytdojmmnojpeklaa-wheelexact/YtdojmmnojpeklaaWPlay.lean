/-
  'play'.
-/
import Derived.Test.YtdojmmnojpeklaaWPlay1
import Derived.Test.YtdojmmnojpeklaaWPlay2
import Derived.Test.YtdojmmnojpeklaaWPlay3
import Derived.Test.YtdojmmnojpeklaaWPlay5
import Derived.Test.YtdojmmnojpeklaaWPlay6
namespace Go.Proofs.Ytdojmmnojpeklaa
open Go.RowKit
theorem play_any {W : World} {F : Nat → Prop} {b n m : Nat} {L : List Fi} {v : Value} (hW : Wh W F b n L) (hF : ∀ k, F k → k < W.heap.size) (hv : W.ownsRow 0 32 2 v m (fcL L)) (hvF : ∀ g, v.ownBlock = some g → ¬ F g) (kd : Int) (s : Bool) (id tick : Int) (h6 : I6 id ∧ I6 tick) : Calls Try.prog 20 #[pv b n v, .agg #[.int .i64 kd, .bool s, .int .i64 id, .int .i64 tick]] W (Pans W F v b) := by
  by_cases h1 : kd = 1
  · subst h1; exact play_arm hW hF hv hvF s id tick h6
  by_cases h2 : kd = 2
  · subst h2; exact play_cancel hW hF hv hvF s id tick h6
  by_cases h4 : kd = 4
  · subst h4; exact play_advance hW hF hv hvF s id tick h6
  by_cases h5 : kd = 5
  · subst h5; exact play_step hW hF hv hvF s id tick h6
  exact play_else hW hF hv hvF s kd h1 h2 h4 h5 id tick h6
end Go.Proofs.Ytdojmmnojpeklaa
