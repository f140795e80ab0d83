/-
  ObjectsLoad: the walk, its four ways joined.
-/
import Derived.Test.YtggkajopfbokjaaOLdTt
import Derived.Test.YtggkajopfbokjaaOLdTf
import Derived.Test.YtggkajopfbokjaaOLdFt
import Derived.Test.YtggkajopfbokjaaOLdFf
namespace Go.Proofs.Ytggkajopfbokjaa
open Go.RowKit
set_option linter.unusedVariables false
theorem load_law {F : Nat → Prop} {A : Array Value} {sa ea ba : Option Addr} {n sc ne ec nb bc : Nat} {p q1 p' q' : Nat → Int} {us0 : List Value} {f0 : Nat → Bool} {ts te tb : Value} {cs : List Int} {us lvs : List Value} {mss : List (List Value)} {xss : List (List (List Int))} {f : Nat → Bool} (w : World) (hFw : ∀ k, F k → k < w.heap.size) (hg : Lg w F A sa ea ba n sc ne ec nb bc p q1 p' q' us0 f0 ts te tb cs us lvs mss xss f) :
    Calls Try.prog 4 #[.agg A, .agg #[ts, te, tb]] w fun r w' => r = .returned (.bool true) ∧ Kept No w w' := by
  by_cases h1 : okL n ne nb q1 p' q' cs us lvs xss
  · by_cases h2 : okL n ne nb q1 p' q' (List.replicate cs.length (-9)) (evK f us.length us.length) (List.replicate lvs.length (.slice none 0 0)) (List.replicate lvs.length [])
    · exact load_lawTt w hFw hg h1 h2
    · exact load_lawTf w hFw hg h1 h2
  · by_cases h2 : okL n ne nb q1 p' q' (List.replicate cs.length (-9)) (evK f us.length us.length) (List.replicate lvs.length (.slice none 0 0)) (List.replicate lvs.length [])
    · exact load_lawFt w hFw hg h1 h2
    · exact load_lawFf w hFw hg h1 h2
end Go.Proofs.Ytggkajopfbokjaa
