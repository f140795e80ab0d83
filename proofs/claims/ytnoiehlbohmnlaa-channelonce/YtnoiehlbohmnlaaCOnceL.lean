/-
  ChannelOnce: the law, known's answer taken.
-/
import Derived.Test.YtnoiehlbohmnlaaCOnceY
namespace Go.Proofs.Ytnoiehlbohmnlaa
open Go.RowKit Plain
theorem once_law (kn : KnownY) (k f ph pe t g : Int) (w : World) (h1 : I64 ph) (h2 : I64 pe) (h3 : I64 t) :
    Calls Try.prog 4 #[.int .i64 k, .int .i64 f, .int .i64 ph, .int .i64 pe, .int .i64 t, .int .i64 g] w fun e w' => e = .returned (.bool true) ∧ Kept No w w' := by
  by_cases hT : Tk k f ph pe
  · rcases nxt_facts t hT with ⟨a, b, c⟩ | ⟨a, b⟩
    · exact once_never kn k f ph pe t g w h1 h2 h3 hT a b c
    · exact once_yes kn k f ph pe t g _ w h1 h2 h3 hT rfl a b
  · exact once_no kn k f ph pe t g w h1 h2 h3 hT
end Go.Proofs.Ytnoiehlbohmnlaa
