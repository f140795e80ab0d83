/-
  ReportAddsUp: any servers and any span.
-/
import Derived.Test.YtgpaaoflhffcbaaGreatDoorGL
namespace Go.Proofs.YtgpaaoflhffcbaaGreatDoor
open Go.RowKit
set_option maxRecDepth 100000

theorem adds_law {F : Nat → Prop} {a : Option Addr} {c : Nat} {xs : List Srv} (fr be : Int) (w : World) (hg : Gl w) (h : Sv w F a xs.length c xs) (hF : ∀ k, F k → k < w.heap.size) :
    Calls Tryz.prog 3 #[.slice a xs.length c, .int .i64 fr, .int .i64 be] w fun e w' => e = .returned (.bool true) ∧ Kept No w w' := by
  cases ht : timF xs xs.length with
  | some q => exact adds_tim fr be w hg h ht
  | none =>
    by_cases h0 : fr < 0 ∨ be < fr ∨ 1099511627776 < be
    · exact adds_bad fr be w hg h ht h0
    · obtain ⟨f, rfl⟩ : ∃ f : Nat, fr = (f : Int) := ⟨fr.toNat, by omega⟩
      obtain ⟨b, rfl⟩ : ∃ b : Nat, be = (b : Int) := ⟨be.toNat, by omega⟩
      exact adds_good f b w hg h hF ht (by omega) (by omega)
end Go.Proofs.YtgpaaoflhffcbaaGreatDoor
