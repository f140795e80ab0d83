/-
  slices.Sort and slices.Compact of ints, by the library's contracts.
-/
import Derived.Test.YtfjaajjljmbmbaaGreatDoorCOwn
import Derived.Test.YtfjaajjljmbmbaaGreatDoorProg
import Derived.Shelf.Lay
import Derived.Shelf.Sort.Plain
import Derived.Shelf.Slices.CompactI
import Derived.Lib.RowBridge
import Derived.Ground.NamesProg
import Derived.Ground.Names2Prog
namespace Go.Proofs
open Go.Shelf
shelf_lay Lays.n189 Nm 189 at Tryz as Tryz.laysSort
shelf_lay Lays2.n20 Nm2 20 at Tryz as Tryz.laysCompact
namespace YtfjaajjljmbmbaaGreatDoor
open Go.RowKit
set_option linter.unusedVariables false

def sortL (zs : List Int) : List Int := zs.mergeSort fun x y => decide (x ≤ y)
theorem sort_any (g cap : Nat) (zs : List Int) (w : World) (h : Hd w g zs) (hg : g < w.heap.size) (hs : zs.length < 4611686018427387904) :
    Calls Tryz.prog 23 #[.slice (some ⟨g, 0, none⟩) zs.length cap] w fun e w' => e = .returned (.tuple #[]) ∧ Hd w' g (sortL zs) ∧ Kept (fun j => j = g) w w' := by
  refine (Any.slices_Sort_int Tryz.laysSort g 0 cap zs w h hg hs).mono ?_
  rintro e w' ⟨rfl, n, os, rfl⟩
  refine ⟨rfl, ?_, kept_grow⟩
  refine Sort.holds_grow _ _ _ _ _ _ (by simp [Sort.ahead]; exact hg) (Sort.holds_putRow _ _ _ _ _ _ (Sort.holds_ahead _ _ _ _ _ _ h) (by simp))
theorem compact_any (g cap : Nat) (zs : List Int) (w : World) (h : Hd w g zs) (hs : zs.length ≤ 9223372036854775807) (hc : zs.length ≤ cap) :
    Calls Tryz.prog 24 #[.slice (some ⟨g, 0, none⟩) zs.length cap] w fun e w' => e = .returned (.slice (some ⟨g, 0, none⟩) (Lib.compact zs).length cap) ∧ Hd w' g (Lib.compact zs) ∧ Kept (fun j => j = g) w w' := by
  refine (Any.slices_Compact_int Tryz.laysCompact g 0 cap zs w h hs hc).mono ?_
  rintro e w' ⟨rfl, q, rfl⟩
  refine ⟨rfl, ?_, kept_row⟩
  have := Sort.holds_putRow (Value.int .i64) (Sort.ahead w q) g 0 zs.toArray (Lib.compact zs ++ List.replicate (zs.length - (Lib.compact zs).length) 0).toArray (Sort.holds_ahead _ _ _ _ _ _ h) (by
    have := Lib.compact_length_le zs
    simp; omega)
  exact Hd.take this
end YtfjaajjljmbmbaaGreatDoor
end Go.Proofs
