/-
  regs.
-/
import Derived.Test.YtofkacfchkimiaaPPlayS
namespace Go.Proofs.Ytofkacfchkimiaa
open Go.RowKit Plain
set_option linter.unusedVariables false
set_option maxRecDepth 100000
/-- the registers that a step hands in -/
def rgS (x y z : Int) (j : Nat) : Int := if j = 0 then x else if j = 7 then y else if j = 15 then z else 0
def RgS (x y z : Int) : Array Value := #[.int .i64 x, .int .i64 0, .int .i64 0, .int .i64 0, .int .i64 0, .int .i64 0, .int .i64 0, .int .i64 y, .int .i64 0, .int .i64 0, .int .i64 0, .int .i64 0, .int .i64 0, .int .i64 0, .int .i64 0, .int .i64 z]
theorem RgS_eq (x y z : Int) : rg16 (rgS x y z) = RgS x y z := rfl
theorem Try.info16 : (Try.prog.info? 46).map (·.size) = some 16 := by kernel_rfl
section
variable {b g cap : Nat} {T : Tt}
set_option maxHeartbeats 2000000 in
theorem regs_any (w : World) (x y z : Int) : Calls Try.prog 61 #[.agg #[.int .i64 x, .int .i64 y, .int .i64 z]] w fun e w' => e = .returned (.agg (RgS x y z)) ∧ Kept No w w' := by
  go_enter Try.func61, Try.ntmps61
  go_wp2
  have hB := alloc_new (w.alloc (.cells #[.int .i64 x, .int .i64 y, .int .i64 z] 41)) (.cells (RgS x y z) 46)
  rw [World.size_alloc] at hB
  have hC := ((Kept.refl No ((w.alloc (.cells #[.int .i64 x, .int .i64 y, .int .i64 z] 41)).alloc (.cells (RgS x y z) 46))).alloc (.cells (RgS x y z) 46)).at' hB (fun h => h)
  refine bodyPost_ret (results_cell_row rfl _ _ (w.heap.size + 1) 46 (RgS x y z) (0, 0) _ rfl hC Try.underlying46 rfl Try.info16) rfl ?_
  exact ⟨rfl, (((Kept.refl No w).alloc _).alloc _).alloc _⟩
end
end Go.Proofs.Ytofkacfchkimiaa
