/-
  '==' on the arrays of eight bytes and on instructions.
-/
import Derived.Test.YtkmhpbjegkhabaaDoorBytes
import Derived.ChangeKeysEq
import Derived.Laws.StructEq
namespace Go.Proofs.YtkmhpbjegkhabaaDoor
open Go.RowKit
set_option linter.unusedVariables false

theorem run_eq8 (w : World) (o a b c p q r s o' a' b' c' p' q' r' s' : Int) :
    (binOp .eql 27 (bytV o a b c p q r s) (bytV o' a' b' c' p' q' r' s')).run Tryd.prog w = .ok (.bool ((o == o') && ((a == a') && ((b == b') && ((c == c') && ((p == p') && ((q == q') && ((r == r') && (s == s'))))))))) w := by
  unfold bytV
  have hc : Tryd.prog.cellsOf 5 = 1 := by kernel_rfl
  obtain ⟨i, hi⟩ : ∃ i, Tryd.prog.info? 5 = some i := Option.isSome_iff_exists.1 (by kernel_rfl)
  rw [run_eql_struct, run_equalIn_array w 9999 _ _ Tryd.underlying27 hi, hc]
  simp [Op.eqItems, go_sem, List.range, List.range.loop]
  by_cases h1 : o = o' <;> by_cases h2 : a = a' <;> by_cases h3 : b = b' <;> by_cases h4 : c = c' <;> by_cases h5 : p = p' <;> by_cases h6 : q = q' <;> by_cases h7 : r = r' <;> by_cases h8 : s = s' <;> simp [h1, h2, h3, h4, h5, h6, h7, h8]

theorem run_eqIns (w : World) (o a b c n o' a' b' c' n' : Int) :
    (binOp .eql 26 (insV o a b c n) (insV o' a' b' c' n')).run Tryd.prog w = .ok (.bool ((o == o') && ((a == a') && ((b == b') && ((c == c') && (n == n')))))) w := by
  unfold insV
  simp [go_sem]
  by_cases h1 : o = o' <;> by_cases h2 : a = a' <;> by_cases h3 : b = b' <;> by_cases h4 : c = c' <;> by_cases h5 : n = n' <;> simp [h1, h2, h3, h4, h5]

end Go.Proofs.YtkmhpbjegkhabaaDoor
