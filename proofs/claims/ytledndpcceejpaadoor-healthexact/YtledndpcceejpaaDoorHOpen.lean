/-
  The case that is handed in.
-/
import Derived.Test.YtledndpcceejpaaDoorRows
import Derived.Test.YtledndpcceejpaaDoorHPrt
import Derived.ProofKit
import Derived.OpenShut
import Derived.ChangeOld
namespace Go.Proofs.YtledndpcceejpaaDoor
open Go.ChangeShapes Go.WideShapes Go.ChangeAt Go.RowKit
set_option linter.unusedVariables false
set_option maxRecDepth 100000

theorem co_int : Tryd.prog.cellsOf 3 = 1 := by kernel_rfl
theorem co_bool : Tryd.prog.cellsOf 4 = 1 := by kernel_rfl
theorem co_8 : Tryd.prog.cellsOf 22 = 8 := by kernel_rfl
theorem co_Case : Tryd.prog.cellsOf 24 = 13 := by kernel_rfl
theorem li6 {α : Type} {l : List α} (h : l.length = 6) : ∃ a b c d e f, l = [a, b, c, d, e, f] := by
  match l, h with
  | [a, b, c, d, e, f], _ => exact ⟨a, b, c, d, e, f, rfl⟩
theorem li8 {α : Type} {l : List α} (h : l.length = 8) : ∃ a b c d e f g i, l = [a, b, c, d, e, f, g, i] := by
  match l, h with
  | [a, b, c, d, e, f, g, i], _ => exact ⟨a, b, c, d, e, f, g, i, rfl⟩
theorem li13 {α : Type} {l : List α} (h : l.length = 13) : ∃ a b c d e f g i j k m n o, l = [a, b, c, d, e, f, g, i, j, k, m, n, o] := by
  match l, h with
  | [a, b, c, d, e, f, g, i, j, k, m, n, o], _ => exact ⟨a, b, c, d, e, f, g, i, j, k, m, n, o, rfl⟩
def fn8 (a b c d e f g i : Int) : Nat → Int
  | 0 => a
  | 1 => b
  | 2 => c
  | 3 => d
  | 4 => e
  | 5 => f
  | 6 => g
  | _ => i
theorem agg_of_many {v : Value} (h : 2 ≤ v.cells.toList.length) : ∃ cs : Array Value, v = .agg cs ∧ v.cells.toList = cs.toList := by
  cases v with
  | agg cs => exact ⟨cs, rfl, rfl⟩
  | _ => simp [Value.cells] at h
theorem open_case {H : Type} {enc : TypeId × Value → H} {W : World} {v : Value} {d : DataW H} {p : List MemPlace}
    (h : DataW.Trod enc Tryd.prog W 0 (fun _ => true) true 24 v d p) :
    ∃ (n h : Int) (t : Nat → Int) (k p : Int) (busy : Bool), v = .agg (csA n h t k p busy) := by
  obtain ⟨fuel, hf⟩ := h
  obtain ⟨ys, n, _, hys, hlc, hlen, hfs⟩ := DataW.trod_struct Tryd.underlying24 hf
  rw [co_Case] at hlc
  obtain ⟨A, rfl, hA⟩ := agg_of_many (v := v) (by omega)
  rw [hA] at hlc hfs
  obtain ⟨c0, c1, c2, c3, c4, c5, c6, c7, c8, c9, c10, c11, c12, hc⟩ := li13 hlc
  rw [hc] at hfs
  obtain ⟨y0, y1, y2, y3, y4, y5, rfl⟩ := li6 (show ys.length = 6 from hlen)
  have g0 := hfs 0 _ rfl
  have g1 := hfs 1 _ rfl
  have g2 := hfs 2 _ rfl
  have g3 := hfs 3 _ rfl
  have g4 := hfs 4 _ rfl
  have g5 := hfs 5 _ rfl
  simp [co_int, co_8, co_bool] at g0 g1 g2 g3 g4 g5
  obtain ⟨v0, e0, _, _⟩ := DataW.trod_int Tryd.underlying3 g0
  obtain ⟨v1, e1, _, _⟩ := DataW.trod_int Tryd.underlying3 g1
  obtain ⟨v10, e10, _, _⟩ := DataW.trod_int Tryd.underlying3 g3
  obtain ⟨v11, e11, _, _⟩ := DataW.trod_int Tryd.underlying3 g4
  obtain ⟨v12, e12, _⟩ := DataW.trod_bool Tryd.underlying4 g5
  obtain ⟨hs, n7, _, hh0, hhl, hhn, hhf⟩ := DataW.trod_array Tryd.underlying22 g2
  obtain ⟨k0, k1, k2, k3, k4, k5, k6, k7, rfl⟩ := li8 (show hs.length = 8 from hhn)
  have t0 := hhf 0 (by decide)
  have t1 := hhf 1 (by decide)
  have t2 := hhf 2 (by decide)
  have t3 := hhf 3 (by decide)
  have t4 := hhf 4 (by decide)
  have t5 := hhf 5 (by decide)
  have t6 := hhf 6 (by decide)
  have t7 := hhf 7 (by decide)
  simp [co_int] at t0 t1 t2 t3 t4 t5 t6 t7
  obtain ⟨v2, e2, _, _⟩ := DataW.trod_int Tryd.underlying3 t0
  obtain ⟨v3, e3, _, _⟩ := DataW.trod_int Tryd.underlying3 t1
  obtain ⟨v4, e4, _, _⟩ := DataW.trod_int Tryd.underlying3 t2
  obtain ⟨v5, e5, _, _⟩ := DataW.trod_int Tryd.underlying3 t3
  obtain ⟨v6, e6, _, _⟩ := DataW.trod_int Tryd.underlying3 t4
  obtain ⟨v7, e7, _, _⟩ := DataW.trod_int Tryd.underlying3 t5
  obtain ⟨v8, e8, _, _⟩ := DataW.trod_int Tryd.underlying3 t6
  obtain ⟨v9, e9, _, _⟩ := DataW.trod_int Tryd.underlying3 t7
  simp at e0 e1 e2 e3 e4 e5 e6 e7 e8 e9 e10 e11 e12
  subst e0 e1 e2 e3 e4 e5 e6 e7 e8 e9 e10 e11 e12
  refine ⟨v0, v1, fn8 v2 v3 v4 v5 v6 v7 v8 v9, v10, v11, v12, ?_⟩
  have eA : A = csA v0 v1 (fn8 v2 v3 v4 v5 v6 v7 v8 v9) v10 v11 v12 := by
    cases A; simp at hc; simp [hc, csA, fn8]
  rw [eA]
end Go.Proofs.YtledndpcceejpaaDoor
