/-
  An instruction and eight bytes that came in, opened.
-/
import Derived.Test.YtkmhpbjegkhabaaDoorBytes
import Derived.ProofKit
import Derived.OpenShut
namespace Go.Proofs.YtkmhpbjegkhabaaDoor
open Go.ChangeShapes Go.WideShapes Go.ChangeAt Go.RowKit

theorem list5 {α : Type} {l : List α} (h : l.length = 5) : ∃ c0 c1 c2 c3 c4, l = [c0, c1, c2, c3, c4] := by
  match l, h with
  | [c0, c1, c2, c3, c4], _ => exact ⟨c0, c1, c2, c3, c4, rfl⟩
theorem list8 {α : Type} {l : List α} (h : l.length = 8) : ∃ c0 c1 c2 c3 c4 c5 c6 c7, l = [c0, c1, c2, c3, c4, c5, c6, c7] := by
  match l, h with
  | [c0, c1, c2, c3, c4, c5, c6, c7], _ => exact ⟨c0, c1, c2, c3, c4, c5, c6, c7, rfl⟩

theorem cellsS : Tryd.prog.cellsOf 26 = 5 := by kernel_rfl
theorem cellsA : Tryd.prog.cellsOf 27 = 8 := by kernel_rfl
theorem cellsU8 : Tryd.prog.cellsOf 5 = 1 := by kernel_rfl
theorem cellsI : Tryd.prog.cellsOf 21 = 1 := by kernel_rfl

theorem agg_of_many {v : Value} (h : 2 ≤ v.cells.toList.length) : ∃ cs : Array Value, v = .agg cs ∧ v.cells.toList = cs.toList := by
  cases v with
  | agg cs => exact ⟨cs, rfl, rfl⟩
  | _ => simp [Value.cells] at h

theorem open_ins {H : Type} {enc : TypeId × Value → H} {W : World} {v : Value} {d : DataW H} {p : List MemPlace}
    (h : DataW.Trod enc Tryd.prog W 0 (fun _ => true) true 26 v d p) :
    ∃ o a b c n : Int, v = insV o a b c n ∧ (0 ≤ o ∧ o < 256) ∧ (0 ≤ a ∧ a < 256) ∧ (0 ≤ b ∧ b < 256) ∧ (0 ≤ c ∧ c < 256) ∧ (-2147483648 ≤ n ∧ n ≤ 2147483647) := by
  obtain ⟨fuel, hf⟩ := h
  obtain ⟨xs, n, _, _, hcl, hlen, hfs⟩ := DataW.trod_struct Tryd.underlying26 hf
  rw [cellsS] at hcl
  obtain ⟨cs, rfl, hcs⟩ := agg_of_many (v := v) (by omega)
  rw [hcs] at hcl hfs
  obtain ⟨c0, c1, c2, c3, c4, hl⟩ := list5 hcl
  obtain ⟨y0, y1, y2, y3, y4, rfl⟩ := list5 (show xs.length = 5 from hlen)
  obtain rfl : cs = #[c0, c1, c2, c3, c4] := by cases cs; simp at hl; subst hl; rfl
  have g0 := hfs 0 _ rfl
  have g1 := hfs 1 _ rfl
  have g2 := hfs 2 _ rfl
  have g3 := hfs 3 _ rfl
  have g4 := hfs 4 _ rfl
  simp [cellsU8, cellsI] at g0 g1 g2 g3 g4
  obtain ⟨x0, e0, _, w0⟩ := DataW.trod_int Tryd.underlying5 g0
  obtain ⟨x1, e1, _, w1⟩ := DataW.trod_int Tryd.underlying5 g1
  obtain ⟨x2, e2, _, w2⟩ := DataW.trod_int Tryd.underlying5 g2
  obtain ⟨x3, e3, _, w3⟩ := DataW.trod_int Tryd.underlying5 g3
  obtain ⟨x4, e4, _, w4⟩ := DataW.trod_int Tryd.underlying21 g4
  simp at e0 e1 e2 e3 e4
  subst e0 e1 e2 e3 e4
  have b0 := bounds_u8 w0
  have b1 := bounds_u8 w1
  have b2 := bounds_u8 w2
  have b3 := bounds_u8 w3
  have b4 := bounds_i32 w4
  exact ⟨x0, x1, x2, x3, x4, rfl, ⟨b0.1, by omega⟩, ⟨b1.1, by omega⟩, ⟨b2.1, by omega⟩, ⟨b3.1, by omega⟩, b4⟩

theorem open_byt {H : Type} {enc : TypeId × Value → H} {W : World} {v : Value} {d : DataW H} {p : List MemPlace}
    (h : DataW.Trod enc Tryd.prog W 0 (fun _ => true) true 27 v d p) :
    ∃ o a b c p q r s : Int, v = bytV o a b c p q r s ∧ (0 ≤ o ∧ o < 256) ∧ (0 ≤ a ∧ a < 256) ∧ (0 ≤ b ∧ b < 256) ∧ (0 ≤ c ∧ c < 256) ∧ (0 ≤ p ∧ p < 256) ∧ (0 ≤ q ∧ q < 256) ∧ (0 ≤ r ∧ r < 256) ∧ (0 ≤ s ∧ s < 256) := by
  obtain ⟨fuel, hf⟩ := h
  obtain ⟨xs, n, _, _, hcl, hlen, hfs⟩ := DataW.trod_array Tryd.underlying27 hf
  rw [cellsA] at hcl
  obtain ⟨cs, rfl, hcs⟩ := agg_of_many (v := v) (by omega)
  rw [hcs] at hcl hfs
  obtain ⟨c0, c1, c2, c3, c4, c5, c6, c7, hl⟩ := list8 hcl
  obtain ⟨y0, y1, y2, y3, y4, y5, y6, y7, rfl⟩ := list8 hlen
  obtain rfl : cs = #[c0, c1, c2, c3, c4, c5, c6, c7] := by cases cs; simp at hl; subst hl; rfl
  have g0 := hfs 0 (by omega)
  have g1 := hfs 1 (by omega)
  have g2 := hfs 2 (by omega)
  have g3 := hfs 3 (by omega)
  have g4 := hfs 4 (by omega)
  have g5 := hfs 5 (by omega)
  have g6 := hfs 6 (by omega)
  have g7 := hfs 7 (by omega)
  simp [cellsU8] at g0 g1 g2 g3 g4 g5 g6 g7
  obtain ⟨x0, e0, _, w0⟩ := DataW.trod_int Tryd.underlying5 g0
  obtain ⟨x1, e1, _, w1⟩ := DataW.trod_int Tryd.underlying5 g1
  obtain ⟨x2, e2, _, w2⟩ := DataW.trod_int Tryd.underlying5 g2
  obtain ⟨x3, e3, _, w3⟩ := DataW.trod_int Tryd.underlying5 g3
  obtain ⟨x4, e4, _, w4⟩ := DataW.trod_int Tryd.underlying5 g4
  obtain ⟨x5, e5, _, w5⟩ := DataW.trod_int Tryd.underlying5 g5
  obtain ⟨x6, e6, _, w6⟩ := DataW.trod_int Tryd.underlying5 g6
  obtain ⟨x7, e7, _, w7⟩ := DataW.trod_int Tryd.underlying5 g7
  simp at e0 e1 e2 e3 e4 e5 e6 e7
  subst e0 e1 e2 e3 e4 e5 e6 e7
  have b0 := bounds_u8 w0
  have b1 := bounds_u8 w1
  have b2 := bounds_u8 w2
  have b3 := bounds_u8 w3
  have b4 := bounds_u8 w4
  have b5 := bounds_u8 w5
  have b6 := bounds_u8 w6
  have b7 := bounds_u8 w7
  exact ⟨x0, x1, x2, x3, x4, x5, x6, x7, rfl, ⟨b0.1, by omega⟩, ⟨b1.1, by omega⟩, ⟨b2.1, by omega⟩, ⟨b3.1, by omega⟩, ⟨b4.1, by omega⟩, ⟨b5.1, by omega⟩, ⟨b6.1, by omega⟩, ⟨b7.1, by omega⟩⟩

end Go.Proofs.YtkmhpbjegkhabaaDoor
