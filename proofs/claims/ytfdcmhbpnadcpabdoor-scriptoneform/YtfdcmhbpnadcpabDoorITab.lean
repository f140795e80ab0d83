/-
  The tables, as they are laid.
-/
import Derived.Test.YtfdcmhbpnadcpabDoorRows
import Derived.Test.YtfdcmhbpnadcpabDoorIShow
import Derived.LaidMore
import Derived.OpenShut
import Derived.ProofKit
import Derived.ChangeSame
namespace Go.Proofs.YtfdcmhbpnadcpabDoor
open Go.ChangeShapes Go.WideShapes Go.ChangeAt Go.RowKit
set_option linter.unusedVariables false
set_option maxRecDepth 100000

theorem gKn : Tryd.prog.globalNamed "bulkhead/script.kinds" = some 0 := by kernel_rfl
theorem tKn : (Tryd.prog.globals[0]?).map (·.type) = some 64 := by kernel_rfl
theorem gPw : Tryd.prog.globalNamed "internal/strconv.uint64pow10" = some 2 := by kernel_rfl
theorem tPw : (Tryd.prog.globals[2]?).map (·.type) = some 104 := by kernel_rfl
theorem co_kind : Tryd.prog.cellsOf 63 = 5 := by kernel_rfl
theorem co_i : Tryd.prog.cellsOf 3 = 1 := by kernel_rfl
theorem co_s : Tryd.prog.cellsOf 9 = 1 := by kernel_rfl
theorem ki5 {α : Type} {l : List α} (h : l.length = 5) : ∃ c0 c1 c2 c3 c4, l = [c0, c1, c2, c3, c4] := by
  match l, h with
  | [c0, c1, c2, c3, c4], _ => exact ⟨c0, c1, c2, c3, c4, rfl⟩
theorem kind_cells {W : World} {enc : TypeId × Value → Unit} {base : Nat} {sp : Nat → Bool} {held : Bool} {fuel : Nat} {cs : List Value} {y : DataW Unit × List MemPlace} {n t l m : Int} {s : List UInt8}
    (h : DataW.trod enc Tryd.prog W base sp held fuel 63 cs = some y) (hy : y.1 = .agg [.lit (.int .i64 n), .lit (.string s), .lit (.int .i64 t), .lit (.int .i64 l), .lit (.int .i64 m)]) :
    cs = [.int .i64 n, .string ⟨s.toArray⟩, .int .i64 t, .int .i64 l, .int .i64 m] := by
  obtain ⟨ys, k, _, rfl, hlc, hlen, hfs⟩ := DataW.trod_struct Tryd.underlying63 h
  rw [co_kind] at hlc
  obtain ⟨c0, c1, c2, c3, c4, rfl⟩ := ki5 hlc
  obtain ⟨y0, y1, y2, y3, y4, rfl⟩ := ki5 (show ys.length = 5 from hlen)
  have g0 := hfs 0 _ rfl
  have g1 := hfs 1 _ rfl
  have g2 := hfs 2 _ rfl
  have g3 := hfs 3 _ rfl
  have g4 := hfs 4 _ rfl
  simp [co_i, co_s] at g0 g1 g2 g3 g4
  obtain ⟨v0, e0, r0, _⟩ := DataW.trod_int Tryd.underlying3 g0
  obtain ⟨v1, e1, r1, _⟩ := DataW.trod_string Tryd.underlying9 g1
  obtain ⟨v2, e2, r2, _⟩ := DataW.trod_int Tryd.underlying3 g2
  obtain ⟨v3, e3, r3, _⟩ := DataW.trod_int Tryd.underlying3 g3
  obtain ⟨v4, e4, r4, _⟩ := DataW.trod_int Tryd.underlying3 g4
  subst r0 r1 r2 r3 r4
  simp at e0 e1 e2 e3 e4
  subst e0 e1 e2 e3 e4
  simp at hy
  obtain ⟨rfl, rfl, rfl, rfl, rfl⟩ := hy
  rfl
theorem kn_of {W : World} {cs : Array Value} {fuel : Nat} {p : List MemPlace} {enc : TypeId × Value → Unit} {base : Nat} {sp : Nat → Bool} {held : Bool}
    (hv : W.var? Tryd.prog "bulkhead/script.kinds" = some cs) (hd : DataW.trod enc Tryd.prog W base sp held fuel 64 cs.toList = some (Rows.laid_bulkhead_script_kinds, p)) : ∀ j v, KC.toList[j]? = some v → W.cell? ⟨0, j, none⟩ = some v := by
  obtain ⟨xs, m, _, hx, hlc, hlen, hel⟩ := DataW.trod_array Tryd.underlying64 hd
  have h0 := hel 0 (by decide)
  have h1 := hel 1 (by decide)
  rw [co_kind] at h0 h1
  obtain ⟨x0, x1, rfl⟩ : ∃ x0 x1, xs = [x0, x1] := by
    match xs, hlen with
    | [x0, x1], _ => exact ⟨x0, x1, rfl⟩
  have hxs := congrArg Prod.fst hx
  simp [Rows.laid_bulkhead_script_kinds] at hxs
  have q0 := kind_cells h0 hxs.1.symm
  have q1 := kind_cells h1 hxs.2.symm
  have hl : cs.toList.length = 10 := hlc.trans (by kernel_rfl)
  have e : cs.toList = KC.toList := by
    have e2 : cs.toList = (cs.toList.drop (0 * 5)).take 5 ++ (cs.toList.drop (1 * 5)).take 5 := by
      simp
      rw [List.take_of_length_le (l := List.drop 5 cs.toList) (by rw [List.length_drop, hl]; decide), List.take_append_drop]
    rw [e2, q0, q1]
    rfl
  intro j v hj
  rw [World.var?_cell gKn hv, ← Array.getElem?_toList, e]
  exact hj
theorem en_of {W : World} {cs ds : Array Value} {f g : Nat} {p q : List MemPlace} {enc enc' : TypeId × Value → Unit} {base base' : Nat} {sp sp' : Nat → Bool} {held held' : Bool}
    (hv : W.var? Tryd.prog "bulkhead/script.kinds" = some cs) (hd : DataW.trod enc Tryd.prog W base sp held f 64 cs.toList = some (Rows.laid_bulkhead_script_kinds, p))
    (hv' : W.var? Tryd.prog "internal/strconv.uint64pow10" = some ds) (hd' : DataW.trod enc' Tryd.prog W base' sp' held' g 104 ds.toList = some (Rows.laid_internal_strconv_uint64pow10, q)) : En W := by
  refine ⟨kn_of hv hd, ?_⟩
  have e : (Rows.laid_internal_strconv_uint64pow10 : DataW Unit) = Lib.tabData .u64 Lib.pow10Tab := by kernel_rfl
  rw [e] at hd'
  unfold Lib.TabIs
  rw [hv', ← Lib.cells_of_tab Tryd.underlying104 Tryd.underlying85 (by kernel_rfl) (by kernel_rfl) hd']
end Go.Proofs.YtfdcmhbpnadcpabDoor
