/-
  The arguments opened.
-/
import Derived.Test.YthebokkogeigoaaRows
import Derived.Test.YthebokkogeigoaaPWork
import Derived.Deep.Slices
import Derived.ProofKit
import Derived.OpenShut
import Derived.ChangeOld
namespace Go.Proofs.Ythebokkogeigoaa
open Go.ChangeShapes Go.WideShapes Go.ChangeAt Go.RowKit
set_option linter.unusedVariables false
set_option maxRecDepth 100000

theorem wf_six {x : Int} (h : (Lit.int .i64 x).wf = true) : I6 x := by
  simp [Lit.wf, IntKind.min, IntKind.max, IntKind.bits, IntKind.signed] at h
  unfold I6
  omega
theorem wf_u8 {x : Int} (h : (Lit.int .u8 x).wf = true) : 0 ≤ x ∧ x < 256 := by
  simp [Lit.wf, IntKind.min, IntKind.max, IntKind.bits, IntKind.signed] at h
  omega
theorem wf_top {x : Int} (h : (Lit.int .i64 x).wf = true) : x ≤ 9223372036854775807 := by
  simp [Lit.wf, IntKind.min, IntKind.max, IntKind.bits, IntKind.signed] at h
  omega
theorem cellsOfI : Try.prog.cellsOf 3 = 1 := by kernel_rfl
theorem cellsOfW : Try.prog.cellsOf 2 = 1 := by kernel_rfl
theorem cellsOfB : Try.prog.cellsOf 4 = 1 := by kernel_rfl
theorem cellsOfL : Try.prog.cellsOf 22 = 1 := by kernel_rfl
/-- a slice of words in a cell -/
theorem words_cell {H : Type} {enc : TypeId × Value → H} {W : World} {fuel : Nat} {u : Value} {x : DataW H × List MemPlace} (h : DataW.trod enc Try.prog W 0 (fun _ => true) true fuel 22 [u] = some x) :
    ∃ (a : Option Addr) (c : Nat) (xs : List Int), u = .slice a xs.length c ∧ Zs W (fun k => k < W.heap.size) a xs.length c xs := by
  rcases open_ints Try.underlying22 Try.underlying2 cellsOfW h with ⟨hcs, rfl⟩ | ⟨ad, n, c, zs, hcs, _, hl, hm, hz, rfl, hcell, hwz⟩
  · simp at hcs
    subst hcs
    exact ⟨none, 0, [], rfl, Zs.none _ _⟩
  · simp at hcs
    subst hcs
    simp at hz
    have hln : (zs.take n).length = n := by rw [List.length_take]; omega
    refine ⟨some ad, c, zs.take n, by rw [hln], ⟨rfl, by omega, hm, fun h => (by cases h), fun i hi => ?_⟩⟩
    rw [hln] at hi
    have hc := hcell i (by omega)
    have h0 := hcell 0 (by omega)
    obtain ⟨bk, off, spot⟩ := ad
    have hs : spot = none := by simpa [Addr.add] using World.cell?_spot h0
    subst hs
    rw [add_none] at hc
    refine ⟨bk, off, rfl, cell_lt hc, ?_⟩
    rw [hc]
    have e : (zs.take n).getD i 0 = zs.getD i 0 := by simp [List.getD, hi]
    rw [e]; rfl
theorem open_words {H : Type} {enc : TypeId × Value → H} {W : World} {base : Nat} {v : Value} {d : DataW H} {p : List MemPlace}
    (hv : Value.okWide Try.prog W .any base 22 v) (h : DataW.Trod enc Try.prog W 0 (fun _ => true) true 22 v d p) :
    ∃ (a : Option Addr) (c : Nat) (xs : List Int), v = .slice a xs.length c ∧ Zs W (fun k => k < W.heap.size) a xs.length c xs := by
  obtain ⟨a, n, c, rfl⟩ := okWide_slice Try.underlying22 hv
  obtain ⟨fuel, hf⟩ := h
  exact words_cell (u := .slice a n c) hf
theorem cellsOfP : Try.prog.cellsOf 30 = 6 := by kernel_rfl
theorem cellsOfO : Try.prog.cellsOf 44 = 6 := by kernel_rfl
theorem list6 {α : Type} {l : List α} (h : l.length = 6) : ∃ c0 c1 c2 c3 c4 c5, l = [c0, c1, c2, c3, c4, c5] := by
  match l, h with
  | [c0, c1, c2, c3, c4, c5], _ => exact ⟨c0, c1, c2, c3, c4, c5, rfl⟩
theorem port_cells {H : Type} {enc : TypeId × Value → H} {W : World} {fuel : Nat} {cs : List Value} {x : DataW H × List MemPlace} (h : DataW.trod enc Try.prog W 0 (fun _ => true) true fuel 30 cs = some x) : ∃ d : Pr, cs = pc d := by
  obtain ⟨ys, n, _, rfl, hlc, hlen, hfs⟩ := DataW.trod_struct Try.underlying30 h
  rw [cellsOfP] at hlc
  obtain ⟨c0, c1, c2, c3, c4, c5, rfl⟩ := list6 hlc
  obtain ⟨y0, y1, y2, y3, y4, y5, rfl⟩ := list6 (show ys.length = 6 from hlen)
  have g0 := hfs 0 _ rfl
  have g1 := hfs 1 _ rfl
  have g2 := hfs 2 _ rfl
  have g3 := hfs 3 _ rfl
  have g4 := hfs 4 _ rfl
  have g5 := hfs 5 _ rfl
  simp [cellsOfI, cellsOfB] at g0 g1 g2 g3 g4 g5
  obtain ⟨x0, e0, _, _⟩ := DataW.trod_int Try.underlying3 g0
  obtain ⟨x1, e1, _, _⟩ := DataW.trod_int Try.underlying3 g1
  obtain ⟨x2, e2, _⟩ := DataW.trod_bool Try.underlying4 g2
  obtain ⟨x3, e3, _, _⟩ := DataW.trod_int Try.underlying3 g3
  obtain ⟨x4, e4, _, _⟩ := DataW.trod_int Try.underlying3 g4
  obtain ⟨x5, e5, _, _⟩ := DataW.trod_int Try.underlying3 g5
  simp at e0 e1 e2 e3 e4 e5
  subst e0 e1 e2 e3 e4 e5
  exact ⟨⟨x0, x1, x2, x3, x4, x5⟩, rfl⟩
theorem open_ports {H : Type} {enc : TypeId × Value → H} {W : World} {base : Nat} {v : Value} {d : DataW H} {p : List MemPlace}
    (hv : Value.okWide Try.prog W .any base 24 v) (h : DataW.Trod enc Try.prog W 0 (fun _ => true) true 24 v d p) :
    ∃ (a : Option Addr) (n c : Nat) (ps : Nat → Pr), v = .slice a n c ∧ Pl W (fun k => k < W.heap.size) a n c ps := by
  obtain ⟨a, n, c, rfl⟩ := okWide_slice Try.underlying24 hv
  obtain ⟨fuel, hf⟩ := h
  rcases Go.Deep.open_slice Try.underlying24 hf with ⟨hcs, hx⟩ | ⟨ad, l, k, m, nf, D, Pl, hcs, _, hl, hm, hmm, hx, hel⟩
  · simp [Value.cells] at hcs
    obtain ⟨rfl, rfl, rfl⟩ := hcs
    exact ⟨none, 0, 0, fun _ => ⟨0, 0, false, 0, 0, 0⟩, rfl, ⟨by omega, by omega, fun i hi => by omega⟩⟩
  · simp [Value.cells] at hcs
    obtain ⟨rfl, rfl, rfl⟩ := hcs
    simp at hmm
    rw [cellsOfP] at hel
    have each : ∀ i, ∃ d : Pr, i < n → (∃ b o, ad = ⟨b, o, none⟩ ∧ ∀ j, j < 6 → W.cell? ⟨b, o + i * 6 + j, none⟩ = (pc d)[j]?) := by
      intro i
      by_cases hi : i < n
      · obtain ⟨cs', hc1, hc2⟩ := hel i (by omega)
        obtain ⟨_, hcl, hcc⟩ := World.cells?_some hc1
        obtain ⟨bk, off, spot⟩ := ad
        obtain ⟨d, rfl⟩ := port_cells hc2
        have hs : spot = none := by
          obtain ⟨ds', hd1, _⟩ := hel 0 (by omega)
          obtain ⟨_, hdl, hdc⟩ := World.cells?_some hd1
          have h7 : 0 < ds'.length := by omega
          have := hdc 0 (by omega)
          rw [List.getElem?_eq_getElem h7] at this
          simpa [Addr.add] using World.cell?_spot this
        subst hs
        refine ⟨d, fun _ => ⟨bk, off, rfl, fun j hj => ?_⟩⟩
        have := hcc j hj
        rw [add_none, add_none] at this
        exact this
      · exact ⟨⟨0, 0, false, 0, 0, 0⟩, fun h => absurd h hi⟩
    obtain ⟨f, hf2⟩ := Classical.axiomOfChoice each
    refine ⟨some ad, n, c, f, rfl, ⟨hl, hm, fun i hi => ?_⟩⟩
    obtain ⟨b, o, e, r⟩ := hf2 i hi
    have h0 := r 0 (by decide)
    exact ⟨b, o, by rw [e], cell_lt h0, h0, r 1 (by decide), r 2 (by decide), r 3 (by decide), r 4 (by decide), r 5 (by decide)⟩
end Go.Proofs.Ythebokkogeigoaa
