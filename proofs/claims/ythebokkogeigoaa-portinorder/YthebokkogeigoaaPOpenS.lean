/-
  A script opened.
-/
import Derived.Test.YthebokkogeigoaaPOpenB
import Derived.Test.YthebokkogeigoaaPIn
namespace Go.Proofs.Ythebokkogeigoaa
open Go.ChangeShapes Go.WideShapes Go.ChangeAt Go.RowKit
set_option linter.unusedVariables false
set_option maxRecDepth 100000

theorem op_cells {H : Type} {enc : TypeId × Value → H} {W : World} {fuel : Nat} {cs : List Value} {x : DataW H × List MemPlace} (h : DataW.trod enc Try.prog W 0 (fun _ => true) true fuel 44 cs = some x) :
    ∃ (d : Oq) (a : Option Addr) (c : Nat), cs = [.int .i64 d.kd, .int .i64 d.prt, .slice a d.dt.length c, .int .i64 d.now, .int .i64 d.srt, .bool d.out] ∧ I6 d.prt ∧ Zs W (fun k => k < W.heap.size) a d.dt.length c d.dt := by
  obtain ⟨ys, n, _, rfl, hlc, hlen, hfs⟩ := DataW.trod_struct Try.underlying44 h
  rw [cellsOfO] at hlc
  obtain ⟨c0, c1, c2, c3, c4, c5, rfl⟩ := list6 hlc
  obtain ⟨y0, y1, y2, y3, y4, y5, rfl⟩ := list6 (show ys.length = 6 from hlen)
  have g0 := hfs 0 _ rfl
  have g1 := hfs 1 _ rfl
  have g2 := hfs 2 _ rfl
  have g3 := hfs 3 _ rfl
  have g4 := hfs 4 _ rfl
  have g5 := hfs 5 _ rfl
  simp [cellsOfI, cellsOfB, cellsOfL] at g0 g1 g2 g3 g4 g5
  obtain ⟨x0, e0, _, _⟩ := DataW.trod_int Try.underlying3 g0
  obtain ⟨x1, e1, _, w1⟩ := DataW.trod_int Try.underlying3 g1
  obtain ⟨a, c, xs, rfl, hz⟩ := words_cell g2
  obtain ⟨x3, e3, _, _⟩ := DataW.trod_int Try.underlying3 g3
  obtain ⟨x4, e4, _, _⟩ := DataW.trod_int Try.underlying3 g4
  obtain ⟨x5, e5, _⟩ := DataW.trod_bool Try.underlying4 g5
  simp at e0 e1 e3 e4 e5
  subst e0 e1 e3 e4 e5
  exact ⟨⟨x0, x1, xs, x3, x4, x5⟩, a, c, rfl, wf_six w1, hz⟩
theorem open_ops {H : Type} {enc : TypeId × Value → H} {W : World} {base : Nat} {v : Value} {d : DataW H} {p : List MemPlace}
    (hv : Value.okWide Try.prog W .any base 40 v) (h : DataW.Trod enc Try.prog W 0 (fun _ => true) true 40 v d p) :
    ∃ (a : Option Addr) (n c : Nat) (os : Nat → Oq), v = .slice a n c ∧ Sk W (fun k => k < W.heap.size) a n c os := by
  obtain ⟨a, n, c, rfl⟩ := okWide_slice Try.underlying40 hv
  obtain ⟨fuel, hf⟩ := h
  rcases Go.Deep.open_slice Try.underlying40 hf with ⟨hcs, hx⟩ | ⟨ad, l, k, m, nf, D, Pl, hcs, _, hl, hm, hmm, hx, hel⟩
  · simp [Value.cells] at hcs
    obtain ⟨rfl, rfl, rfl⟩ := hcs
    exact ⟨none, 0, 0, fun _ => ⟨0, 0, [], 0, 0, false⟩, rfl, ⟨by omega, by omega, fun i hi => by omega, fun i hi => by omega⟩⟩
  · simp [Value.cells] at hcs
    obtain ⟨rfl, rfl, rfl⟩ := hcs
    simp at hmm
    rw [cellsOfO] at hel
    have each : ∀ i, ∃ d : Oq, i < n → I6 d.prt ∧ (∃ b o da dc, ad = ⟨b, o, none⟩ ∧ (∀ j, j < 6 → W.cell? ⟨b, o + i * 6 + j, none⟩ = [Value.int .i64 d.kd, .int .i64 d.prt, .slice da d.dt.length dc, .int .i64 d.now, .int .i64 d.srt, .bool d.out][j]?) ∧ Zs W (fun k => k < W.heap.size) da d.dt.length dc d.dt) := by
      intro i
      by_cases hi : i < n
      · obtain ⟨cs', hc1, hc2⟩ := hel i (by omega)
        obtain ⟨_, hcl, hcc⟩ := World.cells?_some hc1
        obtain ⟨bk, off, spot⟩ := ad
        obtain ⟨d, a8, c8, rfl, h6, hz⟩ := op_cells hc2
        have hs : spot = none := by
          obtain ⟨ds', hd1, _⟩ := hel 0 (by omega)
          obtain ⟨_, hdl, hdc⟩ := World.cells?_some hd1
          have h7 : 0 < ds'.length := by omega
          have := hdc 0 (by omega)
          rw [List.getElem?_eq_getElem h7] at this
          simpa [Addr.add] using World.cell?_spot this
        subst hs
        refine ⟨d, fun _ => ⟨h6, bk, off, a8, c8, rfl, fun j hj => ?_, hz⟩⟩
        have := hcc j hj
        rw [add_none, add_none] at this
        exact this
      · exact ⟨⟨0, 0, [], 0, 0, false⟩, fun h => absurd h hi⟩
    obtain ⟨f, hf2⟩ := Classical.axiomOfChoice each
    refine ⟨some ad, n, c, f, rfl, ⟨hl, hm, fun i hi => (hf2 i hi).1, fun i hi => ?_⟩⟩
    obtain ⟨_, b, o, da, dc, e, r, hz⟩ := hf2 i hi
    have h0 := r 0 (by decide)
    exact ⟨b, o, da, dc, by rw [e], cell_lt h0, h0, r 1 (by decide), r 2 (by decide), r 3 (by decide), r 4 (by decide), r 5 (by decide), hz⟩
end Go.Proofs.Ythebokkogeigoaa
