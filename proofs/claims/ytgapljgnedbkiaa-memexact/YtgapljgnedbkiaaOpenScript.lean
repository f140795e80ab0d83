/-
  A script opened.
-/
import Derived.Test.YtgapljgnedbkiaaOpen
import Derived.Test.YtgapljgnedbkiaaScript
import Derived.Deep.Slices
namespace Go.Proofs.Ytgapljgnedbkiaa
open Go.ChangeShapes Go.WideShapes Go.ChangeAt Go.RowKit
set_option linter.unusedVariables false

theorem cells34 : Try.prog.cellsOf 34 = 6 := by kernel_rfl
theorem cells3 : Try.prog.cellsOf 3 = 1 := by kernel_rfl
theorem cells22 : Try.prog.cellsOf 22 = 1 := by kernel_rfl

/-- a slice of words in a cell -/
theorem words_cell {H : Type} {enc : TypeId × Value → H} {W : World} {fuel : Nat} {u : Value} {x : DataW H × List MemPlace} (h : DataW.trod enc Try.prog W 0 (fun _ => true) true fuel 22 [u] = some x) :
    ∃ (a : Option Addr) (n c : Nat) (xs : List Int), u = .slice a n c ∧ Zs W (fun k => k < W.heap.size) a n c xs ∧ (∀ z ∈ xs, I64 z) ∧ (c = 0 ∨ ∃ es sp, x.1 = .slice es sp ∧ es.length + sp.length = c) := by
  rcases open_ints Try.underlying22 Try.underlying2 cells2 h with ⟨hcs, rfl⟩ | ⟨ad, n, c, zs, hcs, _, hl, hm, hz, rfl, hcell, hwz⟩
  · simp at hcs
    subst hcs
    exact ⟨none, 0, 0, [], rfl, ⟨rfl, by omega, by omega, fun _ => rfl, fun i hi => by omega⟩, (fun x hx => by cases hx), .inl rfl⟩
  · simp at hcs
    subst hcs
    simp at hz
    refine ⟨some ad, n, c, zs.take n, rfl, ⟨by rw [List.length_take]; omega, hl, hm, fun h => (by cases h), fun i hi => ?_⟩, fun z hz2 => wf_i64 (hwz z (List.mem_of_mem_take hz2)), .inr ⟨_, _, rfl, by simp [lits]; omega⟩⟩
    have hc := hcell i (by omega)
    have h0 := hcell 0 (by omega)
    obtain ⟨bk, off, spot⟩ := ad
    have hs : spot = none := by simpa [Addr.add] using World.cell?_spot h0
    subst hs
    rw [add_none] at hc
    refine ⟨bk, off, rfl, cell_lt hc, ?_⟩
    rw [hc]
    have e : (zs.take n).getD i 0 = zs.getD i 0 := by simp [List.getD, hi]
    rw [e]; rfl

theorem list6 {α : Type} {l : List α} (h : l.length = 6) : ∃ c0 c1 c2 c3 c4 c5, l = [c0, c1, c2, c3, c4, c5] := by
  match l, h with
  | [c0, c1, c2, c3, c4, c5], _ => exact ⟨c0, c1, c2, c3, c4, c5, rfl⟩

theorem op_cells {H : Type} {enc : TypeId × Value → H} {W : World} {fuel : Nat} {cs : List Value} {x : DataW H × List MemPlace} {b o : Nat} (hc : ∀ j u, cs[j]? = some u → W.cell? ⟨b, o + j, none⟩ = some u) (h : DataW.trod enc Try.prog W 0 (fun _ => true) true fuel 34 cs = some x)
    (hw : ∀ n ∈ x.1.weights Try.prog 34, n ≤ reachBytes) : ∃ d : OpD, OpOk W b o d := by
  obtain ⟨ys, n, _, rfl, hlc, hlen, hfs⟩ := DataW.trod_struct Try.underlying34 h
  rw [cells34] at hlc
  obtain ⟨c0, c1, c2, c3, c4, c5, rfl⟩ := list6 hlc
  obtain ⟨y0, y1, y2, y3, y4, y5, rfl⟩ := list6 (show ys.length = 6 from hlen)
  have g0 := hfs 0 _ rfl
  have g1 := hfs 1 _ rfl
  have g2 := hfs 2 _ rfl
  have g3 := hfs 3 _ rfl
  have g4 := hfs 4 _ rfl
  have g5 := hfs 5 _ rfl
  simp [cells2, cells3, cells22] at g0 g1 g2 g3 g4 g5
  obtain ⟨K, e0, _, w0⟩ := DataW.trod_int Try.underlying3 g0
  obtain ⟨Fx, e1, _, w1⟩ := DataW.trod_int Try.underlying3 g1
  obtain ⟨A, e2, _, w2⟩ := DataW.trod_int Try.underlying2 g2
  obtain ⟨N, e3, _, w3⟩ := DataW.trod_int Try.underlying3 g3
  obtain ⟨V, e4, _, w4⟩ := DataW.trod_int Try.underlying2 g4
  obtain ⟨da, dn, dc, ds, rfl, hZ, hzz, kZ⟩ := words_cell g5
  simp at e0 e1 e2 e3 e4
  subst e0 e1 e2 e3 e4
  refine ⟨⟨K, Fx, A, N, V, ds⟩, da, dn, dc, ⟨hc 0 _ rfl, hc 1 _ rfl, hc 2 _ rfl, hc 3 _ rfl, hc 4 _ rfl, hc 5 _ rfl⟩, hZ, ?_, wf_i64 w1, wf_i64 w2, wf_i64 w3, wf_i64 w4, hzz⟩
  rcases kZ with h0 | ⟨es, sp, hd, he⟩
  · have := hZ.cap; omega
  · have h1 := hw ((es.length + sp.length) * Try.prog.bytesOf 2) (by
      simp only [List.map, DataW.weights, Try.underlying34]
      refine DataW.weights_mem_each (P := Try.prog) (j := 5) (t := 22) (d := y5.1) (by rfl) (by rfl) _ ?_
      rw [hd]
      simp [DataW.weights, Try.underlying22])
    rw [bytes2] at h1
    simp only [reachBytes] at h1
    have := hZ.cap
    omega

theorem weights_all {H : Type} (e : TypeId) : ∀ (l : List (DataW H)) (d : DataW H), d ∈ l → ∀ n ∈ d.weights Try.prog e, n ∈ DataW.weightsAll Try.prog e l
  | [], d, h, _, _ => by cases h
  | x :: r, d, h, n, hn => by
    simp only [DataW.weightsAll, List.mem_append]
    rcases List.mem_cons.1 h with rfl | h1
    · exact .inl hn
    · exact .inr (weights_all e r d h1 n hn)

theorem open_script {H : Type} {enc : TypeId × Value → H} {W : World} {base : Nat} {v : Value} {d : DataW H} {p : List MemPlace}
    (hv : Value.okWide Try.prog W .any base 31 v) (h : DataW.Trod enc Try.prog W 0 (fun _ => true) true 31 v d p) (hw : ∀ n ∈ d.weights Try.prog 31, n ≤ reachBytes) :
    ∃ (a : Option Addr) (m c : Nat) (os : List OpD), v = .slice a m c ∧ Sc W a m c os := by
  obtain ⟨a, n, c, rfl⟩ := okWide_slice Try.underlying31 hv
  obtain ⟨fuel, hf⟩ := h
  rcases Go.Deep.open_slice Try.underlying31 hf with ⟨hcs, hx⟩ | ⟨x, l, k, m, nf, D, Pl, hcs, _, hl, hm, hmm, hx, hel⟩
  · simp [Value.cells] at hcs
    obtain ⟨rfl, rfl, rfl⟩ := hcs
    exact ⟨none, 0, 0, [], rfl, rfl, by omega, by omega, fun i d h => by simp at h⟩
  · simp [Value.cells] at hcs
    obtain ⟨rfl, rfl, rfl⟩ := hcs
    simp at hmm
    injection hx with h1 h2
    rw [cells34] at hel
    have hwD : ∀ i, i < n → ∀ q ∈ (D i).weights Try.prog 34, q ≤ reachBytes := by
      intro i hi q hq
      refine hw q ?_
      rw [h1]
      simp only [DataW.weights, Try.underlying31, List.mem_cons, List.mem_append]
      refine .inr (.inl (weights_all 34 _ (D i) ?_ q hq))
      exact List.mem_map.2 ⟨i, List.mem_range.2 hi, rfl⟩
    have each : ∀ i, ∃ d : OpD, i < n → (∃ b o, x = ⟨b, o, none⟩ ∧ OpOk W b (o + i * 6) d) := by
      intro i
      by_cases hi : i < n
      · obtain ⟨cs', hc1, hc2⟩ := hel i (by omega)
        obtain ⟨_, hcl, hcc⟩ := World.cells?_some hc1
        obtain ⟨bk, off, spot⟩ := x
        have hs : spot = none := by
          obtain ⟨ds', hd1, _⟩ := hel 0 (by omega)
          obtain ⟨_, hdl, hdc⟩ := World.cells?_some hd1
          have h7 : 0 < ds'.length := by omega
          have := hdc 0 (by omega)
          rw [List.getElem?_eq_getElem h7] at this
          simpa [Addr.add] using World.cell?_spot this
        subst hs
        obtain ⟨d, hd1⟩ := op_cells (b := bk) (o := off + i * 6) (fun j u hj => by
          have hjl : j < 6 := by have := (List.getElem?_eq_some_iff.1 hj).1; omega
          have := hcc j hjl
          rw [add_none, add_none] at this
          rw [this, hj]) hc2 (hwD i hi)
        exact ⟨d, fun _ => ⟨bk, off, rfl, hd1⟩⟩
      · exact ⟨⟨0, 0, 0, 0, 0, []⟩, fun h => absurd h hi⟩
    obtain ⟨f, hf2⟩ := Classical.axiomOfChoice each
    refine ⟨some x, n, c, (List.range n).map f, rfl, by simp, hl, hm, ?_⟩
    intro i d hd
    have hi : i < n := by
      have := (List.getElem?_eq_some_iff.1 hd).1
      simpa using this
    have e : d = f i := by simp [hi] at hd; exact hd.symm
    obtain ⟨b, o, hx1, ho⟩ := hf2 i hi
    exact ⟨b, o, by rw [hx1], by rw [e]; exact ho⟩

end Go.Proofs.Ytgapljgnedbkiaa
