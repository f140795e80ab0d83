/-
  An argument opened: a list of numbers.
-/
import Derived.Test.YtffgcijicmfmlaaGreatDoorOOpen
import Derived.Test.YtffgcijicmfmlaaGreatDoorDStepsW
namespace Go.Proofs.YtffgcijicmfmlaaGreatDoor
open Go.ChangeShapes Go.WideShapes Go.ChangeAt Go.RowKit
set_option linter.unusedVariables false

theorem ints_cell {H : Type} {enc : TypeId × Value → H} {W : World} {fuel : Nat} {u : Value} {x : DataW H × List MemPlace} (h : DataW.trod enc Tryz.prog W 0 (fun _ => true) true fuel 23 [u] = some x) :
    ∃ (a : Option Addr) (n c : Nat) (xs : List Int), u = .slice a n c ∧ Is W (fun k => k < W.heap.size) a n c xs := by
  rcases Go.Deep.open_slice Tryz.underlying23 h with ⟨hcs, hx⟩ | ⟨ad, l, k, m, nf, D, Pl, hcs, _, hl, hm, hmm, hx, hel⟩
  · simp at hcs
    subst hcs
    exact ⟨none, 0, 0, [], rfl, ⟨rfl, by omega, by omega, (fun x hx => by cases hx), (fun i x hx => by cases hx)⟩⟩
  · simp at hcs
    subst hcs
    simp at hmm
    rw [cellsOfI] at hel
    have each : ∀ i, ∃ d : Int, i < l → (I6 d ∧ ∃ b o, ad = ⟨b, o, none⟩ ∧ W.cell? ⟨b, o + i, none⟩ = some (.int .i64 d)) := by
      intro i
      by_cases hi : i < l
      · obtain ⟨cs', hc1, hc2⟩ := hel i (by omega)
        obtain ⟨_, hcl, hcc⟩ := World.cells?_some hc1
        obtain ⟨bk, off, spot⟩ := ad
        obtain ⟨d, rfl, _, w0⟩ := DataW.trod_int Tryz.underlying3 hc2
        have hs : spot = none := by
          obtain ⟨ds', hd1, _⟩ := hel 0 (by omega)
          obtain ⟨_, hdl, hdc⟩ := World.cells?_some hd1
          have h7 : 0 < ds'.length := by omega
          have := hdc 0 (by omega)
          rw [List.getElem?_eq_getElem h7] at this
          simpa [Addr.add] using World.cell?_spot this
        subst hs
        have h0 := hcc 0 (by decide)
        rw [add_none, add_none, Nat.mul_one, Nat.add_zero] at h0
        exact ⟨d, fun _ => ⟨wf_i64 w0, bk, off, rfl, h0⟩⟩
      · exact ⟨0, fun h => absurd h hi⟩
    obtain ⟨f, hf2⟩ := Classical.axiomOfChoice each
    refine ⟨some ad, l, k, (List.range l).map f, rfl, ⟨by simp, hl, hm, ?_, ?_⟩⟩
    · intro x hx
      rw [List.mem_map] at hx
      obtain ⟨i, hi, rfl⟩ := hx
      exact (hf2 i (List.mem_range.1 hi)).1
    · intro i x hx
      have hi : i < l := by
        apply Decidable.byContradiction
        intro hn
        rw [List.getElem?_eq_none (by simp; omega)] at hx
        cases hx
      obtain ⟨_, b, o, e, h0⟩ := hf2 i hi
      rw [List.getElem?_map, List.getElem?_range hi] at hx
      simp at hx
      subst hx
      exact ⟨b, o, by rw [e], cell_lt h0, h0⟩
set_option maxRecDepth 100000 in
theorem open_ints {H : Type} {enc : TypeId × Value → H} {W : World} {base : Nat} {v : Value} {d : DataW H} {p : List MemPlace}
    (hv : Value.okWide Tryz.prog W .any base 23 v) (h : DataW.Trod enc Tryz.prog W 0 (fun _ => true) true 23 v d p) :
    ∃ (a : Option Addr) (n c : Nat) (xs : List Int), v = .slice a n c ∧ Is W (fun k => k < W.heap.size) a n c xs := by
  obtain ⟨a, n, c, rfl⟩ := okWide_slice Tryz.underlying23 hv
  obtain ⟨fuel, hf⟩ := h
  obtain ⟨a', n', c', xs, e, hC⟩ := ints_cell hf
  injection e with e1 e2 e3
  subst e1 e2 e3
  exact ⟨a, n, c, xs, rfl, hC⟩

end Go.Proofs.YtffgcijicmfmlaaGreatDoor
