/-
  ProcFair: the arguments.
-/
import Derived.Test.YtofkacfchkimiaaRows
import Derived.Test.YtofkacfchkimiaaPFairW
import Derived.Deep.Slices
import Derived.ProofKit
import Derived.OpenShut
import Derived.ChangeOld
namespace Go.Proofs.Ytofkacfchkimiaa
open Go.ChangeShapes Go.WideShapes Go.ChangeAt Go.RowKit
set_option linter.unusedVariables false
set_option maxRecDepth 100000

theorem fair_any {F : Nat → Prop} {a : Option Addr} {m c : Nat} {xs : List Int} (count rounds : Int) (w : World) (hz : Zs w F a m c xs) :
    Calls Try.prog 5 #[.int .i64 count, .slice a m c, .int .i64 rounds] w fun e w' => e = .returned (.bool true) ∧ Below w.heap.size w w' :=
  (fair_law count rounds w hz).mono fun e w' h => ⟨h.1, h.2.below0⟩
theorem cellsOfZ : Try.prog.cellsOf 3 = 1 := by kernel_rfl
theorem fint_cell {H : Type} {enc : TypeId × Value → H} {W : World} {fuel : Nat} {cs : List Value} {x : DataW H × List MemPlace} (h : DataW.trod enc Try.prog W 0 (fun _ => true) true fuel 3 cs = some x) : ∃ i : Int, cs = [.int .i64 i] := by
  obtain ⟨x0, e0, _, _⟩ := DataW.trod_int Try.underlying3 h
  exact ⟨x0, e0⟩
theorem ints_cell {H : Type} {enc : TypeId × Value → H} {W : World} {fuel : Nat} {u : Value} {x : DataW H × List MemPlace} (h : DataW.trod enc Try.prog W 0 (fun _ => true) true fuel 65 [u] = some x) :
    ∃ (a : Option Addr) (n c : Nat) (xs : List Int), u = .slice a n c ∧ Zs W (fun k => k < W.heap.size) a n c xs := by
  rcases Go.Deep.open_slice Try.underlying65 h with ⟨hcs, hx⟩ | ⟨ad, l, k, m, nf, D, Pl, hcs, _, hl, hm, hmm, hx, hel⟩
  · simp at hcs
    subst hcs
    exact ⟨none, 0, 0, [], rfl, Zs.none _ _⟩
  · simp at hcs
    subst hcs
    simp at hmm
    rw [cellsOfZ] at hel
    have each : ∀ i, ∃ d : Int, i < l → (∃ b o, ad = ⟨b, o, none⟩ ∧ W.cell? ⟨b, o + i, none⟩ = some (.int .i64 d)) := by
      intro i
      by_cases hi : i < l
      · obtain ⟨cs', hc1, hc2⟩ := hel i (by omega)
        obtain ⟨_, hcl, hcc⟩ := World.cells?_some hc1
        obtain ⟨bk, off, spot⟩ := ad
        obtain ⟨d, rfl⟩ := fint_cell hc2
        have h0 := hcc 0 (by decide)
        have hs : spot = none := by
          obtain ⟨ds', hd1, _⟩ := hel 0 (by omega)
          obtain ⟨_, hdl, hdc⟩ := World.cells?_some hd1
          have h7 : 0 < ds'.length := by omega
          have := hdc 0 (by omega)
          rw [List.getElem?_eq_getElem h7] at this
          simpa [Addr.add] using World.cell?_spot this
        subst hs
        rw [add_none, add_none] at h0
        rw [Nat.mul_one] at h0
        exact ⟨d, fun _ => ⟨bk, off, rfl, h0⟩⟩
      · exact ⟨0, fun h => absurd h hi⟩
    obtain ⟨f, hf2⟩ := Classical.axiomOfChoice each
    refine ⟨some ad, l, k, (List.range l).map f, rfl, ⟨by simp, hl, hm, fun e => (by cases e), fun i hi => ?_⟩⟩
    obtain ⟨b, o, e, h0⟩ := hf2 i hi
    refine ⟨b, o, by rw [e], cell_lt h0, ?_⟩
    rw [h0]
    simp [List.getD, hi, iv]
theorem open_ints {H : Type} {enc : TypeId × Value → H} {W : World} {base : Nat} {v : Value} {d : DataW H} {p : List MemPlace}
    (hv : Value.okWide Try.prog W .any base 65 v) (h : DataW.Trod enc Try.prog W 0 (fun _ => true) true 65 v d p) :
    ∃ (a : Option Addr) (n c : Nat) (xs : List Int), v = .slice a n c ∧ Zs W (fun k => k < W.heap.size) a n c xs := by
  obtain ⟨a, n, c, rfl⟩ := okWide_slice Try.underlying65 hv
  obtain ⟨fuel, hf⟩ := h
  obtain ⟨a', n', c', xs, e, hC⟩ := ints_cell hf
  injection e with e1 e2 e3
  subst e1 e2 e3
  exact ⟨a, n, c, xs, rfl, hC⟩
end Go.Proofs.Ytofkacfchkimiaa
