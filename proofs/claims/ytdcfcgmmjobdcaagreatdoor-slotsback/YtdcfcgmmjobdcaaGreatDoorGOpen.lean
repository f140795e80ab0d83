/-
  The arguments opened: a table; the one variable.
-/
import Derived.Test.YtdcfcgmmjobdcaaGreatDoorRows
import Derived.Test.YtdcfcgmmjobdcaaGreatDoorGLen
import Derived.Test.YtdcfcgmmjobdcaaGreatDoorORuns
import Derived.Deep.Slices
import Derived.ProofKit
import Derived.OpenShut
import Derived.ChangeOld
import Derived.SizedLaws
import Derived.LaidLaws
import Derived.LaidHandle
import Derived.Stop.Joined
namespace Go.Proofs.YtdcfcgmmjobdcaaGreatDoor
open Go.ChangeShapes Go.WideShapes Go.ChangeAt Go.RowKit
set_option linter.unusedVariables false
set_option maxRecDepth 100000

theorem wf_i64 {n : Int} (h : (Lit.int .i64 n).wf = true) : I6 n := by
  simp [Lit.wf, IntKind.min, IntKind.max, IntKind.bits, IntKind.signed] at h
  unfold I6
  omega
theorem cellsOfI : Tryz.prog.cellsOf 3 = 1 := by kernel_rfl
theorem cellsOfL : Tryz.prog.cellsOf 78 = 2 := by kernel_rfl
theorem cellsOfLs : Tryz.prog.cellsOf 27 = 1 := by kernel_rfl
theorem cellsOfT : Tryz.prog.cellsOf 29 = 2 := by kernel_rfl
theorem list2 {α : Type} {l : List α} (h : l.length = 2) : ∃ c0 c1, l = [c0, c1] := by
  match l, h with
  | [c0, c1], _ => exact ⟨c0, c1, rfl⟩
theorem slot_cells {H : Type} {enc : TypeId × Value → H} {W : World} {fuel : Nat} {cs : List Value} {x : DataW H × List MemPlace} (h : DataW.trod enc Tryz.prog W 0 (fun _ => true) true fuel 78 cs = some x) :
    ∃ i : Int × Int, cs = [.int .i64 i.1, .int .i64 i.2] := by
  obtain ⟨ys, n, _, rfl, hlc, hlen, hfs⟩ := DataW.trod_struct Tryz.underlying78 h
  rw [cellsOfL] at hlc
  obtain ⟨c0, c1, rfl⟩ := list2 hlc
  obtain ⟨y0, y1, rfl⟩ := list2 (show ys.length = 2 from hlen)
  have g0 := hfs 0 _ rfl
  have g1 := hfs 1 _ rfl
  simp [cellsOfI] at g0 g1
  obtain ⟨x0, e0, _, w0⟩ := DataW.trod_int Tryz.underlying3 g0
  obtain ⟨x1, e1, _, w1⟩ := DataW.trod_int Tryz.underlying3 g1
  simp at e0 e1
  subst e0 e1
  exact ⟨(x0, x1), rfl⟩
theorem slots_cell {H : Type} {enc : TypeId × Value → H} {W : World} {fuel : Nat} {u : Value} {x : DataW H × List MemPlace} (h : DataW.trod enc Tryz.prog W 0 (fun _ => true) true fuel 27 [u] = some x) :
    ∃ (a : Option Addr) (n c : Nat) (xs : List (Int × Int)), u = .slice a n c ∧ Sl W (fun k => k < W.heap.size) a n c xs := by
  rcases Go.Deep.open_slice Tryz.underlying27 h with ⟨hcs, hx⟩ | ⟨ad, l, k, m, nf, D, Pl, hcs, _, hl, hm, hmm, hx, hel⟩
  · simp at hcs
    subst hcs
    exact ⟨none, 0, 0, [], rfl, ⟨rfl, by omega, by omega, fun _ => rfl, (fun i x hx => by cases hx)⟩⟩
  · simp at hcs
    subst hcs
    simp at hmm
    rw [cellsOfL] at hel
    have each : ∀ i, ∃ d : Int × Int, i < l → (∃ b o, ad = ⟨b, o, none⟩ ∧ W.cell? ⟨b, o + i * 2, none⟩ = some (.int .i64 d.1) ∧ W.cell? ⟨b, o + i * 2 + 1, none⟩ = some (.int .i64 d.2)) := by
      intro i
      by_cases hi : i < l
      · obtain ⟨cs', hc1, hc2⟩ := hel i (by omega)
        obtain ⟨_, hcl, hcc⟩ := World.cells?_some hc1
        obtain ⟨bk, off, spot⟩ := ad
        obtain ⟨d, rfl⟩ := slot_cells hc2
        have hs : spot = none := by
          obtain ⟨ds', hd1, _⟩ := hel 0 (by omega)
          obtain ⟨_, hdl, hdc⟩ := World.cells?_some hd1
          have h7 : 0 < ds'.length := by omega
          have := hdc 0 (by omega)
          rw [List.getElem?_eq_getElem h7] at this
          simpa [Addr.add] using World.cell?_spot this
        subst hs
        have at' : ∀ j, j < 2 → W.cell? ⟨bk, off + i * 2 + j, none⟩ = [Value.int .i64 d.1, .int .i64 d.2][j]? := by
          intro j hj
          have := hcc j hj
          rw [add_none, add_none] at this
          exact this
        exact ⟨d, fun _ => ⟨bk, off, rfl, at' 0 (by decide), at' 1 (by decide)⟩⟩
      · exact ⟨(0, 0), fun h => absurd h hi⟩
    obtain ⟨f, hf2⟩ := Classical.axiomOfChoice each
    refine ⟨some ad, l, k, (List.range l).map f, rfl, ⟨by simp, hl, hm, fun e => (by cases e), ?_⟩⟩
    intro i x hx
    have hi : i < l := by
      apply Decidable.byContradiction
      intro hn
      rw [List.getElem?_eq_none (by simp; omega)] at hx
      cases hx
    obtain ⟨b, o, e, h0, r⟩ := hf2 i hi
    rw [List.getElem?_map, List.getElem?_range hi] at hx
    simp at hx
    subst hx
    exact ⟨b, o, by rw [e], cell_lt h0, h0, r⟩
theorem agg_of_many {v : Value} (h : 2 ≤ v.cells.toList.length) : ∃ cs : Array Value, v = .agg cs ∧ v.cells.toList = cs.toList := by
  cases v with
  | agg cs => exact ⟨cs, rfl, rfl⟩
  | _ => simp [Value.cells] at h
theorem open_table {H : Type} {enc : TypeId × Value → H} {W : World} {v : Value} {d : DataW H} {p : List MemPlace}
    (h : DataW.Trod enc Tryz.prog W 0 (fun _ => true) true 29 v d p) :
    ∃ (a0 : Option Addr) (n0 c0 : Nat) (P : List (Int × Int)) (a1 : Option Addr) (n1 c1 : Nat) (C : List (Int × Int)), v = .agg #[.slice a0 n0 c0, .slice a1 n1 c1] ∧ Sl W (fun k => k < W.heap.size) a0 n0 c0 P ∧ Sl W (fun k => k < W.heap.size) a1 n1 c1 C := by
  obtain ⟨fuel, hf⟩ := h
  obtain ⟨xs, n, _, hd, hcl, hlen, hfs⟩ := DataW.trod_struct Tryz.underlying29 hf
  rw [cellsOfT] at hcl
  obtain ⟨cs, rfl, hcs⟩ := agg_of_many (v := v) (by omega)
  rw [hcs] at hcl hfs
  obtain ⟨c0, c1, hl⟩ := list2 hcl
  obtain ⟨y0, y1, rfl⟩ := list2 (show xs.length = 2 from hlen)
  obtain rfl : cs = #[c0, c1] := by cases cs; simp at hl; subst hl; rfl
  have g0 := hfs 0 _ rfl
  have g1 := hfs 1 _ rfl
  simp [cellsOfLs] at g0 g1
  obtain ⟨a0, n0, k0, P, rfl, hP⟩ := slots_cell g0
  obtain ⟨a1, n1, k1, C, rfl, hC⟩ := slots_cell g1
  exact ⟨a0, n0, k0, P, a1, n1, k1, C, rfl, hP, hC⟩
theorem open_int3 {H : Type} {enc : TypeId × Value → H} {W : World} {base : Nat} {v : Value} {d : DataW H} {p : List MemPlace}
    (hv : Value.okWide Tryz.prog W .any base 3 v) (h : DataW.Trod enc Tryz.prog W 0 (fun _ => true) true 3 v d p) : ∃ n : Int, v = .int .i64 n ∧ I6 n := by
  obtain ⟨n, rfl, _, _, hw⟩ := open_int Tryz.underlying3 hv h
  exact ⟨n, rfl, wf_i64 hw⟩
theorem gEt : Tryz.prog.globalNamed "errors.errorType" = some 0 := by kernel_rfl
theorem gRt : (Tryz.prog.cutTypes.find? (·.1 == "internal/reflectlite.rtype")).map (·.2) = some 198 := by kernel_rfl
theorem gRow : ((List.range 271).filter fun t => Tryz.prog.rowNamed t [101, 114, 114, 111, 114]) = [69] := by kernel_rfl
theorem gSize : Tryz.prog.types.size = 271 := by kernel_rfl
theorem gl_of {W : World} (h : laidMetH Tryz.prog [("errors.errorType", Rows.laid_errors_errorType)] W) : Gl W := by
  have h' : laidMet Tryz.prog [] W ∧ handlesMet Tryz.prog [("errors.errorType", Rows.laid_errors_errorType)] W := h
  obtain ⟨name, u, ty, e1, e2, e3, e4, e5⟩ := h'.2 _ (List.mem_singleton.2 rfl)
  have en : name = [101, 114, 114, 111, 114] := (Option.some.inj e1).symm
  subst en
  obtain rfl := Option.some.inj (gRt.symm.trans e2)
  have hm : ty ∈ (List.range 271).filter fun t => Tryz.prog.rowNamed t [101, 114, 114, 111, 114] := List.mem_filter.2 ⟨List.mem_range.2 (by rw [← gSize]; exact e3), e4⟩
  rw [gRow] at hm
  obtain rfl := List.mem_singleton.1 hm
  have hh : typeHandle Tryz.prog 69 = .pointer (some ⟨1, 69, none⟩) := by kernel_rfl
  rw [hh] at e5
  show W.cell? ⟨0, 0, none⟩ = _
  simpa using World.var?_cell gEt e5 0

end Go.Proofs.YtdcfcgmmjobdcaaGreatDoor
