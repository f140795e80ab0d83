/-
  The arguments opened: a list of servers; the one variable.
-/
import Derived.Test.YthdmbikmjimmkaaGreatDoorRows
import Derived.Test.YthdmbikmjimmkaaGreatDoorZCl
import Derived.Deep.Slices
import Derived.ProofKit
import Derived.OpenShut
import Derived.ChangeOld
import Derived.SizedLaws
import Derived.LaidLaws
import Derived.LaidHandle
import Derived.Stop.Joined
namespace Go.Proofs.YthdmbikmjimmkaaGreatDoor
open Go.ChangeShapes Go.WideShapes Go.ChangeAt Go.RowKit
set_option linter.unusedVariables false
set_option maxRecDepth 100000

theorem wf_i64 {n : Int} (h : (Lit.int .i64 n).wf = true) : I6 n := by
  simp [Lit.wf, IntKind.min, IntKind.max, IntKind.bits, IntKind.signed] at h
  unfold I6
  omega
theorem cellsOfI : Tryz.prog.cellsOf 3 = 1 := by kernel_rfl
theorem cellsOfS : Tryz.prog.cellsOf 47 = 4 := by kernel_rfl
theorem list4 {α : Type} {l : List α} (h : l.length = 4) : ∃ c0 c1 c2 c3, l = [c0, c1, c2, c3] := by
  match l, h with
  | [c0, c1, c2, c3], _ => exact ⟨c0, c1, c2, c3, rfl⟩
theorem srv_cells {H : Type} {enc : TypeId × Value → H} {W : World} {fuel : Nat} {cs : List Value} {x : DataW H × List MemPlace} (h : DataW.trod enc Tryz.prog W 0 (fun _ => true) true fuel 47 cs = some x) :
    ∃ i : Srv, i.ok ∧ cs = [.int .i64 i.p, .int .i64 i.b, .int .i64 i.o, .int .i64 i.q] := by
  obtain ⟨ys, n, _, rfl, hlc, hlen, hfs⟩ := DataW.trod_struct Tryz.underlying47 h
  rw [cellsOfS] at hlc
  obtain ⟨c0, c1, c2, c3, rfl⟩ := list4 hlc
  obtain ⟨y0, y1, y2, y3, rfl⟩ := list4 (show ys.length = 4 from hlen)
  have g0 := hfs 0 _ rfl
  have g1 := hfs 1 _ rfl
  have g2 := hfs 2 _ rfl
  have g3 := hfs 3 _ rfl
  simp [cellsOfI] at g0 g1 g2 g3
  obtain ⟨x0, e0, _, w0⟩ := DataW.trod_int Tryz.underlying3 g0
  obtain ⟨x1, e1, _, w1⟩ := DataW.trod_int Tryz.underlying3 g1
  obtain ⟨x2, e2, _, w2⟩ := DataW.trod_int Tryz.underlying3 g2
  obtain ⟨x3, e3, _, w3⟩ := DataW.trod_int Tryz.underlying3 g3
  simp at e0 e1 e2 e3
  subst e0 e1 e2 e3
  exact ⟨⟨x0, x1, x2, x3⟩, ⟨wf_i64 w0, wf_i64 w1, wf_i64 w2, wf_i64 w3⟩, rfl⟩
theorem srvs_cell {H : Type} {enc : TypeId × Value → H} {W : World} {fuel : Nat} {u : Value} {x : DataW H × List MemPlace} (h : DataW.trod enc Tryz.prog W 0 (fun _ => true) true fuel 22 [u] = some x) :
    ∃ (a : Option Addr) (n c : Nat) (xs : List Srv), u = .slice a n c ∧ Sv W (fun k => k < W.heap.size) a n c xs := by
  rcases Go.Deep.open_slice Tryz.underlying22 h with ⟨hcs, hx⟩ | ⟨ad, l, k, m, nf, D, Pl, hcs, _, hl, hm, hmm, hx, hel⟩
  · simp at hcs
    subst hcs
    exact ⟨none, 0, 0, [], rfl, ⟨rfl, by omega, by omega, fun _ => rfl, (fun i x hx => by cases hx)⟩⟩
  · simp at hcs
    subst hcs
    simp at hmm
    rw [cellsOfS] at hel
    have each : ∀ i, ∃ d : Srv, i < l → (d.ok ∧ ∃ b o, ad = ⟨b, o, none⟩ ∧ W.cell? ⟨b, o + i * 4, none⟩ = some (.int .i64 d.p) ∧ W.cell? ⟨b, o + i * 4 + 1, none⟩ = some (.int .i64 d.b) ∧ W.cell? ⟨b, o + i * 4 + 2, none⟩ = some (.int .i64 d.o) ∧ W.cell? ⟨b, o + i * 4 + 3, none⟩ = some (.int .i64 d.q)) := by
      intro i
      by_cases hi : i < l
      · obtain ⟨cs', hc1, hc2⟩ := hel i (by omega)
        obtain ⟨_, hcl, hcc⟩ := World.cells?_some hc1
        obtain ⟨bk, off, spot⟩ := ad
        obtain ⟨d, hok, rfl⟩ := srv_cells hc2
        have hs : spot = none := by
          obtain ⟨ds', hd1, _⟩ := hel 0 (by omega)
          obtain ⟨_, hdl, hdc⟩ := World.cells?_some hd1
          have h7 : 0 < ds'.length := by omega
          have := hdc 0 (by omega)
          rw [List.getElem?_eq_getElem h7] at this
          simpa [Addr.add] using World.cell?_spot this
        subst hs
        have at' : ∀ j, j < 4 → W.cell? ⟨bk, off + i * 4 + j, none⟩ = [Value.int .i64 d.p, .int .i64 d.b, .int .i64 d.o, .int .i64 d.q][j]? := by
          intro j hj
          have := hcc j hj
          rw [add_none, add_none] at this
          exact this
        exact ⟨d, fun _ => ⟨hok, bk, off, rfl, at' 0 (by decide), at' 1 (by decide), at' 2 (by decide), at' 3 (by decide)⟩⟩
      · exact ⟨⟨0, 0, 0, 0⟩, fun h => absurd h hi⟩
    obtain ⟨f, hf2⟩ := Classical.axiomOfChoice each
    refine ⟨some ad, l, k, (List.range l).map f, rfl, ⟨by simp, hl, hm, fun e => (by cases e), ?_⟩⟩
    intro i x hx
    have hi : i < l := by
      apply Decidable.byContradiction
      intro hn
      rw [List.getElem?_eq_none (by simp; omega)] at hx
      cases hx
    obtain ⟨hok, b, o, e, h0, r⟩ := hf2 i hi
    rw [List.getElem?_map, List.getElem?_range hi] at hx
    simp at hx
    subst hx
    exact ⟨hok, b, o, by rw [e], cell_lt h0, h0, r⟩
theorem open_srvs {H : Type} {enc : TypeId × Value → H} {W : World} {base : Nat} {v : Value} {d : DataW H} {p : List MemPlace}
    (hv : Value.okWide Tryz.prog W .any base 22 v) (h : DataW.Trod enc Tryz.prog W 0 (fun _ => true) true 22 v d p) :
    ∃ (a : Option Addr) (n c : Nat) (xs : List Srv), v = .slice a n c ∧ Sv W (fun k => k < W.heap.size) a n c xs := by
  obtain ⟨a, n, c, rfl⟩ := okWide_slice Tryz.underlying22 hv
  obtain ⟨fuel, hf⟩ := h
  obtain ⟨a', n', c', xs, e, hC⟩ := srvs_cell hf
  injection e with e1 e2 e3
  subst e1 e2 e3
  exact ⟨a, n, c, xs, rfl, hC⟩

theorem open_int3 {H : Type} {enc : TypeId × Value → H} {W : World} {base : Nat} {v : Value} {d : DataW H} {p : List MemPlace}
    (hv : Value.okWide Tryz.prog W .any base 3 v) (h : DataW.Trod enc Tryz.prog W 0 (fun _ => true) true 3 v d p) : ∃ n : Int, v = .int .i64 n ∧ I6 n := by
  obtain ⟨n, rfl, _, _, hw⟩ := open_int Tryz.underlying3 hv h
  exact ⟨n, rfl, wf_i64 hw⟩
theorem gEt : Tryz.prog.globalNamed "errors.errorType" = some 0 := by kernel_rfl
theorem gRt : (Tryz.prog.cutTypes.find? (·.1 == "internal/reflectlite.rtype")).map (·.2) = some 122 := by kernel_rfl
theorem gRow : ((List.range 201).filter fun t => Tryz.prog.rowNamed t [101, 114, 114, 111, 114]) = [37] := by kernel_rfl
theorem gSize : Tryz.prog.types.size = 201 := by kernel_rfl
theorem gl_of {W : World} (h : laidMetH Tryz.prog [("errors.errorType", Rows.laid_errors_errorType)] W) : Gl W := by
  have h' : laidMet Tryz.prog [] W ∧ handlesMet Tryz.prog [("errors.errorType", Rows.laid_errors_errorType)] W := h
  obtain ⟨name, u, ty, e1, e2, e3, e4, e5⟩ := h'.2 _ (List.mem_singleton.2 rfl)
  have en : name = [101, 114, 114, 111, 114] := (Option.some.inj e1).symm
  subst en
  obtain rfl := Option.some.inj (gRt.symm.trans e2)
  have hm : ty ∈ (List.range 201).filter fun t => Tryz.prog.rowNamed t [101, 114, 114, 111, 114] := List.mem_filter.2 ⟨List.mem_range.2 (by rw [← gSize]; exact e3), e4⟩
  rw [gRow] at hm
  obtain rfl := List.mem_singleton.1 hm
  have hh : typeHandle Tryz.prog 37 = .pointer (some ⟨1, 37, none⟩) := by kernel_rfl
  rw [hh] at e5
  show W.cell? ⟨0, 0, none⟩ = _
  simpa using World.var?_cell gEt e5 0

end Go.Proofs.YthdmbikmjimmkaaGreatDoor
