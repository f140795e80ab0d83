/-
  The arguments of ObjectsFlow opened.
-/
import Derived.Test.YtggkajopfbokjaaRows
import Derived.Test.YtggkajopfbokjaaOFlow
import Derived.Deep.Slices
import Derived.ProofKit
import Derived.OpenShut
import Derived.ChangeOld
namespace Go.Proofs.Ytggkajopfbokjaa
open Go.ChangeShapes Go.WideShapes Go.ChangeAt Go.RowKit
set_option linter.unusedVariables false
set_option maxRecDepth 100000

theorem flow_no (size depth start most : Int) (sa : Option Addr) (sn sc : Nat) (w : World) (h : ¬ (0 ≤ size ∧ size ≤ 64 ∧ 0 ≤ depth ∧ depth ≤ 64 ∧ 1 ≤ most ∧ 0 ≤ start ∧ start ≤ most ∧ sn ≤ 300)) : Calls Try.prog 3 #[.int .i64 size, .int .i64 depth, .int .i64 start, .int .i64 most, .slice sa sn sc] w fun e w' => e = .returned (.bool true) ∧ Below w.heap.size w w' := by
  by_cases h1 : size < 0
  · go_enter Try.func3, Try.ntmps3
    go_wp2
    go_ret
    exact ⟨rfl, Below.refl _ _⟩
  · by_cases h2 : 64 < size
    · go_enter Try.func3, Try.ntmps3
      go_wp2
      go_ret
      exact ⟨rfl, Below.refl _ _⟩
    · by_cases h3 : depth < 0
      · go_enter Try.func3, Try.ntmps3
        go_wp2
        go_ret
        exact ⟨rfl, Below.refl _ _⟩
      · by_cases h4 : 64 < depth
        · go_enter Try.func3, Try.ntmps3
          go_wp2
          go_ret
          exact ⟨rfl, Below.refl _ _⟩
        · by_cases h5 : most < 1
          · go_enter Try.func3, Try.ntmps3
            go_wp2
            go_ret
            exact ⟨rfl, Below.refl _ _⟩
          · by_cases h6 : start < 0
            · go_enter Try.func3, Try.ntmps3
              go_wp2
              go_ret
              exact ⟨rfl, Below.refl _ _⟩
            · by_cases h7 : most < start
              · go_enter Try.func3, Try.ntmps3
                go_wp2
                go_ret
                exact ⟨rfl, Below.refl _ _⟩
              · have h8 : (300 : Int) < (sn : Int) := by omega
                go_enter Try.func3, Try.ntmps3
                go_wp2
                go_ret
                exact ⟨rfl, Below.refl _ _⟩
theorem flow_any {F : Nat → Prop} {sa : Option Addr} {sn sc : Nat} {os : Nat → Od} (size depth start most : Int) (w : World) (hs : Sk w F sa sn sc os) (hm : most ≤ 9223372036854775807) : Calls Try.prog 3 #[.int .i64 size, .int .i64 depth, .int .i64 start, .int .i64 most, .slice sa sn sc] w fun e w' => e = .returned (.bool true) ∧ Below w.heap.size w w' := by
  by_cases h : 0 ≤ size ∧ size ≤ 64 ∧ 0 ≤ depth ∧ depth ≤ 64 ∧ 1 ≤ most ∧ 0 ≤ start ∧ start ≤ most ∧ sn ≤ 300
  · exact flow_law size depth start most w hs h.1 h.2.1 h.2.2.1 h.2.2.2.1 h.2.2.2.2.1 h.2.2.2.2.2.1 h.2.2.2.2.2.2.1 hm h.2.2.2.2.2.2.2
  · exact flow_no size depth start most _ _ _ w h
theorem wf_top {x : Int} (h : (Lit.int .i64 x).wf = true) : x ≤ 9223372036854775807 := by
  simp [Lit.wf, IntKind.min, IntKind.max, IntKind.bits, IntKind.signed] at h
  omega
theorem cellsOfI : Try.prog.cellsOf 3 = 1 := by kernel_rfl
theorem cellsOfW : Try.prog.cellsOf 2 = 1 := by kernel_rfl
theorem cellsOfB : Try.prog.cellsOf 4 = 1 := by kernel_rfl
theorem cellsOfL : Try.prog.cellsOf 31 = 1 := by kernel_rfl
theorem cellsOfO : Try.prog.cellsOf 42 = 5 := by kernel_rfl
theorem list5 {α : Type} {l : List α} (h : l.length = 5) : ∃ c0 c1 c2 c3 c4, l = [c0, c1, c2, c3, c4] := by
  match l, h with
  | [c0, c1, c2, c3, c4], _ => exact ⟨c0, c1, c2, c3, c4, rfl⟩
/-- a slice of words in a cell -/
theorem words_cell {H : Type} {enc : TypeId × Value → H} {W : World} {fuel : Nat} {u : Value} {x : DataW H × List MemPlace} (h : DataW.trod enc Try.prog W 0 (fun _ => true) true fuel 31 [u] = some x) :
    ∃ (a : Option Addr) (c : Nat) (xs : List Int), u = .slice a xs.length c ∧ Zs W (fun k => k < W.heap.size) a xs.length c xs := by
  rcases open_ints Try.underlying31 Try.underlying2 cellsOfW h with ⟨hcs, rfl⟩ | ⟨ad, n, c, zs, hcs, _, hl, hm, hz, rfl, hcell, hwz⟩
  · simp at hcs
    subst hcs
    exact ⟨none, 0, [], rfl, Zs.none _ _⟩
  · simp at hcs
    subst hcs
    simp at hz
    have hln : (zs.take n).length = n := by rw [List.length_take]; omega
    refine ⟨some ad, c, zs.take n, by rw [hln], ⟨rfl, by omega, hm, fun h => (by cases h), fun i hi => ?_⟩⟩
    rw [hln] at hi
    have hc := hcell i (by omega)
    have h0 := hcell 0 (by omega)
    obtain ⟨bk, off, spot⟩ := ad
    have hs : spot = none := by simpa [Addr.add] using World.cell?_spot h0
    subst hs
    rw [add_none] at hc
    refine ⟨bk, off, rfl, cell_lt hc, ?_⟩
    rw [hc]
    have e : (zs.take n).getD i 0 = zs.getD i 0 := by simp [List.getD, hi]
    rw [e]; rfl
theorem op_cells {H : Type} {enc : TypeId × Value → H} {W : World} {fuel : Nat} {cs : List Value} {x : DataW H × List MemPlace} (h : DataW.trod enc Try.prog W 0 (fun _ => true) true fuel 42 cs = some x) :
    ∃ (d : Od) (a : Option Addr) (c : Nat), cs = [.int .i64 d.kd, .bool d.sec, .int .i64 d.num, .bool d.up, .slice a d.dt.length c] ∧ Zs W (fun k => k < W.heap.size) a d.dt.length c d.dt := by
  obtain ⟨ys, n, _, rfl, hlc, hlen, hfs⟩ := DataW.trod_struct Try.underlying42 h
  rw [cellsOfO] at hlc
  obtain ⟨c0, c1, c2, c3, c4, rfl⟩ := list5 hlc
  obtain ⟨y0, y1, y2, y3, y4, rfl⟩ := list5 (show ys.length = 5 from hlen)
  have g0 := hfs 0 _ rfl
  have g1 := hfs 1 _ rfl
  have g2 := hfs 2 _ rfl
  have g3 := hfs 3 _ rfl
  have g4 := hfs 4 _ rfl
  simp [cellsOfI, cellsOfB, cellsOfL] at g0 g1 g2 g3 g4
  obtain ⟨x0, e0, _, _⟩ := DataW.trod_int Try.underlying3 g0
  obtain ⟨x1, e1, _⟩ := DataW.trod_bool Try.underlying4 g1
  obtain ⟨x2, e2, _, _⟩ := DataW.trod_int Try.underlying3 g2
  obtain ⟨x3, e3, _⟩ := DataW.trod_bool Try.underlying4 g3
  obtain ⟨a, c, xs, rfl, hz⟩ := words_cell g4
  simp at e0 e1 e2 e3
  subst e0 e1 e2 e3
  exact ⟨⟨x0, x1, x2, x3, xs⟩, a, c, rfl, hz⟩
theorem open_ops {H : Type} {enc : TypeId × Value → H} {W : World} {base : Nat} {v : Value} {d : DataW H} {p : List MemPlace}
    (hv : Value.okWide Try.prog W .any base 22 v) (h : DataW.Trod enc Try.prog W 0 (fun _ => true) true 22 v d p) :
    ∃ (a : Option Addr) (n c : Nat) (os : Nat → Od), v = .slice a n c ∧ Sk W (fun k => k < W.heap.size) a n c os := by
  obtain ⟨a, n, c, rfl⟩ := okWide_slice Try.underlying22 hv
  obtain ⟨fuel, hf⟩ := h
  rcases Go.Deep.open_slice Try.underlying22 hf with ⟨hcs, hx⟩ | ⟨ad, l, k, m, nf, D, Pl, hcs, _, hl, hm, hmm, hx, hel⟩
  · simp [Value.cells] at hcs
    obtain ⟨rfl, rfl, rfl⟩ := hcs
    exact ⟨none, 0, 0, fun _ => ⟨0, false, 0, false, []⟩, rfl, ⟨by omega, by omega, fun i hi => by omega⟩⟩
  · simp [Value.cells] at hcs
    obtain ⟨rfl, rfl, rfl⟩ := hcs
    simp at hmm
    rw [cellsOfO] at hel
    have each : ∀ i, ∃ d : Od, i < n → (∃ b o da dc, ad = ⟨b, o, none⟩ ∧ W.cell? ⟨b, o + i * 5, none⟩ = some (.int .i64 d.kd) ∧ W.cell? ⟨b, o + i * 5 + 1, none⟩ = some (.bool d.sec) ∧ W.cell? ⟨b, o + i * 5 + 2, none⟩ = some (.int .i64 d.num) ∧ W.cell? ⟨b, o + i * 5 + 3, none⟩ = some (.bool d.up) ∧ W.cell? ⟨b, o + i * 5 + 4, none⟩ = some (.slice da d.dt.length dc) ∧ Zs W (fun k => k < W.heap.size) da d.dt.length dc d.dt) := by
      intro i
      by_cases hi : i < n
      · obtain ⟨cs', hc1, hc2⟩ := hel i (by omega)
        obtain ⟨_, hcl, hcc⟩ := World.cells?_some hc1
        obtain ⟨bk, off, spot⟩ := ad
        obtain ⟨d, a8, c8, rfl, hz⟩ := op_cells hc2
        have hs : spot = none := by
          obtain ⟨ds', hd1, _⟩ := hel 0 (by omega)
          obtain ⟨_, hdl, hdc⟩ := World.cells?_some hd1
          have h7 : 0 < ds'.length := by omega
          have := hdc 0 (by omega)
          rw [List.getElem?_eq_getElem h7] at this
          simpa [Addr.add] using World.cell?_spot this
        subst hs
        have at' : ∀ j, j < 5 → W.cell? ⟨bk, off + i * 5 + j, none⟩ = [Value.int .i64 d.kd, .bool d.sec, .int .i64 d.num, .bool d.up, .slice a8 d.dt.length c8][j]? := by
          intro j hj
          have := hcc j hj
          rw [add_none, add_none] at this
          exact this
        exact ⟨d, fun _ => ⟨bk, off, a8, c8, rfl, at' 0 (by decide), at' 1 (by decide), at' 2 (by decide), at' 3 (by decide), at' 4 (by decide), hz⟩⟩
      · exact ⟨⟨0, false, 0, false, []⟩, fun h => absurd h hi⟩
    obtain ⟨f, hf2⟩ := Classical.axiomOfChoice each
    refine ⟨some ad, n, c, f, rfl, ⟨hl, hm, fun i hi => ?_⟩⟩
    obtain ⟨b, o, da, dc, e, h0, r⟩ := hf2 i hi
    exact ⟨b, o, da, dc, by rw [e], cell_lt h0, h0, r⟩
end Go.Proofs.Ytggkajopfbokjaa
