/-
  An image that is handed in, opened: its ports and channels, and how many partitions there are.
-/
import Derived.Test.YtfhodojbbeniaaaDoorRows
import Derived.Test.YtfhodojbbeniaaaDoorCDat
import Derived.WalkKit
import Derived.ProofKit
import Derived.OpenShut
import Derived.ChangeOld
import Derived.SizedLaws
import Derived.Deep.Slices
namespace Go.Proofs.YtfhodojbbeniaaaDoor
open Go.ChangeShapes Go.WideShapes Go.ChangeAt Go.RowKit
set_option linter.unusedVariables false
set_option maxRecDepth 100000

theorem wf_i64' {n : Int} (h : (Lit.int .i64 n).wf = true) : I6 n := by
  simp [Lit.wf, IntKind.min, IntKind.max, IntKind.bits, IntKind.signed] at h
  unfold I6; omega
theorem agg_of_many {v : Value} (h : 2 ≤ v.cells.toList.length) : ∃ cs : Array Value, v = .agg cs ∧ v.cells.toList = cs.toList := by
  cases v with
  | agg cs => exact ⟨cs, rfl, rfl⟩
  | _ => simp [Value.cells] at h
/-- where what is handed in lies -/
def Hn (W : World) (k : Nat) : Prop := k < W.heap.size

/-- a list in a cell -/
theorem open_list {α : Type} {t e : TypeId} {sz : Nat} {El : World → (Nat → Prop) → List Value → α → Prop} {H : Type} {enc : TypeId × Value → H} {W : World} {fuel : Nat} {u : Value} {x : DataW H × List MemPlace}
    (ht : Tryd.prog.underlying t = some (.slice e)) (hce : Tryd.prog.cellsOf e = sz) (hz : 0 < sz) (dflt : α)
    (each : ∀ (fuel : Nat) (cs : List Value) (y : DataW H × List MemPlace), DataW.trod enc Tryd.prog W 0 (fun _ => true) true fuel e cs = some y → ∃ a : α, El W (Hn W) cs a)
    (h : DataW.trod enc Tryd.prog W 0 (fun _ => true) true fuel t [u] = some x) :
    ∃ (a : Option Addr) (n c : Nat) (l : List α), u = .slice a n c ∧ Ls sz El W (Hn W) a n c l := by
  rcases Go.Deep.open_slice ht h with ⟨hcs, hx⟩ | ⟨ad, n, c, m, nf, D, Pl, hcs, _, hl, hm, hmm, hx, hel⟩
  · simp at hcs
    subst hcs
    exact ⟨none, 0, 0, [], rfl, ⟨rfl, by omega, by omega, fun _ => rfl, fun i d h => by simp at h⟩⟩
  · simp at hcs
    subst hcs
    simp at hmm
    rw [hce] at hel
    have h1 : x.1 = _ := congrArg Prod.fst hx
    have each' : ∀ i, ∃ d : α, i < n → (∃ b o cs, ad = ⟨b, o, none⟩ ∧ Hn W b ∧ cs.length = sz ∧ W.rangeAt b (o + i * sz) cs ∧ El W (Hn W) cs d) := by
      intro i
      by_cases hi : i < n
      · obtain ⟨cs', hc1, hc2⟩ := hel i (by omega)
        obtain ⟨_, hcl, hcc⟩ := World.cells?_some hc1
        obtain ⟨bk, off, spot⟩ := ad
        have hs : spot = none := by
          obtain ⟨ds', hd1, _⟩ := hel 0 (by omega)
          obtain ⟨_, hdl, hdc⟩ := World.cells?_some hd1
          have h7 : 0 < ds'.length := by omega
          have := hdc 0 (by omega)
          rw [List.getElem?_eq_getElem h7] at this
          simpa [Addr.add] using World.cell?_spot this
        subst hs
        obtain ⟨d, hd1⟩ := each _ cs' _ hc2
        have hrg : W.rangeAt bk (off + i * sz) cs' := fun j u hj => by
          have hjl : j < sz := by have := (List.getElem?_eq_some_iff.1 hj).1; omega
          have := hcc j hjl
          rw [add_none, add_none] at this
          rw [this, hj]
        refine ⟨d, fun _ => ⟨bk, off, cs', rfl, ?_, by omega, hrg, hd1⟩⟩
        obtain ⟨u0, hu0⟩ : ∃ u0, cs'[0]? = some u0 := ⟨_, List.getElem?_eq_getElem (by omega)⟩
        exact cell_lt (hrg 0 u0 hu0)
      · exact ⟨dflt, fun h => absurd h hi⟩
    obtain ⟨f, hf2⟩ := Classical.axiomOfChoice each'
    have key : ∀ i y, ((List.range n).map f)[i]? = some y → i < n ∧ y = f i := by
      intro i y hy
      have hi : i < n := by
        have := (List.getElem?_eq_some_iff.1 hy).1
        simpa using this
      refine ⟨hi, ?_⟩
      simp [hi] at hy
      exact hy.symm
    refine ⟨some ad, n, c, (List.range n).map f, rfl, ⟨by simp, hl, hm, fun h => (by cases h), fun i y hy => ?_⟩⟩
    obtain ⟨hi, rfl⟩ := key i y hy
    obtain ⟨b, off, cs, e1, e2, e3, e4, e5⟩ := hf2 i hi
    exact ⟨b, off, cs, by rw [e1], e2, e3, e4, e5⟩

theorem cells_int : Tryd.prog.cellsOf 3 = 1 := by kernel_rfl
theorem cells_bool : Tryd.prog.cellsOf 4 = 1 := by kernel_rfl
theorem cells_api_Port : Tryd.prog.cellsOf 53 = 6 := by kernel_rfl
theorem cells_api_Channel : Tryd.prog.cellsOf 39 = 5 := by kernel_rfl
theorem cells_api_Part : Tryd.prog.cellsOf 131 = 21 := by kernel_rfl
theorem cells___int : Tryd.prog.cellsOf 32 = 1 := by kernel_rfl
theorem cells___api_Part : Tryd.prog.cellsOf 22 = 1 := by kernel_rfl
theorem cells___api_Port : Tryd.prog.cellsOf 23 = 1 := by kernel_rfl
theorem cells___api_Channel : Tryd.prog.cellsOf 24 = 1 := by kernel_rfl
theorem cells_api_Image : Tryd.prog.cellsOf 26 = 3 := by kernel_rfl
theorem each_I (t : TypeId) (ht : Tryd.prog.underlying t = some (.int .i64)) {H : Type} {enc : TypeId × Value → H} {W : World} : ∀ (fuel : Nat) (cs : List Value) (y : DataW H × List MemPlace), DataW.trod enc Tryd.prog W 0 (fun _ => true) true fuel t cs = some y → ∃ a : Int, elI W (Hn W) cs a := by
  intro fuel cs y h
  obtain ⟨n, e, _, w⟩ := DataW.trod_int ht h
  exact ⟨n, ⟨e, wf_i64' w⟩⟩
theorem li3 {α : Type} {l : List α} (h : l.length = 3) : ∃ c0 c1 c2, l = [c0, c1, c2] := by
  match l, h with
  | [c0, c1, c2], _ => exact ⟨c0, c1, c2, rfl⟩
theorem li5 {α : Type} {l : List α} (h : l.length = 5) : ∃ c0 c1 c2 c3 c4, l = [c0, c1, c2, c3, c4] := by
  match l, h with
  | [c0, c1, c2, c3, c4], _ => exact ⟨c0, c1, c2, c3, c4, rfl⟩
theorem li6 {α : Type} {l : List α} (h : l.length = 6) : ∃ c0 c1 c2 c3 c4 c5, l = [c0, c1, c2, c3, c4, c5] := by
  match l, h with
  | [c0, c1, c2, c3, c4, c5], _ => exact ⟨c0, c1, c2, c3, c4, c5, rfl⟩
theorem each_Po {H : Type} {enc : TypeId × Value → H} {W : World} : ∀ (fuel : Nat) (cs : List Value) (y : DataW H × List MemPlace), DataW.trod enc Tryd.prog W 0 (fun _ => true) true fuel 53 cs = some y → ∃ a : Po, elPo W (Hn W) cs a := by
  intro fuel cs y h
  obtain ⟨ys, n, _, rfl, hlc, hlen, hfs⟩ := DataW.trod_struct Tryd.underlying53 h
  rw [cells_api_Port] at hlc
  obtain ⟨c0, c1, c2, c3, c4, c5, rfl⟩ := li6 hlc
  obtain ⟨y0, y1, y2, y3, y4, y5, rfl⟩ := li6 (show ys.length = 6 from hlen)
  have g0 := hfs 0 _ rfl
  have g1 := hfs 1 _ rfl
  have g2 := hfs 2 _ rfl
  have g3 := hfs 3 _ rfl
  have g4 := hfs 4 _ rfl
  have g5 := hfs 5 _ rfl
  simp [cells_bool, cells_int] at g0 g1 g2 g3 g4 g5
  obtain ⟨v0, e0, _, w0⟩ := DataW.trod_int Tryd.underlying3 g0
  obtain ⟨v1, e1, _, w1⟩ := DataW.trod_int Tryd.underlying3 g1
  obtain ⟨v2, e2, _⟩ := DataW.trod_bool Tryd.underlying4 g2
  obtain ⟨v3, e3, _, w3⟩ := DataW.trod_int Tryd.underlying3 g3
  obtain ⟨v4, e4, _, w4⟩ := DataW.trod_int Tryd.underlying3 g4
  obtain ⟨v5, e5, _, w5⟩ := DataW.trod_int Tryd.underlying3 g5
  simp at e0 e1 e2 e3 e4 e5
  subst e0 e1 e2 e3 e4 e5
  exact ⟨⟨v0, v1, v2, v3, v4, v5⟩, ⟨rfl, wf_i64' w0, wf_i64' w1, trivial, wf_i64' w3, wf_i64' w4, wf_i64' w5⟩⟩

theorem each_Ch {H : Type} {enc : TypeId × Value → H} {W : World} : ∀ (fuel : Nat) (cs : List Value) (y : DataW H × List MemPlace), DataW.trod enc Tryd.prog W 0 (fun _ => true) true fuel 39 cs = some y → ∃ a : Ch, elCh W (Hn W) cs a := by
  intro fuel cs y h
  obtain ⟨ys, n, _, rfl, hlc, hlen, hfs⟩ := DataW.trod_struct Tryd.underlying39 h
  rw [cells_api_Channel] at hlc
  obtain ⟨c0, c1, c2, c3, c4, rfl⟩ := li5 hlc
  obtain ⟨y0, y1, y2, y3, y4, rfl⟩ := li5 (show ys.length = 5 from hlen)
  have g0 := hfs 0 _ rfl
  have g1 := hfs 1 _ rfl
  have g2 := hfs 2 _ rfl
  have g3 := hfs 3 _ rfl
  have g4 := hfs 4 _ rfl
  simp [cells_int, cells___int] at g0 g1 g2 g3 g4
  obtain ⟨v0, e0, _, w0⟩ := DataW.trod_int Tryd.underlying3 g0
  obtain ⟨v1, e1, _, w1⟩ := DataW.trod_int Tryd.underlying3 g1
  obtain ⟨v3, e3, _, w3⟩ := DataW.trod_int Tryd.underlying3 g3
  obtain ⟨v4, e4, _, w4⟩ := DataW.trod_int Tryd.underlying3 g4
  obtain ⟨a, n', c, l, e2, hL⟩ := open_list (El := elI) Tryd.underlying32 cells_int (by decide) 0 (each_I 3 Tryd.underlying3) g2
  simp at e0 e1 e3 e4
  subst e0 e1 e2 e3 e4
  exact ⟨⟨v0, v1, l, v3, v4⟩, ⟨⟨a, n', c, rfl, hL⟩, wf_i64' w0, wf_i64' w1, hL.all (fun _ _ h => h.2), wf_i64' w3, wf_i64' w4⟩⟩

theorem open_image {H : Type} {enc : TypeId × Value → H} {W : World} {v : Value} {d : DataW H} {p : List MemPlace}
    (h : DataW.Trod enc Tryd.prog W 0 (fun _ => true) true 26 v d p) :
    ∃ (a0 : Option Addr) (n0 c0 : Nat) (a1 : Option Addr) (n1 c1 : Nat) (a2 : Option Addr) (n2 c2 : Nat) (ps : List Po) (L : List Ch), v = .agg #[.slice a0 n0 c0, .slice a1 n1 c1, .slice a2 n2 c2] ∧ n0 ≤ c0 ∧ c0 ≤ 9223372036854775807 ∧ (a0 = none → c0 = 0) ∧ Ls 6 elPo W (Hn W) a1 n1 c1 ps ∧ Ls 5 elCh W (Hn W) a2 n2 c2 L := by
  obtain ⟨fuel, hf⟩ := h
  obtain ⟨xs, n, _, hd, hcl, hlen, hfs⟩ := DataW.trod_struct Tryd.underlying26 hf
  rw [cells_api_Image] at hcl
  obtain ⟨cs, rfl, hcs⟩ := agg_of_many (v := v) (by omega)
  rw [hcs] at hcl hfs
  obtain ⟨c0, c1, c2, hl⟩ := li3 hcl
  obtain ⟨y0, y1, y2, rfl⟩ := li3 (show xs.length = 3 from hlen)
  obtain rfl : cs = #[c0, c1, c2] := by cases cs; simp at hl; subst hl; rfl
  have g0 := hfs 0 _ rfl
  have g1 := hfs 1 _ rfl
  have g2 := hfs 2 _ rfl
  simp [cells___api_Part, cells___api_Port, cells___api_Channel] at g0 g1 g2
  obtain ⟨a0, n0, d0, l0, e0, hL0⟩ := open_list (α := Unit) (El := fun _ _ _ _ => True) Tryd.underlying22 cells_api_Part (by decide) () (fun _ _ _ _ => ⟨(), trivial⟩) g0
  obtain ⟨a1, n1, d1, l1, e1, hL1⟩ := open_list (El := elPo) Tryd.underlying23 cells_api_Port (by decide) ⟨0, 0, false, 0, 0, 0⟩ each_Po g1
  obtain ⟨a2, n2, d2, l2, e2, hL2⟩ := open_list (El := elCh) Tryd.underlying24 cells_api_Channel (by decide) ⟨0, 0, [], 0, 0⟩ each_Ch g2
  subst e0 e1 e2
  exact ⟨a0, n0, d0, a1, n1, d1, a2, n2, d2, l1, l2, rfl, hL0.cap, hL0.max, hL0.nil, hL1, hL2⟩
end Go.Proofs.YtfhodojbbeniaaaDoor
