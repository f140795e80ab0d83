/-
  One text: YOpn.
-/
import Derived.Test.YtnmhcnppdhdhfaaGreatDoorRows
import Derived.Test.YtnmhcnppdhdhfaaGreatDoorG40
import Derived.LaidMore
import Derived.LaidLaws
import Derived.LaidHandle
import Derived.WalkKit
import Derived.ProofKit
import Derived.OpenShut
import Derived.ChangeOld
import Derived.SizedLaws
import Derived.Deep.Slices
namespace Go.Proofs.YtnmhcnppdhdhfaaGreatDoor
open Go.ChangeShapes Go.WideShapes Go.ChangeAt Go.RowKit
set_option linter.unusedVariables false
set_option maxRecDepth 100000

theorem wf_u8' {n : Int} (h : (Lit.int .u8 n).wf = true) : U8 n := by
  simp [Lit.wf, IntKind.min, IntKind.max, IntKind.bits, IntKind.signed] at h
  unfold U8; omega
theorem wf_i64' {n : Int} (h : (Lit.int .i64 n).wf = true) : I6 n := by
  simp [Lit.wf, IntKind.min, IntKind.max, IntKind.bits, IntKind.signed] at h
  unfold I6; omega
theorem wf_i32' {n : Int} (h : (Lit.int .i32 n).wf = true) : I3 n := by
  simp [Lit.wf, IntKind.min, IntKind.max, IntKind.bits, IntKind.signed] at h
  unfold I3; omega
theorem weights_all {H : Type} (e : TypeId) : ∀ (l : List (DataW H)) (d : DataW H), d ∈ l → ∀ n ∈ d.weights Tryz.prog e, n ∈ DataW.weightsAll Tryz.prog e l
  | [], d, h, _, _ => by cases h
  | x :: r, d, h, n, hn => by
    simp only [DataW.weightsAll, List.mem_append]
    rcases List.mem_cons.1 h with rfl | h1
    · exact .inl hn
    · exact .inr (weights_all e r d h1 n hn)
theorem agg_of_many {v : Value} (h : 2 ≤ v.cells.toList.length) : ∃ cs : Array Value, v = .agg cs ∧ v.cells.toList = cs.toList := by
  cases v with
  | agg cs => exact ⟨cs, rfl, rfl⟩
  | _ => simp [Value.cells] at h

/-- a list in a cell -/
theorem open_list {α : Type} {t e : TypeId} {sz : Nat} {El : World → (Nat → Prop) → List Value → α → Prop} {Sz : α → Prop} {H : Type} {enc : TypeId × Value → H} {W : World} {fuel : Nat} {u : Value} {x : DataW H × List MemPlace}
    (ht : Tryz.prog.underlying t = some (.slice e)) (hce : Tryz.prog.cellsOf e = sz) (hz : 0 < sz) (dflt : α)
    (each : ∀ (fuel : Nat) (cs : List Value) (y : DataW H × List MemPlace), DataW.trod enc Tryz.prog W 0 (fun _ => true) true fuel e cs = some y → (∀ n ∈ y.1.weights Tryz.prog e, n ≤ reachBytes) → ∃ a : α, El W (Hn W) cs a ∧ Sz a)
    (h : DataW.trod enc Tryz.prog W 0 (fun _ => true) true fuel t [u] = some x) (hw : ∀ n ∈ x.1.weights Tryz.prog t, n ≤ reachBytes) :
    ∃ (a : Option Addr) (n c : Nat) (l : List α), u = .slice a n c ∧ Ls sz El W (Hn W) a n c l ∧ (∀ y ∈ l, Sz y) ∧ n * Tryz.prog.bytesOf e ≤ reachBytes := by
  rcases Go.Deep.open_slice ht h with ⟨hcs, hx⟩ | ⟨ad, n, c, m, nf, D, Pl, hcs, _, hl, hm, hmm, hx, hel⟩
  · simp at hcs
    subst hcs
    exact ⟨none, 0, 0, [], rfl, ⟨rfl, by omega, by omega, fun _ => rfl, fun i d h => by simp at h⟩, (fun y hy => by cases hy), by simp⟩
  · simp at hcs
    subst hcs
    simp at hmm
    rw [hce] at hel
    have h1 : x.1 = _ := congrArg Prod.fst hx
    have hwD : ∀ i, i < n → ∀ q ∈ (D i).weights Tryz.prog e, q ≤ reachBytes := by
      intro i hi q hq
      refine hw q ?_
      rw [h1]
      simp only [DataW.weights, ht, List.mem_cons, List.mem_append]
      refine .inr (.inl (weights_all e _ (D i) ?_ q hq))
      exact List.mem_map.2 ⟨i, List.mem_range.2 hi, rfl⟩
    have hbytes : n * Tryz.prog.bytesOf e ≤ reachBytes := by
      have q := hw ((n + (m - n)) * Tryz.prog.bytesOf e) (by
        rw [h1]
        simp only [DataW.weights, ht, List.mem_cons, List.mem_append]
        left
        simp)
      exact Nat.le_trans (Nat.mul_le_mul_right _ (Nat.le_add_right _ _)) q
    have each' : ∀ i, ∃ d : α, i < n → (∃ b o cs, ad = ⟨b, o, none⟩ ∧ Hn W b ∧ cs.length = sz ∧ W.rangeAt b (o + i * sz) cs ∧ El W (Hn W) cs d ∧ Sz d) := by
      intro i
      by_cases hi : i < n
      · obtain ⟨cs', hc1, hc2⟩ := hel i (by omega)
        obtain ⟨_, hcl, hcc⟩ := World.cells?_some hc1
        obtain ⟨bk, off, spot⟩ := ad
        have hs : spot = none := by
          obtain ⟨ds', hd1, _⟩ := hel 0 (by omega)
          obtain ⟨_, hdl, hdc⟩ := World.cells?_some hd1
          have h7 : 0 < ds'.length := by omega
          have := hdc 0 (by omega)
          rw [List.getElem?_eq_getElem h7] at this
          simpa [Addr.add] using World.cell?_spot this
        subst hs
        obtain ⟨d, hd1, hd2⟩ := each _ cs' _ hc2 (hwD i hi)
        have hrg : W.rangeAt bk (off + i * sz) cs' := fun j u hj => by
          have hjl : j < sz := by have := (List.getElem?_eq_some_iff.1 hj).1; omega
          have := hcc j hjl
          rw [add_none, add_none] at this
          rw [this, hj]
        refine ⟨d, fun _ => ⟨bk, off, cs', rfl, ?_, by omega, hrg, hd1, hd2⟩⟩
        obtain ⟨u0, hu0⟩ : ∃ u0, cs'[0]? = some u0 := ⟨_, List.getElem?_eq_getElem (by omega)⟩
        exact cell_lt (hrg 0 u0 hu0)
      · exact ⟨dflt, fun h => absurd h hi⟩
    obtain ⟨f, hf2⟩ := Classical.axiomOfChoice each'
    have key : ∀ i y, ((List.range n).map f)[i]? = some y → i < n ∧ y = f i := by
      intro i y hy
      have hi : i < n := by
        have := (List.getElem?_eq_some_iff.1 hy).1
        simpa using this
      refine ⟨hi, ?_⟩
      simp [hi] at hy
      exact hy.symm
    refine ⟨some ad, n, c, (List.range n).map f, rfl, ⟨by simp, hl, hm, fun h => (by cases h), fun i y hy => ?_⟩, fun y hy => ?_, hbytes⟩
    · obtain ⟨hi, rfl⟩ := key i y hy
      obtain ⟨b, off, cs, e1, e2, e3, e4, e5, e6⟩ := hf2 i hi
      exact ⟨b, off, cs, by rw [e1], e2, e3, e4, e5⟩
    · obtain ⟨i, hi0⟩ := List.getElem?_of_mem hy
      obtain ⟨hi, hyf⟩ := key i y hi0
      obtain ⟨b, off, cs, e1, e2, e3, e4, e5, e6⟩ := hf2 i hi
      rw [hyf]; exact e6

theorem cells_int : Tryz.prog.cellsOf 3 = 1 := by kernel_rfl
theorem cells_int64 : Tryz.prog.cellsOf 2 = 1 := by kernel_rfl
theorem cells_bool : Tryz.prog.cellsOf 4 = 1 := by kernel_rfl
theorem cells_uint8 : Tryz.prog.cellsOf 5 = 1 := by kernel_rfl
theorem cells_int32 : Tryz.prog.cellsOf 21 = 1 := by kernel_rfl
theorem cells_api_Instr : Tryz.prog.cellsOf 84 = 5 := by kernel_rfl
theorem cells_api_Proc : Tryz.prog.cellsOf 54 = 6 := by kernel_rfl
theorem cells_api_Sem : Tryz.prog.cellsOf 195 = 2 := by kernel_rfl
theorem cells_api_Buffer : Tryz.prog.cellsOf 200 = 2 := by kernel_rfl
theorem cells_api_Port : Tryz.prog.cellsOf 138 = 6 := by kernel_rfl
theorem cells_api_Channel : Tryz.prog.cellsOf 65 = 5 := by kernel_rfl
theorem cells_api_Part : Tryz.prog.cellsOf 48 = 21 := by kernel_rfl
theorem cells_api_Server : Tryz.prog.cellsOf 39 = 4 := by kernel_rfl
theorem cells__8_int : Tryz.prog.cellsOf 43 = 8 := by kernel_rfl
theorem cells___int : Tryz.prog.cellsOf 27 = 1 := by kernel_rfl
theorem cells___int64 : Tryz.prog.cellsOf 40 = 1 := by kernel_rfl
theorem cells___api_Instr : Tryz.prog.cellsOf 41 = 1 := by kernel_rfl
theorem cells___api_Proc : Tryz.prog.cellsOf 42 = 1 := by kernel_rfl
theorem cells___api_Sem : Tryz.prog.cellsOf 44 = 1 := by kernel_rfl
theorem cells___bool : Tryz.prog.cellsOf 45 = 1 := by kernel_rfl
theorem cells___api_Buffer : Tryz.prog.cellsOf 46 = 1 := by kernel_rfl
theorem cells___api_Part : Tryz.prog.cellsOf 22 = 1 := by kernel_rfl
theorem cells___api_Port : Tryz.prog.cellsOf 23 = 1 := by kernel_rfl
theorem cells___api_Channel : Tryz.prog.cellsOf 24 = 1 := by kernel_rfl
theorem cells_api_Image : Tryz.prog.cellsOf 26 = 3 := by kernel_rfl

theorem opn_I (t : TypeId) (ht : Tryz.prog.underlying t = some (.int .i64)) {H : Type} {enc : TypeId × Value → H} {W : World} : ∀ (fuel : Nat) (cs : List Value) (y : DataW H × List MemPlace), DataW.trod enc Tryz.prog W 0 (fun _ => true) true fuel t cs = some y → (∀ n ∈ y.1.weights Tryz.prog t, n ≤ reachBytes) → ∃ a : Int, elI W (Hn W) cs a ∧ True := by
  intro fuel cs y h _
  obtain ⟨n, e, _, w⟩ := DataW.trod_int ht h
  exact ⟨n, ⟨e, wf_i64' w⟩, trivial⟩
theorem opn_B {H : Type} {enc : TypeId × Value → H} {W : World} : ∀ (fuel : Nat) (cs : List Value) (y : DataW H × List MemPlace), DataW.trod enc Tryz.prog W 0 (fun _ => true) true fuel 4 cs = some y → (∀ n ∈ y.1.weights Tryz.prog 4, n ≤ reachBytes) → ∃ a : Bool, elB W (Hn W) cs a ∧ True := by
  intro fuel cs y h _
  obtain ⟨b, e, _⟩ := DataW.trod_bool Tryz.underlying4 h
  exact ⟨b, e, trivial⟩

theorem li2 {α : Type} {l : List α} (h : l.length = 2) : ∃ c0 c1, l = [c0, c1] := by
  match l, h with
  | [c0, c1], _ => exact ⟨c0, c1, rfl⟩
theorem li3 {α : Type} {l : List α} (h : l.length = 3) : ∃ c0 c1 c2, l = [c0, c1, c2] := by
  match l, h with
  | [c0, c1, c2], _ => exact ⟨c0, c1, c2, rfl⟩
theorem li4 {α : Type} {l : List α} (h : l.length = 4) : ∃ c0 c1 c2 c3, l = [c0, c1, c2, c3] := by
  match l, h with
  | [c0, c1, c2, c3], _ => exact ⟨c0, c1, c2, c3, rfl⟩
theorem li5 {α : Type} {l : List α} (h : l.length = 5) : ∃ c0 c1 c2 c3 c4, l = [c0, c1, c2, c3, c4] := by
  match l, h with
  | [c0, c1, c2, c3, c4], _ => exact ⟨c0, c1, c2, c3, c4, rfl⟩
theorem li6 {α : Type} {l : List α} (h : l.length = 6) : ∃ c0 c1 c2 c3 c4 c5, l = [c0, c1, c2, c3, c4, c5] := by
  match l, h with
  | [c0, c1, c2, c3, c4, c5], _ => exact ⟨c0, c1, c2, c3, c4, c5, rfl⟩
theorem li8 {α : Type} {l : List α} (h : l.length = 8) : ∃ c0 c1 c2 c3 c4 c5 c6 c7, l = [c0, c1, c2, c3, c4, c5, c6, c7] := by
  match l, h with
  | [c0, c1, c2, c3, c4, c5, c6, c7], _ => exact ⟨c0, c1, c2, c3, c4, c5, c6, c7, rfl⟩
theorem li11 {α : Type} {l : List α} (h : l.length = 11) : ∃ c0 c1 c2 c3 c4 c5 c6 c7 c8 c9 c10, l = [c0, c1, c2, c3, c4, c5, c6, c7, c8, c9, c10] := by
  match l, h with
  | [c0, c1, c2, c3, c4, c5, c6, c7, c8, c9, c10], _ => exact ⟨c0, c1, c2, c3, c4, c5, c6, c7, c8, c9, c10, rfl⟩
theorem li21 {α : Type} {l : List α} (h : l.length = 21) : ∃ c0 c1 c2 c3 c4 c5 c6 c7 c8 c9 c10 c11 c12 c13 c14 c15 c16 c17 c18 c19 c20, l = [c0, c1, c2, c3, c4, c5, c6, c7, c8, c9, c10, c11, c12, c13, c14, c15, c16, c17, c18, c19, c20] := by
  match l, h with
  | [c0, c1, c2, c3, c4, c5, c6, c7, c8, c9, c10, c11, c12, c13, c14, c15, c16, c17, c18, c19, c20], _ => exact ⟨c0, c1, c2, c3, c4, c5, c6, c7, c8, c9, c10, c11, c12, c13, c14, c15, c16, c17, c18, c19, c20, rfl⟩
theorem opn_Ins {H : Type} {enc : TypeId × Value → H} {W : World} : ∀ (fuel : Nat) (cs : List Value) (y : DataW H × List MemPlace), DataW.trod enc Tryz.prog W 0 (fun _ => true) true fuel 84 cs = some y → (∀ n ∈ y.1.weights Tryz.prog 84, n ≤ reachBytes) → ∃ a : Ins, elIns W (Hn W) cs a ∧ True := by
  intro fuel cs y h _
  obtain ⟨ys, n, _, rfl, hlc, hlen, hfs⟩ := DataW.trod_struct Tryz.underlying84 h
  rw [cells_api_Instr] at hlc
  obtain ⟨c0, c1, c2, c3, c4, rfl⟩ := li5 hlc
  obtain ⟨y0, y1, y2, y3, y4, rfl⟩ := li5 (show ys.length = 5 from hlen)
  have g0 := hfs 0 _ rfl
  have g1 := hfs 1 _ rfl
  have g2 := hfs 2 _ rfl
  have g3 := hfs 3 _ rfl
  have g4 := hfs 4 _ rfl
  simp [cells_int32, cells_uint8] at g0 g1 g2 g3 g4
  obtain ⟨v0, e0, _, w0⟩ := DataW.trod_int Tryz.underlying5 g0
  obtain ⟨v1, e1, _, w1⟩ := DataW.trod_int Tryz.underlying5 g1
  obtain ⟨v2, e2, _, w2⟩ := DataW.trod_int Tryz.underlying5 g2
  obtain ⟨v3, e3, _, w3⟩ := DataW.trod_int Tryz.underlying5 g3
  obtain ⟨v4, e4, _, w4⟩ := DataW.trod_int Tryz.underlying21 g4
  simp at e0 e1 e2 e3 e4
  subst e0 e1 e2 e3 e4
  exact ⟨⟨v0, v1, v2, v3, v4⟩, ⟨rfl, wf_u8' w0, wf_u8' w1, wf_u8' w2, wf_u8' w3, wf_i32' w4⟩, trivial⟩
theorem opn_Prc {H : Type} {enc : TypeId × Value → H} {W : World} : ∀ (fuel : Nat) (cs : List Value) (y : DataW H × List MemPlace), DataW.trod enc Tryz.prog W 0 (fun _ => true) true fuel 54 cs = some y → (∀ n ∈ y.1.weights Tryz.prog 54, n ≤ reachBytes) → ∃ a : Prc, elPrc W (Hn W) cs a ∧ True := by
  intro fuel cs y h _
  obtain ⟨ys, n, _, rfl, hlc, hlen, hfs⟩ := DataW.trod_struct Tryz.underlying54 h
  rw [cells_api_Proc] at hlc
  obtain ⟨c0, c1, c2, c3, c4, c5, rfl⟩ := li6 hlc
  obtain ⟨y0, y1, y2, y3, y4, y5, rfl⟩ := li6 (show ys.length = 6 from hlen)
  have g0 := hfs 0 _ rfl
  have g1 := hfs 1 _ rfl
  have g2 := hfs 2 _ rfl
  have g3 := hfs 3 _ rfl
  have g4 := hfs 4 _ rfl
  have g5 := hfs 5 _ rfl
  simp [cells_bool, cells_int] at g0 g1 g2 g3 g4 g5
  obtain ⟨v0, e0, _, w0⟩ := DataW.trod_int Tryz.underlying3 g0
  obtain ⟨v1, e1, _, w1⟩ := DataW.trod_int Tryz.underlying3 g1
  obtain ⟨v2, e2, _, w2⟩ := DataW.trod_int Tryz.underlying3 g2
  obtain ⟨v3, e3, _, w3⟩ := DataW.trod_int Tryz.underlying3 g3
  obtain ⟨v4, e4, _, w4⟩ := DataW.trod_int Tryz.underlying3 g4
  obtain ⟨v5, e5, _⟩ := DataW.trod_bool Tryz.underlying4 g5
  simp at e0 e1 e2 e3 e4 e5
  subst e0 e1 e2 e3 e4 e5
  exact ⟨⟨v0, v1, v2, v3, v4, v5⟩, ⟨rfl, wf_i64' w0, wf_i64' w1, wf_i64' w2, wf_i64' w3, wf_i64' w4, trivial⟩, trivial⟩
theorem opn_Sm {H : Type} {enc : TypeId × Value → H} {W : World} : ∀ (fuel : Nat) (cs : List Value) (y : DataW H × List MemPlace), DataW.trod enc Tryz.prog W 0 (fun _ => true) true fuel 195 cs = some y → (∀ n ∈ y.1.weights Tryz.prog 195, n ≤ reachBytes) → ∃ a : Sm, elSm W (Hn W) cs a ∧ True := by
  intro fuel cs y h _
  obtain ⟨ys, n, _, rfl, hlc, hlen, hfs⟩ := DataW.trod_struct Tryz.underlying195 h
  rw [cells_api_Sem] at hlc
  obtain ⟨c0, c1, rfl⟩ := li2 hlc
  obtain ⟨y0, y1, rfl⟩ := li2 (show ys.length = 2 from hlen)
  have g0 := hfs 0 _ rfl
  have g1 := hfs 1 _ rfl
  simp [cells_int] at g0 g1
  obtain ⟨v0, e0, _, w0⟩ := DataW.trod_int Tryz.underlying3 g0
  obtain ⟨v1, e1, _, w1⟩ := DataW.trod_int Tryz.underlying3 g1
  simp at e0 e1
  subst e0 e1
  exact ⟨⟨v0, v1⟩, ⟨rfl, wf_i64' w0, wf_i64' w1⟩, trivial⟩
theorem opn_Bf {H : Type} {enc : TypeId × Value → H} {W : World} : ∀ (fuel : Nat) (cs : List Value) (y : DataW H × List MemPlace), DataW.trod enc Tryz.prog W 0 (fun _ => true) true fuel 200 cs = some y → (∀ n ∈ y.1.weights Tryz.prog 200, n ≤ reachBytes) → ∃ a : Bf, elBf W (Hn W) cs a ∧ True := by
  intro fuel cs y h _
  obtain ⟨ys, n, _, rfl, hlc, hlen, hfs⟩ := DataW.trod_struct Tryz.underlying200 h
  rw [cells_api_Buffer] at hlc
  obtain ⟨c0, c1, rfl⟩ := li2 hlc
  obtain ⟨y0, y1, rfl⟩ := li2 (show ys.length = 2 from hlen)
  have g0 := hfs 0 _ rfl
  have g1 := hfs 1 _ rfl
  simp [cells_int] at g0 g1
  obtain ⟨v0, e0, _, w0⟩ := DataW.trod_int Tryz.underlying3 g0
  obtain ⟨v1, e1, _, w1⟩ := DataW.trod_int Tryz.underlying3 g1
  simp at e0 e1
  subst e0 e1
  exact ⟨⟨v0, v1⟩, ⟨rfl, wf_i64' w0, wf_i64' w1⟩, trivial⟩
theorem opn_Po {H : Type} {enc : TypeId × Value → H} {W : World} : ∀ (fuel : Nat) (cs : List Value) (y : DataW H × List MemPlace), DataW.trod enc Tryz.prog W 0 (fun _ => true) true fuel 138 cs = some y → (∀ n ∈ y.1.weights Tryz.prog 138, n ≤ reachBytes) → ∃ a : Po, elPo W (Hn W) cs a ∧ True := by
  intro fuel cs y h _
  obtain ⟨ys, n, _, rfl, hlc, hlen, hfs⟩ := DataW.trod_struct Tryz.underlying138 h
  rw [cells_api_Port] at hlc
  obtain ⟨c0, c1, c2, c3, c4, c5, rfl⟩ := li6 hlc
  obtain ⟨y0, y1, y2, y3, y4, y5, rfl⟩ := li6 (show ys.length = 6 from hlen)
  have g0 := hfs 0 _ rfl
  have g1 := hfs 1 _ rfl
  have g2 := hfs 2 _ rfl
  have g3 := hfs 3 _ rfl
  have g4 := hfs 4 _ rfl
  have g5 := hfs 5 _ rfl
  simp [cells_bool, cells_int] at g0 g1 g2 g3 g4 g5
  obtain ⟨v0, e0, _, w0⟩ := DataW.trod_int Tryz.underlying3 g0
  obtain ⟨v1, e1, _, w1⟩ := DataW.trod_int Tryz.underlying3 g1
  obtain ⟨v2, e2, _⟩ := DataW.trod_bool Tryz.underlying4 g2
  obtain ⟨v3, e3, _, w3⟩ := DataW.trod_int Tryz.underlying3 g3
  obtain ⟨v4, e4, _, w4⟩ := DataW.trod_int Tryz.underlying3 g4
  obtain ⟨v5, e5, _, w5⟩ := DataW.trod_int Tryz.underlying3 g5
  simp at e0 e1 e2 e3 e4 e5
  subst e0 e1 e2 e3 e4 e5
  exact ⟨⟨v0, v1, v2, v3, v4, v5⟩, ⟨rfl, wf_i64' w0, wf_i64' w1, trivial, wf_i64' w3, wf_i64' w4, wf_i64' w5⟩, trivial⟩


theorem by_cells_int : Tryz.prog.bytesOf 3 = 8 := by kernel_rfl
theorem by_cells_int64 : Tryz.prog.bytesOf 2 = 8 := by kernel_rfl
theorem by_cells_bool : Tryz.prog.bytesOf 4 = 1 := by kernel_rfl
theorem by_cells_api_Instr : Tryz.prog.bytesOf 84 = 8 := by kernel_rfl
theorem by_cells_api_Proc : Tryz.prog.bytesOf 54 = 48 := by kernel_rfl
theorem by_cells_api_Sem : Tryz.prog.bytesOf 195 = 16 := by kernel_rfl
theorem by_cells_api_Buffer : Tryz.prog.bytesOf 200 = 16 := by kernel_rfl
theorem by_cells_api_Port : Tryz.prog.bytesOf 138 = 48 := by kernel_rfl
theorem by_cells_api_Channel : Tryz.prog.bytesOf 65 = 56 := by kernel_rfl
theorem by_cells_api_Part : Tryz.prog.bytesOf 48 = 264 := by kernel_rfl
theorem opn_Ch {H : Type} {enc : TypeId × Value → H} {W : World} : ∀ (fuel : Nat) (cs : List Value) (y : DataW H × List MemPlace), DataW.trod enc Tryz.prog W 0 (fun _ => true) true fuel 65 cs = some y → (∀ n ∈ y.1.weights Tryz.prog 65, n ≤ reachBytes) → ∃ a : Ch, elCh W (Hn W) cs a ∧ szCh a := by
  intro fuel cs y h hw
  obtain ⟨ys, n, _, rfl, hlc, hlen, hfs⟩ := DataW.trod_struct Tryz.underlying65 h
  rw [cells_api_Channel] at hlc
  obtain ⟨c0, c1, c2, c3, c4, rfl⟩ := li5 hlc
  obtain ⟨y0, y1, y2, y3, y4, rfl⟩ := li5 (show ys.length = 5 from hlen)
  have g0 := hfs 0 _ rfl
  have g1 := hfs 1 _ rfl
  have g2 := hfs 2 _ rfl
  have g3 := hfs 3 _ rfl
  have g4 := hfs 4 _ rfl
  simp [cells_int, cells___int] at g0 g1 g2 g3 g4
  obtain ⟨v0, e0, _, w0⟩ := DataW.trod_int Tryz.underlying3 g0
  obtain ⟨v1, e1, _, w1⟩ := DataW.trod_int Tryz.underlying3 g1
  obtain ⟨v3, e3, _, w3⟩ := DataW.trod_int Tryz.underlying3 g3
  obtain ⟨v4, e4, _, w4⟩ := DataW.trod_int Tryz.underlying3 g4
  obtain ⟨a, n', c, l, e2, hL, _, hb⟩ := open_list (El := elI) (Sz := fun _ => True) Tryz.underlying27 cells_int (by decide) 0 (opn_I 3 Tryz.underlying3) g2 (fun q hq => hw q (by
    simp only [List.map, DataW.weights, Tryz.underlying65]
    exact DataW.weights_mem_each (P := Tryz.prog) (j := 2) (t := 27) (d := y2.1) (by rfl) (by rfl) _ hq))
  simp at e0 e1 e3 e4
  subst e0 e1 e2 e3 e4
  rw [by_cells_int] at hb
  refine ⟨⟨v0, v1, l, v3, v4⟩, ⟨⟨a, n', c, rfl, hL⟩, wf_i64' w0, wf_i64' w1, hL.all (fun _ _ h => h.2), wf_i64' w3, wf_i64' w4⟩, ?_⟩
  unfold szCh
  rw [hL.len]
  exact hb

set_option maxHeartbeats 4000000 in
theorem opn_Pn {H : Type} {enc : TypeId × Value → H} {W : World} : ∀ (fuel : Nat) (cs : List Value) (y : DataW H × List MemPlace), DataW.trod enc Tryz.prog W 0 (fun _ => true) true fuel 48 cs = some y → (∀ n ∈ y.1.weights Tryz.prog 48, n ≤ reachBytes) → ∃ a : Pn, elPn W (Hn W) cs a ∧ szPn a := by
  intro fuel cs y h hw
  obtain ⟨ys, n, _, rfl, hlc, hlen, hfs⟩ := DataW.trod_struct Tryz.underlying48 h
  rw [cells_api_Part] at hlc
  obtain ⟨c0, c1, c2, c3, c4, c5, c6, c7, c8, c9, c10, c11, c12, c13, c14, c15, c16, c17, c18, c19, c20, rfl⟩ := li21 hlc
  obtain ⟨y0, y1, y2, y3, y4, y5, y6, y7, y8, y9, y10, rfl⟩ := li11 (show ys.length = 11 from hlen)
  have g0 := hfs 0 _ rfl
  have g1 := hfs 1 _ rfl
  have g2 := hfs 2 _ rfl
  have g3 := hfs 3 _ rfl
  have g4 := hfs 4 _ rfl
  have g5 := hfs 5 _ rfl
  have g6 := hfs 6 _ rfl
  have g7 := hfs 7 _ rfl
  have g8 := hfs 8 _ rfl
  have g9 := hfs 9 _ rfl
  have g10 := hfs 10 _ rfl
  simp [cells_api_Server, cells_int, cells___int64, cells___api_Instr, cells___api_Proc, cells__8_int, cells___api_Sem, cells___bool, cells___api_Buffer] at g0 g1 g2 g3 g4 g5 g6 g7 g8 g9 g10
  obtain ⟨zs, n0, _, hz0, hzl, hzn, hzf⟩ := DataW.trod_struct Tryz.underlying39 g0
  obtain ⟨z0, z1, z2, z3, rfl⟩ := li4 (show zs.length = 4 from hzn)
  have s0 := hzf 0 _ rfl
  have s1 := hzf 1 _ rfl
  have s2 := hzf 2 _ rfl
  have s3 := hzf 3 _ rfl
  simp [cells_int] at s0 s1 s2 s3
  obtain ⟨v0, e0, _, w0⟩ := DataW.trod_int Tryz.underlying3 s0
  obtain ⟨v1, e1, _, w1⟩ := DataW.trod_int Tryz.underlying3 s1
  obtain ⟨v2, e2, _, w2⟩ := DataW.trod_int Tryz.underlying3 s2
  obtain ⟨v3, e3, _, w3⟩ := DataW.trod_int Tryz.underlying3 s3
  obtain ⟨v4, e4, _, w4⟩ := DataW.trod_int Tryz.underlying3 g1
  obtain ⟨v5, e5, _, w5⟩ := DataW.trod_int Tryz.underlying3 g2
  obtain ⟨v9, e9, _, w9⟩ := DataW.trod_int Tryz.underlying3 g6
  obtain ⟨hs, n7, _, hh0, hhl, hhn, hhf⟩ := DataW.trod_array Tryz.underlying43 g7
  obtain ⟨k0, k1, k2, k3, k4, k5, k6, k7, rfl⟩ := li8 (show hs.length = 8 from hhn)
  have t0 := hhf 0 (by decide)
  have t1 := hhf 1 (by decide)
  have t2 := hhf 2 (by decide)
  have t3 := hhf 3 (by decide)
  have t4 := hhf 4 (by decide)
  have t5 := hhf 5 (by decide)
  have t6 := hhf 6 (by decide)
  have t7 := hhf 7 (by decide)
  simp [cells_int] at t0 t1 t2 t3 t4 t5 t6 t7
  obtain ⟨v10, e10, _, w10⟩ := DataW.trod_int Tryz.underlying3 t0
  obtain ⟨v11, e11, _, w11⟩ := DataW.trod_int Tryz.underlying3 t1
  obtain ⟨v12, e12, _, w12⟩ := DataW.trod_int Tryz.underlying3 t2
  obtain ⟨v13, e13, _, w13⟩ := DataW.trod_int Tryz.underlying3 t3
  obtain ⟨v14, e14, _, w14⟩ := DataW.trod_int Tryz.underlying3 t4
  obtain ⟨v15, e15, _, w15⟩ := DataW.trod_int Tryz.underlying3 t5
  obtain ⟨v16, e16, _, w16⟩ := DataW.trod_int Tryz.underlying3 t6
  obtain ⟨v17, e17, _, w17⟩ := DataW.trod_int Tryz.underlying3 t7
  simp at e10 e11 e12 e13 e14 e15 e16 e17
  obtain ⟨a6, n6, d6, l6, e6, hL6, _, hb6⟩ := open_list (El := elI) (Sz := fun _ => True) Tryz.underlying40 cells_int64 (by decide) 0 (opn_I 2 Tryz.underlying2) g3 (fun q hq => hw q (by
    simp only [List.map, DataW.weights, Tryz.underlying48]
    exact DataW.weights_mem_each (P := Tryz.prog) (j := 3) (t := 40) (d := y3.1) (by rfl) (by rfl) _ hq))
  obtain ⟨a7, n7, d7, l7, e7, hL7, _, hb7⟩ := open_list (El := elIns) (Sz := fun _ => True) Tryz.underlying41 cells_api_Instr (by decide) ⟨0, 0, 0, 0, 0⟩ (opn_Ins) g4 (fun q hq => hw q (by
    simp only [List.map, DataW.weights, Tryz.underlying48]
    exact DataW.weights_mem_each (P := Tryz.prog) (j := 4) (t := 41) (d := y4.1) (by rfl) (by rfl) _ hq))
  obtain ⟨a8, n8, d8, l8, e8, hL8, _, hb8⟩ := open_list (El := elPrc) (Sz := fun _ => True) Tryz.underlying42 cells_api_Proc (by decide) ⟨0, 0, 0, 0, 0, false⟩ (opn_Prc) g5 (fun q hq => hw q (by
    simp only [List.map, DataW.weights, Tryz.underlying48]
    exact DataW.weights_mem_each (P := Tryz.prog) (j := 5) (t := 42) (d := y5.1) (by rfl) (by rfl) _ hq))
  obtain ⟨a18, n18, d18, l18, e18, hL18, _, hb18⟩ := open_list (El := elSm) (Sz := fun _ => True) Tryz.underlying44 cells_api_Sem (by decide) ⟨0, 0⟩ (opn_Sm) g8 (fun q hq => hw q (by
    simp only [List.map, DataW.weights, Tryz.underlying48]
    exact DataW.weights_mem_each (P := Tryz.prog) (j := 8) (t := 44) (d := y8.1) (by rfl) (by rfl) _ hq))
  obtain ⟨a19, n19, d19, l19, e19, hL19, _, hb19⟩ := open_list (El := elB) (Sz := fun _ => True) Tryz.underlying45 cells_bool (by decide) false (opn_B) g9 (fun q hq => hw q (by
    simp only [List.map, DataW.weights, Tryz.underlying48]
    exact DataW.weights_mem_each (P := Tryz.prog) (j := 9) (t := 45) (d := y9.1) (by rfl) (by rfl) _ hq))
  obtain ⟨a20, n20, d20, l20, e20, hL20, _, hb20⟩ := open_list (El := elBf) (Sz := fun _ => True) Tryz.underlying46 cells_api_Buffer (by decide) ⟨0, 0⟩ (opn_Bf) g10 (fun q hq => hw q (by
    simp only [List.map, DataW.weights, Tryz.underlying48]
    exact DataW.weights_mem_each (P := Tryz.prog) (j := 10) (t := 46) (d := y10.1) (by rfl) (by rfl) _ hq))
  simp at e0 e1 e2 e3 e4 e5 e9
  subst e0 e1 e2 e3 e4 e5 e6 e7 e8 e9 e10 e11 e12 e13 e14 e15 e16 e17 e18 e19 e20
  rw [by_cells_int64] at hb6
  rw [by_cells_api_Instr] at hb7
  rw [by_cells_api_Proc] at hb8
  rw [by_cells_api_Sem] at hb18
  rw [by_cells_bool] at hb19
  rw [by_cells_api_Buffer] at hb20
  refine ⟨⟨v0, v1, v2, v3, v4, v5, l6, l7, l8, v9, v10, v11, v12, v13, v14, v15, v16, v17, l18, l19, l20⟩, ⟨⟨a6, n6, d6, a7, n7, d7, a8, n8, d8, a18, n18, d18, a19, n19, d19, a20, n20, d20, rfl, hL6, hL7, hL8, hL18, hL19, hL20⟩, wf_i64' w0, wf_i64' w1, wf_i64' w2, wf_i64' w3, wf_i64' w4, wf_i64' w5, hL6.all (fun _ _ h => h.2), hL7.all (fun _ _ h => h.2), hL8.all (fun _ _ h => h.2), wf_i64' w9, wf_i64' w10, wf_i64' w11, wf_i64' w12, wf_i64' w13, wf_i64' w14, wf_i64' w15, wf_i64' w16, wf_i64' w17, hL18.all (fun _ _ h => h.2), fun _ _ => trivial, hL20.all (fun _ _ h => h.2)⟩, ?_⟩
  unfold szPn
  rw [hL6.len, hL7.len, hL8.len, hL18.len, hL19.len, hL20.len]
  exact ⟨hb6, hb7, hb8, hb18, by omega, hb20⟩

theorem open_image {H : Type} {enc : TypeId × Value → H} {W : World} {v : Value} {d : DataW H} {p : List MemPlace}
    (h : DataW.Trod enc Tryz.prog W 0 (fun _ => true) true 26 v d p) (hw : ∀ n ∈ d.weights Tryz.prog 26, n ≤ reachBytes) :
    ∃ (a0 : Option Addr) (n0 c0 : Nat) (a1 : Option Addr) (n1 c1 : Nat) (a2 : Option Addr) (n2 c2 : Nat) (x : Im), v = .agg #[.slice a0 n0 c0, .slice a1 n1 c1, .slice a2 n2 c2] ∧ Img W (Hn W) a0 n0 c0 a1 n1 c1 a2 n2 c2 x ∧ szIm x := by
  obtain ⟨fuel, hf⟩ := h
  obtain ⟨xs, n, _, hd, hcl, hlen, hfs⟩ := DataW.trod_struct Tryz.underlying26 hf
  rw [cells_api_Image] at hcl
  obtain ⟨cs, rfl, hcs⟩ := agg_of_many (v := v) (by omega)
  rw [hcs] at hcl hfs
  obtain ⟨c0, c1, c2, hl⟩ := li3 hcl
  obtain ⟨y0, y1, y2, rfl⟩ := li3 (show xs.length = 3 from hlen)
  obtain rfl : cs = #[c0, c1, c2] := by cases cs; simp at hl; subst hl; rfl
  have g0 := hfs 0 _ rfl
  have g1 := hfs 1 _ rfl
  have g2 := hfs 2 _ rfl
  simp [cells___api_Part, cells___api_Port, cells___api_Channel] at g0 g1 g2
  injection hd with hd _
  have hw' : ∀ (j : Nat) (y : DataW H × List MemPlace) (t : TypeId), [y0, y1, y2][j]? = some y → (#[22, 23, 24] : Array TypeId)[j]? = some t → ∀ q ∈ y.1.weights Tryz.prog t, q ≤ reachBytes := by
    intro j y t hy ht q hq
    refine hw q ?_
    rw [hd]
    simp only [List.map, DataW.weights, Tryz.underlying26]
    match j, hy, ht with
    | 0, hy, ht => simp at hy ht; subst hy ht; exact DataW.weights_mem_each (P := Tryz.prog) (j := 0) (t := 22) (d := y0.1) (by rfl) (by rfl) _ hq
    | 1, hy, ht => simp at hy ht; subst hy ht; exact DataW.weights_mem_each (P := Tryz.prog) (j := 1) (t := 23) (d := y1.1) (by rfl) (by rfl) _ hq
    | 2, hy, ht => simp at hy ht; subst hy ht; exact DataW.weights_mem_each (P := Tryz.prog) (j := 2) (t := 24) (d := y2.1) (by rfl) (by rfl) _ hq
    | j + 3, hy, ht => simp at hy
  obtain ⟨a0, n0, d0, l0, e0, hL0, hS0, hb0⟩ := open_list (El := elPn) (Sz := szPn) Tryz.underlying22 cells_api_Part (by decide) ⟨0, 0, 0, 0, 0, 0, [], [], [], 0, 0, 0, 0, 0, 0, 0, 0, 0, [], [], []⟩ opn_Pn g0 (hw' 0 y0 _ rfl rfl)
  obtain ⟨a1, n1, d1, l1, e1, hL1, hS1, hb1⟩ := open_list (El := elPo) (Sz := fun _ => True) Tryz.underlying23 cells_api_Port (by decide) ⟨0, 0, false, 0, 0, 0⟩ opn_Po g1 (hw' 1 y1 _ rfl rfl)
  obtain ⟨a2, n2, d2, l2, e2, hL2, hS2, hb2⟩ := open_list (El := elCh) (Sz := szCh) Tryz.underlying24 cells_api_Channel (by decide) ⟨0, 0, [], 0, 0⟩ opn_Ch g2 (hw' 2 y2 _ rfl rfl)
  subst e0 e1 e2
  rw [by_cells_api_Part] at hb0
  rw [by_cells_api_Port] at hb1
  rw [by_cells_api_Channel] at hb2
  refine ⟨a0, n0, d0, a1, n1, d1, a2, n2, d2, ⟨l0, l1, l2⟩, rfl, ⟨hL0, hL1, hL2⟩, ?_⟩
  unfold szIm
  rw [hL0.len, hL1.len, hL2.len]
  exact ⟨hb0, hb1, hb2, hS0, hS2⟩


end Go.Proofs.YtnmhcnppdhdhfaaGreatDoor
