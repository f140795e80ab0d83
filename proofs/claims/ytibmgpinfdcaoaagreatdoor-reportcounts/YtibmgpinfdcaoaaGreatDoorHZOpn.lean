/-
  One text: ZOpn.
-/
import Derived.Test.YtibmgpinfdcaoaaGreatDoorRows
import Derived.Test.YtibmgpinfdcaoaaGreatDoorG36
import Derived.WalkKit
import Derived.ProofKit
import Derived.OpenShut
import Derived.ChangeOld
import Derived.SizedLaws
import Derived.Deep.Slices
namespace Go.Proofs.YtibmgpinfdcaoaaGreatDoor
open Go.ChangeShapes Go.WideShapes Go.ChangeAt Go.RowKit
set_option linter.unusedVariables false
set_option maxRecDepth 100000

theorem weights_all {H : Type} (e : TypeId) : ∀ (l : List (DataW H)) (d : DataW H), d ∈ l → ∀ n ∈ d.weights Tryz.prog e, n ∈ DataW.weightsAll Tryz.prog e l
  | [], d, h, _, _ => by cases h
  | x :: r, d, h, n, hn => by
    simp only [DataW.weightsAll, List.mem_append]
    rcases List.mem_cons.1 h with rfl | h1
    · exact .inl hn
    · exact .inr (weights_all e r d h1 n hn)
/-- a slice of elements of so many cells each -/
structure Ls {α : Type} (sz : Nat) (El : World → (Nat → Prop) → List Value → α → Prop) (w : World) (F : Nat → Prop) (a : Option Addr) (n c : Nat) (xs : List α) : Prop where
  len : xs.length = n
  cap : n ≤ c
  max : c ≤ 9223372036854775807
  nil : a = none → c = 0
  at' : ∀ i x, xs[i]? = some x → ∃ b o cs, a = some ⟨b, o, none⟩ ∧ F b ∧ cs.length = sz ∧ w.rangeAt b (o + i * sz) cs ∧ El w F cs x
/-- where what is handed in lies -/
def Hn (W : World) (k : Nat) : Prop := k < W.heap.size

/-- a list in a cell -/
theorem open_list {α : Type} {t e : TypeId} {sz : Nat} {El : World → (Nat → Prop) → List Value → α → Prop} {Sz : α → Prop} {H : Type} {enc : TypeId × Value → H} {W : World} {fuel : Nat} {u : Value} {x : DataW H × List MemPlace}
    (ht : Tryz.prog.underlying t = some (.slice e)) (hce : Tryz.prog.cellsOf e = sz) (hz : 0 < sz) (dflt : α)
    (each : ∀ (fuel : Nat) (cs : List Value) (y : DataW H × List MemPlace), DataW.trod enc Tryz.prog W 0 (fun _ => true) true fuel e cs = some y → (∀ n ∈ y.1.weights Tryz.prog e, n ≤ reachBytes) → ∃ a : α, El W (Hn W) cs a ∧ Sz a)
    (h : DataW.trod enc Tryz.prog W 0 (fun _ => true) true fuel t [u] = some x) (hw : ∀ n ∈ x.1.weights Tryz.prog t, n ≤ reachBytes) :
    ∃ (a : Option Addr) (n c : Nat) (l : List α), u = .slice a n c ∧ Ls sz El W (Hn W) a n c l ∧ (∀ y ∈ l, Sz y) ∧ n * Tryz.prog.bytesOf e ≤ reachBytes := by
  rcases Go.Deep.open_slice ht h with ⟨hcs, hx⟩ | ⟨ad, n, c, m, nf, D, Pl, hcs, _, hl, hm, hmm, hx, hel⟩
  · simp at hcs
    subst hcs
    exact ⟨none, 0, 0, [], rfl, ⟨rfl, by omega, by omega, fun _ => rfl, fun i d h => by simp at h⟩, (fun y hy => by cases hy), by simp⟩
  · simp at hcs
    subst hcs
    simp at hmm
    rw [hce] at hel
    have h1 : x.1 = _ := congrArg Prod.fst hx
    have hwD : ∀ i, i < n → ∀ q ∈ (D i).weights Tryz.prog e, q ≤ reachBytes := by
      intro i hi q hq
      refine hw q ?_
      rw [h1]
      simp only [DataW.weights, ht, List.mem_cons, List.mem_append]
      refine .inr (.inl (weights_all e _ (D i) ?_ q hq))
      exact List.mem_map.2 ⟨i, List.mem_range.2 hi, rfl⟩
    have hbytes : n * Tryz.prog.bytesOf e ≤ reachBytes := by
      have q := hw ((n + (m - n)) * Tryz.prog.bytesOf e) (by
        rw [h1]
        simp only [DataW.weights, ht, List.mem_cons, List.mem_append]
        left
        simp)
      exact Nat.le_trans (Nat.mul_le_mul_right _ (Nat.le_add_right _ _)) q
    have each' : ∀ i, ∃ d : α, i < n → (∃ b o cs, ad = ⟨b, o, none⟩ ∧ Hn W b ∧ cs.length = sz ∧ W.rangeAt b (o + i * sz) cs ∧ El W (Hn W) cs d ∧ Sz d) := by
      intro i
      by_cases hi : i < n
      · obtain ⟨cs', hc1, hc2⟩ := hel i (by omega)
        obtain ⟨_, hcl, hcc⟩ := World.cells?_some hc1
        obtain ⟨bk, off, spot⟩ := ad
        have hs : spot = none := by
          obtain ⟨ds', hd1, _⟩ := hel 0 (by omega)
          obtain ⟨_, hdl, hdc⟩ := World.cells?_some hd1
          have h7 : 0 < ds'.length := by omega
          have := hdc 0 (by omega)
          rw [List.getElem?_eq_getElem h7] at this
          simpa [Addr.add] using World.cell?_spot this
        subst hs
        obtain ⟨d, hd1, hd2⟩ := each _ cs' _ hc2 (hwD i hi)
        have hrg : W.rangeAt bk (off + i * sz) cs' := fun j u hj => by
          have hjl : j < sz := by have := (List.getElem?_eq_some_iff.1 hj).1; omega
          have := hcc j hjl
          rw [add_none, add_none] at this
          rw [this, hj]
        refine ⟨d, fun _ => ⟨bk, off, cs', rfl, ?_, by omega, hrg, hd1, hd2⟩⟩
        obtain ⟨u0, hu0⟩ : ∃ u0, cs'[0]? = some u0 := ⟨_, List.getElem?_eq_getElem (by omega)⟩
        exact cell_lt (hrg 0 u0 hu0)
      · exact ⟨dflt, fun h => absurd h hi⟩
    obtain ⟨f, hf2⟩ := Classical.axiomOfChoice each'
    have key : ∀ i y, ((List.range n).map f)[i]? = some y → i < n ∧ y = f i := by
      intro i y hy
      have hi : i < n := by
        have := (List.getElem?_eq_some_iff.1 hy).1
        simpa using this
      refine ⟨hi, ?_⟩
      simp [hi] at hy
      exact hy.symm
    refine ⟨some ad, n, c, (List.range n).map f, rfl, ⟨by simp, hl, hm, fun h => (by cases h), fun i y hy => ?_⟩, fun y hy => ?_, hbytes⟩
    · obtain ⟨hi, rfl⟩ := key i y hy
      obtain ⟨b, off, cs, e1, e2, e3, e4, e5, e6⟩ := hf2 i hi
      exact ⟨b, off, cs, by rw [e1], e2, e3, e4, e5⟩
    · obtain ⟨i, hi0⟩ := List.getElem?_of_mem hy
      obtain ⟨hi, hyf⟩ := key i y hi0
      obtain ⟨b, off, cs, e1, e2, e3, e4, e5, e6⟩ := hf2 i hi
      rw [hyf]; exact e6

theorem cells_int : Tryz.prog.cellsOf 3 = 1 := by kernel_rfl
theorem cells_int64 : Tryz.prog.cellsOf 2 = 1 := by kernel_rfl
theorem cells_li64 : Tryz.prog.cellsOf 52 = 1 := by kernel_rfl
theorem cells_ev : Tryz.prog.cellsOf 54 = 7 := by kernel_rfl
theorem by_int64 : Tryz.prog.bytesOf 2 = 8 := by kernel_rfl
theorem li7 {α : Type} {l : List α} (h : l.length = 7) : ∃ c0 c1 c2 c3 c4 c5 c6, l = [c0, c1, c2, c3, c4, c5, c6] := by
  match l, h with
  | [c0, c1, c2, c3, c4, c5, c6], _ => exact ⟨c0, c1, c2, c3, c4, c5, c6, rfl⟩
theorem by_ev : Tryz.prog.bytesOf 54 = 72 := by kernel_rfl
theorem each_A {t : TypeId} {H : Type} {enc : TypeId × Value → H} {W : World} : ∀ (fuel : Nat) (cs : List Value) (y : DataW H × List MemPlace), DataW.trod enc Tryz.prog W 0 (fun _ => true) true fuel t cs = some y → (∀ n ∈ y.1.weights Tryz.prog t, n ≤ reachBytes) → ∃ a : Int, True ∧ True := fun _ _ _ _ _ => ⟨0, trivial, trivial⟩
def elN (w : World) (F : Nat → Prop) (cs : List Value) (x : Evt) : Prop := cs = x.v
theorem each_N {H : Type} {enc : TypeId × Value → H} {W : World} : ∀ (fuel : Nat) (cs : List Value) (y : DataW H × List MemPlace), DataW.trod enc Tryz.prog W 0 (fun _ => true) true fuel 54 cs = some y → (∀ n ∈ y.1.weights Tryz.prog 54, n ≤ reachBytes) → ∃ a : Evt, elN W (Hn W) cs a ∧ True := by
  intro fuel cs y h hw
  obtain ⟨ys, n, _, rfl, hlc, hlen, hfs⟩ := DataW.trod_struct Tryz.underlying54 h
  rw [cells_ev] at hlc
  obtain ⟨c0, c1, c2, c3, c4, c5, c6, rfl⟩ := li7 hlc
  obtain ⟨y0, y1, y2, y3, y4, y5, y6, rfl⟩ := li7 (show ys.length = 7 from hlen)
  have g0 := hfs 0 _ rfl
  have g1 := hfs 1 _ rfl
  have g2 := hfs 2 _ rfl
  have g3 := hfs 3 _ rfl
  have g4 := hfs 4 _ rfl
  have g5 := hfs 5 _ rfl
  have g6 := hfs 6 _ rfl
  simp [cells_int, cells_int64, cells_li64] at g0 g1 g2 g3 g4 g5 g6
  obtain ⟨v0, e0, _, w0⟩ := DataW.trod_int Tryz.underlying3 g0
  obtain ⟨v1, e1, _, w1⟩ := DataW.trod_int Tryz.underlying3 g1
  obtain ⟨v2, e2, _, w2⟩ := DataW.trod_int Tryz.underlying3 g2
  obtain ⟨v3, e3, _, w3⟩ := DataW.trod_int Tryz.underlying3 g3
  obtain ⟨v4, e4, _, w4⟩ := DataW.trod_int Tryz.underlying2 g4
  obtain ⟨v5, e5, _, w5⟩ := DataW.trod_int Tryz.underlying2 g5
  obtain ⟨a, n', c, l, e6, hL, hT, hb⟩ := open_list (El := fun _ _ _ _ => True) (Sz := fun _ => True) Tryz.underlying52 cells_int64 (by decide) (0 : Int) each_A g6 (fun q hq => hw q (by
    simp only [List.map, DataW.weights, Tryz.underlying54]
    exact DataW.weights_mem_each (P := Tryz.prog) (j := 6) (t := 52) (d := y6.1) (by rfl) (by rfl) _ hq))
  simp at e0 e1 e2 e3 e4 e5
  subst e0 e1 e2 e3 e4 e5 e6
  exact ⟨⟨v0, v1, v2, v3, v4, v5, a, n', c⟩, rfl, trivial⟩
theorem Ls.es {w : World} {F : Nat → Prop} {a : Option Addr} {n c : Nat} {xs : List Evt} (h : Ls 7 elN w F a n c xs) : Es w F a n c xs := by
  refine ⟨h.len, h.cap, h.max, fun i hi => ?_⟩
  have hx : xs[i]? = some (xs.getD i dEvt) := by rw [List.getD, List.getElem?_eq_getElem (by rw [h.len]; exact hi)]; rfl
  obtain ⟨b, o, cs, e, hb, hcl, hr, rfl⟩ := h.at' i _ hx
  exact ⟨b, o, e, hb, fun j v hv => hr j v hv⟩
/-- a list that is handed in -/
theorem open_evs {H : Type} {enc : TypeId × Value → H} {W : World} {v : Value} {d : DataW H} {p : List MemPlace}
    (h : DataW.Trod enc Tryz.prog W 0 (fun _ => true) true 23 v d p) (hw : ∀ n ∈ d.weights Tryz.prog 23, n ≤ reachBytes) (hv : ∃ a n c, v = .slice a n c) :
    ∃ (a : Option Addr) (n c : Nat) (xs : List Evt), v = .slice a n c ∧ Es W (Hn W) a n c xs ∧ n * 72 ≤ 140737488351232 := by
  obtain ⟨fuel, hf⟩ := h
  obtain ⟨a, n, c, rfl⟩ := hv
  obtain ⟨a', n', c', l, e, hL, hT, hb⟩ := open_list (El := elN) (Sz := fun _ => True) Tryz.underlying23 cells_ev (by decide) dEvt each_N (by simpa [Value.cells] using hf) hw
  injection e with e1 e2 e3
  subst e1 e2 e3
  rw [by_ev] at hb
  exact ⟨_, _, _, l, rfl, hL.es, by simpa [reachBytes] using hb⟩
end Go.Proofs.YtibmgpinfdcaoaaGreatDoor
