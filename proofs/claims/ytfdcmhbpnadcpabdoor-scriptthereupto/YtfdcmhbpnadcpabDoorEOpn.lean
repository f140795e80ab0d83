/-
  Lists of inputs that are handed in, opened, what is read bounded.
-/
import Derived.Test.YtfdcmhbpnadcpabDoorRows
import Derived.Test.YtfdcmhbpnadcpabDoorOBulk
import Derived.Test.YtfdcmhbpnadcpabDoorETh
import Derived.WalkKit
import Derived.ProofKit
import Derived.OpenShut
import Derived.ChangeOld
import Derived.Deep.Slices
namespace Go.Proofs.YtfdcmhbpnadcpabDoor
open Go.ChangeShapes Go.WideShapes Go.ChangeAt Go.RowKit
set_option linter.unusedVariables false
set_option maxRecDepth 100000

/-- where what is handed in lies -/
def Hn (W : World) (k : Nat) : Prop := k < W.heap.size
/-- a slice of elements of so many cells each -/
structure Ls {α : Type} (sz : Nat) (El : World → (Nat → Prop) → List Value → α → Prop) (w : World) (F : Nat → Prop) (a : Option Addr) (n c : Nat) (xs : List α) : Prop where
  len : xs.length = n
  cap : n ≤ c
  max : c ≤ 9223372036854775807
  nil : a = none → c = 0
  at' : ∀ i x, xs[i]? = some x → ∃ b o cs, a = some ⟨b, o, none⟩ ∧ F b ∧ cs.length = sz ∧ w.rangeAt b (o + i * sz) cs ∧ El w F cs x

theorem open_list {α : Type} {t e : TypeId} {sz : Nat} {El : World → (Nat → Prop) → List Value → α → Prop} {Sz : α → Prop} {H : Type} {enc : TypeId × Value → H} {W : World} {fuel : Nat} {us : List Value} {x : DataW H × List MemPlace} {B : Nat}
    (ht : Tryd.prog.underlying t = some (.slice e)) (hce : Tryd.prog.cellsOf e = sz) (hz : 0 < sz) (dflt : α)
    (each : ∀ (fuel : Nat) (cs : List Value) (y : DataW H × List MemPlace), DataW.trod enc Tryd.prog W 0 (fun _ => true) true fuel e cs = some y → Rows.uptoBulk y.1 ≤ B → ∃ a : α, El W (Hn W) cs a ∧ Sz a)
    (h : DataW.trod enc Tryd.prog W 0 (fun _ => true) true fuel t us = some x) (hw : Rows.uptoBulk x.1 ≤ B) :
    ∃ (a : Option Addr) (n c : Nat) (l : List α), us = [.slice a n c] ∧ Ls sz El W (Hn W) a n c l ∧ (∀ y ∈ l, Sz y) ∧ n ≤ B := by
  rcases Go.Deep.open_slice ht h with ⟨hcs, hx⟩ | ⟨ad, n, c, m, nf, D, Pl, hcs, _, hl, hm, hmm, hx, hel⟩
  · subst hcs
    exact ⟨none, 0, 0, [], rfl, ⟨rfl, by omega, by omega, fun _ => rfl, fun i d h => by simp at h⟩, (fun y hy => by cases hy), by omega⟩
  · subst hcs
    simp at hmm
    rw [hce] at hel
    have h1 : x.1 = _ := congrArg Prod.fst hx
    have hn : n ≤ B := by
      rw [h1] at hw
      refine Nat.le_trans ?_ (Nat.le_trans (bulks.slice_le _ _) hw)
      simp
    have hwD : ∀ i, i < n → Rows.uptoBulk (D i) ≤ B := by
      intro i hi
      rw [h1] at hw
      exact Nat.le_trans (bulks.slice_elem (List.mem_map.2 ⟨i, List.mem_range.2 hi, rfl⟩)) hw
    have each' : ∀ i, ∃ d : α, i < n → (∃ b o cs, ad = ⟨b, o, none⟩ ∧ Hn W b ∧ cs.length = sz ∧ W.rangeAt b (o + i * sz) cs ∧ El W (Hn W) cs d ∧ Sz d) := by
      intro i
      by_cases hi : i < n
      · obtain ⟨cs', hc1, hc2⟩ := hel i (by omega)
        obtain ⟨_, hcl, hcc⟩ := World.cells?_some hc1
        obtain ⟨bk, off, spot⟩ := ad
        have hs : spot = none := by
          obtain ⟨ds', hd1, _⟩ := hel 0 (by omega)
          obtain ⟨_, hdl, hdc⟩ := World.cells?_some hd1
          have h7 : 0 < ds'.length := by omega
          have := hdc 0 (by omega)
          rw [List.getElem?_eq_getElem h7] at this
          simpa [Addr.add] using World.cell?_spot this
        subst hs
        obtain ⟨d, hd1, hd2⟩ := each _ cs' _ hc2 (hwD i hi)
        have hrg : W.rangeAt bk (off + i * sz) cs' := fun j u hj => by
          have hjl : j < sz := by have := (List.getElem?_eq_some_iff.1 hj).1; omega
          have := hcc j hjl
          rw [add_none, add_none] at this
          rw [this, hj]
        refine ⟨d, fun _ => ⟨bk, off, cs', rfl, ?_, by omega, hrg, hd1, hd2⟩⟩
        obtain ⟨u0, hu0⟩ : ∃ u0, cs'[0]? = some u0 := ⟨_, List.getElem?_eq_getElem (by omega)⟩
        exact cell_lt (hrg 0 u0 hu0)
      · exact ⟨dflt, fun h => absurd h hi⟩
    obtain ⟨f, hf2⟩ := Classical.axiomOfChoice each'
    have key : ∀ i y, ((List.range n).map f)[i]? = some y → i < n ∧ y = f i := by
      intro i y hy
      have hi : i < n := by
        have := (List.getElem?_eq_some_iff.1 hy).1
        simpa using this
      refine ⟨hi, ?_⟩
      simp [hi] at hy
      exact hy.symm
    refine ⟨some ad, n, c, (List.range n).map f, rfl, ⟨by simp, hl, hm, fun h => (by cases h), fun i y hy => ?_⟩, fun y hy => ?_, hn⟩
    · obtain ⟨hi, rfl⟩ := key i y hy
      obtain ⟨b, off, cs, e1, e2, e3, e4, e5, e6⟩ := hf2 i hi
      exact ⟨b, off, cs, by rw [e1], e2, e3, e4, e5⟩
    · obtain ⟨i, hi0⟩ := List.getElem?_of_mem hy
      obtain ⟨hi, hyf⟩ := key i y hi0
      obtain ⟨b, off, cs, e1, e2, e3, e4, e5, e6⟩ := hf2 i hi
      rw [hyf]; exact e6
theorem cells_int : Tryd.prog.cellsOf 3 = 1 := by kernel_rfl
theorem cells_int64 : Tryd.prog.cellsOf 2 = 1 := by kernel_rfl
theorem cells_li64 : Tryd.prog.cellsOf 32 = 1 := by kernel_rfl
theorem cells_inp : Tryd.prog.cellsOf 34 = 4 := by kernel_rfl
theorem li4 {α : Type} {l : List α} (h : l.length = 4) : ∃ c0 c1 c2 c3, l = [c0, c1, c2, c3] := by
  match l, h with
  | [c0, c1, c2, c3], _ => exact ⟨c0, c1, c2, c3, rfl⟩
theorem wf_t6 {n : Int} (h : (Lit.int .i64 n).wf = true) : T6 n := by
  simp [Lit.wf, IntKind.min, IntKind.max, IntKind.bits, IntKind.signed] at h
  unfold T6; omega
def elI (w : World) (F : Nat → Prop) (cs : List Value) (x : Int) : Prop := cs = [.int .i64 x]
theorem Ls.zs {w : World} {F : Nat → Prop} {a : Option Addr} {n c : Nat} {xs : List Int} (h : Ls 1 elI w F a n c xs) : Zs w F a n c xs := by
  have hl := h.len
  refine ⟨h.len, h.cap, h.max, h.nil, fun i hi => ?_⟩
  have hx : xs[i]? = some (xs.getD i 0) := by simp [List.getD, show i < xs.length by omega]
  obtain ⟨b, o, cs, e, hb, hcl, hr, rfl⟩ := h.at' i _ hx
  refine ⟨b, o, e, hb, ?_⟩
  have := hr 0 _ rfl
  rw [Nat.mul_one, Nat.add_zero] at this
  exact this
section
variable {H : Type} {enc : TypeId × Value → H} {W : World} {B : Nat}
theorem each_I (t : TypeId) (ht : Tryd.prog.underlying t = some (.int .i64)) : ∀ (fuel : Nat) (cs : List Value) (y : DataW H × List MemPlace), DataW.trod enc Tryd.prog W 0 (fun _ => true) true fuel t cs = some y → Rows.uptoBulk y.1 ≤ B → ∃ a : Int, elI W (Hn W) cs a ∧ T6 a := by
  intro fuel cs y h _
  obtain ⟨n, e, _, w⟩ := DataW.trod_int ht h
  exact ⟨n, e, wf_t6 w⟩
def elN (w : World) (F : Nat → Prop) (cs : List Value) (x : Inp) : Prop := ∃ da dc, cs = (x.val da dc).toList ∧ Ir w F x da dc
def SzN (x : Inp) : Prop := x.d.length ≤ 1048576 ∧ Ok6 x
theorem each_N : ∀ (fuel : Nat) (cs : List Value) (y : DataW H × List MemPlace), DataW.trod enc Tryd.prog W 0 (fun _ => true) true fuel 34 cs = some y → Rows.uptoBulk y.1 ≤ 1048576 → ∃ a : Inp, elN W (Hn W) cs a ∧ SzN a := by
  intro fuel cs y h hb
  obtain ⟨ys, n, _, hys, hlc, hlen, hfs⟩ := DataW.trod_struct Tryd.underlying34 h
  rw [cells_inp] at hlc
  obtain ⟨c0, c1, c2, c3, rfl⟩ := li4 hlc
  obtain ⟨y0, y1, y2, y3, rfl⟩ := li4 (show ys.length = 4 from hlen)
  have hd : y.1 = .agg [y0.1, y1.1, y2.1, y3.1] := congrArg Prod.fst hys
  have b3 : Rows.uptoBulk y3.1 ≤ 1048576 := Nat.le_trans (by rw [hd]; exact bulks.agg_part (by simp)) hb
  have g0 := hfs 0 _ rfl
  have g1 := hfs 1 _ rfl
  have g2 := hfs 2 _ rfl
  have g3 := hfs 3 _ rfl
  simp [cells_int, cells_li64] at g0 g1 g2 g3
  obtain ⟨v0, e0, _, w0⟩ := DataW.trod_int Tryd.underlying3 g0
  obtain ⟨v1, e1, _, w1⟩ := DataW.trod_int Tryd.underlying3 g1
  obtain ⟨v2, e2, _, w2⟩ := DataW.trod_int Tryd.underlying3 g2
  obtain ⟨a, n', c, l, e3, hL, hs, hn⟩ := open_list (El := elI) (Sz := T6) Tryd.underlying32 cells_int64 (by decide) 0 (each_I 2 Tryd.underlying2) g3 b3
  simp at e0 e1 e2 e3
  subst e0 e1 e2 e3
  have hl := hL.len
  subst hl
  exact ⟨⟨v0, v1, v2, l⟩, ⟨a, c, rfl, hL.zs, by show l.length ≤ 17592186044416; omega, wf_t6 w0⟩, hn, wf_t6 w0, wf_t6 w1, wf_t6 w2, hs⟩
end
theorem Ls.il {w : World} {F : Nat → Prop} {a : Option Addr} {n c : Nat} {xs : List Inp} (h : Ls 4 elN w F a n c xs) : Il w F a n c xs := by
  refine ⟨h.len, h.cap, h.max, fun i x hx => ?_⟩
  obtain ⟨b, o, cs, e, hb, hcl, hr, da, dc, rfl, ir⟩ := h.at' i x hx
  exact ⟨b, o, da, dc, e, hb, fun j v hv => hr j v hv, ir⟩
/-- a list that is handed in -/
theorem open_inputs {H : Type} {enc : TypeId × Value → H} {W : World} {v : Value} {d : DataW H} {p : List MemPlace}
    (h : DataW.Trod enc Tryd.prog W 0 (fun _ => true) true 23 v d p) (hb : Rows.uptoBulk d ≤ 1048576) (hv : ∃ a n c, v = .slice a n c) :
    ∃ (a : Option Addr) (n c : Nat) (xs : List Inp), v = .slice a n c ∧ Il W (Hn W) a n c xs ∧ n ≤ 1048576 ∧ ∀ x ∈ xs, SzN x := by
  obtain ⟨fuel, hf⟩ := h
  obtain ⟨a, n, c, rfl⟩ := hv
  obtain ⟨a', n', c', l, e, hL, hs, hn⟩ := open_list (El := elN) (Sz := SzN) Tryd.underlying23 cells_inp (by decide) ⟨0, 0, 0, []⟩ each_N hf hb
  simp [Value.cells] at e
  obtain ⟨rfl, rfl, rfl⟩ := e
  exact ⟨_, _, _, l, rfl, hL.il, hn, hs⟩
end Go.Proofs.YtfdcmhbpnadcpabDoor
