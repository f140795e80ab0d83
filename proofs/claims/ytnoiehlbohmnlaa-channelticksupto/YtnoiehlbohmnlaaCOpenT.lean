/-
  The arguments of ChannelTicks opened, what is read bounded.
-/
import Derived.Test.YtnoiehlbohmnlaaCBulk
import Derived.Test.YtnoiehlbohmnlaaCTicksW
import Derived.Test.YtnoiehlbohmnlaaCDat
import Derived.Deep.Slices
import Derived.ProofKit
import Derived.OpenShut
import Derived.ChangeOld
namespace Go.Proofs.Ytnoiehlbohmnlaa
open Go.ChangeShapes Go.WideShapes Go.ChangeAt Go.RowKit Plain
set_option linter.unusedVariables false
set_option maxRecDepth 100000

/-- where what is handed in lies -/
def Hn (W : World) (k : Nat) : Prop := k < W.heap.size
theorem open_list {α : Type} {t e : TypeId} {sz : Nat} {El : World → (Nat → Prop) → List Value → α → Prop} {Sz : α → Prop} {H : Type} {enc : TypeId × Value → H} {W : World} {fuel : Nat} {us : List Value} {x : DataW H × List MemPlace} {B : Nat}
    (ht : Try.prog.underlying t = some (.slice e)) (hce : Try.prog.cellsOf e = sz) (hz : 0 < sz) (dflt : α)
    (each : ∀ (fuel : Nat) (cs : List Value) (y : DataW H × List MemPlace), DataW.trod enc Try.prog W 0 (fun _ => true) true fuel e cs = some y → Rows.uptoBulk y.1 ≤ B → ∃ a : α, El W (Hn W) cs a ∧ Sz a)
    (h : DataW.trod enc Try.prog W 0 (fun _ => true) true fuel t us = some x) (hw : Rows.uptoBulk x.1 ≤ B) :
    ∃ (a : Option Addr) (n c : Nat) (l : List α), us = [.slice a n c] ∧ Ls sz El W (Hn W) a n c l ∧ (∀ y ∈ l, Sz y) ∧ n ≤ B := by
  rcases Go.Deep.open_slice ht h with ⟨hcs, hx⟩ | ⟨ad, n, c, m, nf, D, Pl, hcs, _, hl, hm, hmm, hx, hel⟩
  · subst hcs
    exact ⟨none, 0, 0, [], rfl, ⟨rfl, by omega, by omega, fun _ => rfl, fun i d h => by simp at h⟩, (fun y hy => by cases hy), by omega⟩
  · subst hcs
    simp at hmm
    rw [hce] at hel
    have h1 : x.1 = _ := congrArg Prod.fst hx
    have hn : n ≤ B := by
      rw [h1] at hw
      refine Nat.le_trans ?_ (Nat.le_trans (bulks.slice_le _ _) hw)
      simp
    have hwD : ∀ i, i < n → Rows.uptoBulk (D i) ≤ B := by
      intro i hi
      rw [h1] at hw
      exact Nat.le_trans (bulks.slice_elem (List.mem_map.2 ⟨i, List.mem_range.2 hi, rfl⟩)) hw
    have each' : ∀ i, ∃ d : α, i < n → (∃ b o cs, ad = ⟨b, o, none⟩ ∧ Hn W b ∧ cs.length = sz ∧ W.rangeAt b (o + i * sz) cs ∧ El W (Hn W) cs d ∧ Sz d) := by
      intro i
      by_cases hi : i < n
      · obtain ⟨cs', hc1, hc2⟩ := hel i (by omega)
        obtain ⟨_, hcl, hcc⟩ := World.cells?_some hc1
        obtain ⟨bk, off, spot⟩ := ad
        have hs : spot = none := by
          obtain ⟨ds', hd1, _⟩ := hel 0 (by omega)
          obtain ⟨_, hdl, hdc⟩ := World.cells?_some hd1
          have h7 : 0 < ds'.length := by omega
          have := hdc 0 (by omega)
          rw [List.getElem?_eq_getElem h7] at this
          simpa [Addr.add] using World.cell?_spot this
        subst hs
        obtain ⟨d, hd1, hd2⟩ := each _ cs' _ hc2 (hwD i hi)
        have hrg : W.rangeAt bk (off + i * sz) cs' := fun j u hj => by
          have hjl : j < sz := by have := (List.getElem?_eq_some_iff.1 hj).1; omega
          have := hcc j hjl
          rw [add_none, add_none] at this
          rw [this, hj]
        refine ⟨d, fun _ => ⟨bk, off, cs', rfl, ?_, by omega, hrg, hd1, hd2⟩⟩
        obtain ⟨u0, hu0⟩ : ∃ u0, cs'[0]? = some u0 := ⟨_, List.getElem?_eq_getElem (by omega)⟩
        exact cell_lt (hrg 0 u0 hu0)
      · exact ⟨dflt, fun h => absurd h hi⟩
    obtain ⟨f, hf2⟩ := Classical.axiomOfChoice each'
    have key : ∀ i y, ((List.range n).map f)[i]? = some y → i < n ∧ y = f i := by
      intro i y hy
      have hi : i < n := by
        have := (List.getElem?_eq_some_iff.1 hy).1
        simpa using this
      refine ⟨hi, ?_⟩
      simp [hi] at hy
      exact hy.symm
    refine ⟨some ad, n, c, (List.range n).map f, rfl, ⟨by simp, hl, hm, fun h => (by cases h), fun i y hy => ?_⟩, fun y hy => ?_, hn⟩
    · obtain ⟨hi, rfl⟩ := key i y hy
      obtain ⟨b, off, cs, e1, e2, e3, e4, e5, e6⟩ := hf2 i hi
      exact ⟨b, off, cs, by rw [e1], e2, e3, e4, e5⟩
    · obtain ⟨i, hi0⟩ := List.getElem?_of_mem hy
      obtain ⟨hi, hyf⟩ := key i y hi0
      obtain ⟨b, off, cs, e1, e2, e3, e4, e5, e6⟩ := hf2 i hi
      rw [hyf]; exact e6

theorem co_int : Try.prog.cellsOf 3 = 1 := by kernel_rfl
theorem co_li : Try.prog.cellsOf 22 = 1 := by kernel_rfl
theorem co_Ch : Try.prog.cellsOf 24 = 5 := by kernel_rfl
theorem li5 {α : Type} {l : List α} (h : l.length = 5) : ∃ c0 c1 c2 c3 c4, l = [c0, c1, c2, c3, c4] := by
  match l, h with
  | [c0, c1, c2, c3, c4], _ => exact ⟨c0, c1, c2, c3, c4, rfl⟩
theorem each_I {H : Type} {enc : TypeId × Value → H} {W : World} {B : Nat} (t : TypeId) (ht : Try.prog.underlying t = some (.int .i64)) : ∀ (fuel : Nat) (cs : List Value) (y : DataW H × List MemPlace), DataW.trod enc Try.prog W 0 (fun _ => true) true fuel t cs = some y → Rows.uptoBulk y.1 ≤ B → ∃ a : Int, elI W (Hn W) cs a ∧ True := by
  intro fuel cs y h _
  obtain ⟨n, e, _, w⟩ := DataW.trod_int ht h
  exact ⟨n, ⟨e, wf_I64 w⟩, trivial⟩
theorem agg_of_many {v : Value} (h : 2 ≤ v.cells.toList.length) : ∃ cs : Array Value, v = .agg cs ∧ v.cells.toList = cs.toList := by
  cases v with
  | agg cs => exact ⟨cs, rfl, rfl⟩
  | _ => simp [Value.cells] at h
theorem Ls.toZs {w : World} {F : Nat → Prop} {a : Option Addr} {n c : Nat} {xs : List Int} (h : Ls 1 elI w F a n c xs) : Zs w F a n c xs :=
  ⟨h.len, h.cap, h.max, h.nil, h.zs⟩
/-- a channel that is handed in -/
theorem open_chan {H : Type} {enc : TypeId × Value → H} {W : World} {v : Value} {d : DataW H} {p : List MemPlace} {B : Nat}
    (h : DataW.Trod enc Try.prog W 0 (fun _ => true) true 24 v d p) (hb : Rows.uptoBulk d ≤ B) :
    ∃ (k f ph pe : Int) (a : Option Addr) (n c : Nat) (xs : List Int), v = .agg #[.int .i64 k, .int .i64 f, .slice a n c, .int .i64 ph, .int .i64 pe] ∧ Zs W (Hn W) a n c xs ∧ n ≤ B ∧ I64 ph ∧ I64 pe := by
  obtain ⟨fuel, hf⟩ := h
  obtain ⟨ys, n, _, hys, hlc, hlen, hfs⟩ := DataW.trod_struct Try.underlying24 hf
  rw [co_Ch] at hlc
  obtain ⟨A, rfl, hA⟩ := agg_of_many (v := v) (by omega)
  rw [hA] at hlc hfs
  obtain ⟨c0, c1, c2, c3, c4, hc⟩ := li5 hlc
  rw [hc] at hfs
  obtain ⟨y0, y1, y2, y3, y4, rfl⟩ := li5 (show ys.length = 5 from hlen)
  have hd : d = .agg [y0.1, y1.1, y2.1, y3.1, y4.1] := congrArg Prod.fst hys
  have b2 : Rows.uptoBulk y2.1 ≤ B := Nat.le_trans (by rw [hd]; exact bulks.agg_part (by simp)) hb
  have g0 := hfs 0 _ rfl
  have g1 := hfs 1 _ rfl
  have g2 := hfs 2 _ rfl
  have g3 := hfs 3 _ rfl
  have g4 := hfs 4 _ rfl
  simp [co_int, co_li] at g0 g1 g2 g3 g4
  obtain ⟨v0, e0, _, _⟩ := DataW.trod_int Try.underlying3 g0
  obtain ⟨v1, e1, _, _⟩ := DataW.trod_int Try.underlying3 g1
  obtain ⟨a2, n2, k2, l2, e2, L2, _, hn2⟩ := open_list (El := elI) (Sz := fun _ => True) Try.underlying22 co_int (by decide) 0 (each_I 3 Try.underlying3) g2 b2
  obtain ⟨v3, e3, _, w3⟩ := DataW.trod_int Try.underlying3 g3
  obtain ⟨v4, e4, _, w4⟩ := DataW.trod_int Try.underlying3 g4
  simp at e0 e1 e2 e3 e4
  subst e0 e1 e2 e3 e4
  have eA : A = #[.int .i64 v0, .int .i64 v1, .slice a2 n2 k2, .int .i64 v3, .int .i64 v4] := by
    cases A; simp at hc; simp [hc]
  exact ⟨v0, v1, v3, v4, a2, n2, k2, l2, by rw [eA], L2.toZs, hn2, wf_I64 w3, wf_I64 w4⟩
end Go.Proofs.Ytnoiehlbohmnlaa
