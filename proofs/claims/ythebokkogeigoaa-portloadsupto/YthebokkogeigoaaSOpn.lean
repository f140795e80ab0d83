/-
  A list of states opened, what is read bounded.
-/
import Derived.Test.YthebokkogeigoaaOBulk
import Derived.Test.YthebokkogeigoaaPOpenB
import Derived.Test.YthebokkogeigoaaSDat
import Derived.Deep.Slices
import Derived.ProofKit
import Derived.OpenShut
import Derived.ChangeOld
namespace Go.Proofs.Ythebokkogeigoaa
open Go.ChangeShapes Go.WideShapes Go.ChangeAt Go.RowKit
set_option linter.unusedVariables false
set_option maxRecDepth 100000

/-- where what is handed in lies -/
def Hn (W : World) (k : Nat) : Prop := k < W.heap.size
/-- a slice of elements of so many cells each -/
structure Ls {α : Type} (sz : Nat) (El : World → (Nat → Prop) → List Value → α → Prop) (w : World) (F : Nat → Prop) (a : Option Addr) (n c : Nat) (xs : List α) : Prop where
  len : xs.length = n
  cap : n ≤ c
  max : c ≤ 9223372036854775807
  nil : a = none → c = 0
  at' : ∀ i x, xs[i]? = some x → ∃ b o cs, a = some ⟨b, o, none⟩ ∧ F b ∧ cs.length = sz ∧ w.rangeAt b (o + i * sz) cs ∧ El w F cs x

theorem open_list {α : Type} {t e : TypeId} {sz : Nat} {El : World → (Nat → Prop) → List Value → α → Prop} {Sz : α → Prop} {H : Type} {enc : TypeId × Value → H} {W : World} {fuel : Nat} {us : List Value} {x : DataW H × List MemPlace} {B : Nat}
    (ht : Try.prog.underlying t = some (.slice e)) (hce : Try.prog.cellsOf e = sz) (hz : 0 < sz) (dflt : α)
    (each : ∀ (fuel : Nat) (cs : List Value) (y : DataW H × List MemPlace), DataW.trod enc Try.prog W 0 (fun _ => true) true fuel e cs = some y → Rows.uptoBulk y.1 ≤ B → ∃ a : α, El W (Hn W) cs a ∧ Sz a)
    (h : DataW.trod enc Try.prog W 0 (fun _ => true) true fuel t us = some x) (hw : Rows.uptoBulk x.1 ≤ B) :
    ∃ (a : Option Addr) (n c : Nat) (l : List α), us = [.slice a n c] ∧ Ls sz El W (Hn W) a n c l ∧ (∀ y ∈ l, Sz y) ∧ n ≤ B := by
  rcases Go.Deep.open_slice ht h with ⟨hcs, hx⟩ | ⟨ad, n, c, m, nf, D, Pl, hcs, _, hl, hm, hmm, hx, hel⟩
  · subst hcs
    exact ⟨none, 0, 0, [], rfl, ⟨rfl, by omega, by omega, fun _ => rfl, fun i d h => by simp at h⟩, (fun y hy => by cases hy), by omega⟩
  · subst hcs
    simp at hmm
    rw [hce] at hel
    have h1 : x.1 = _ := congrArg Prod.fst hx
    have hn : n ≤ B := by
      rw [h1] at hw
      refine Nat.le_trans ?_ (Nat.le_trans (bulks.slice_le _ _) hw)
      simp
    have hwD : ∀ i, i < n → Rows.uptoBulk (D i) ≤ B := by
      intro i hi
      rw [h1] at hw
      exact Nat.le_trans (bulks.slice_elem (List.mem_map.2 ⟨i, List.mem_range.2 hi, rfl⟩)) hw
    have each' : ∀ i, ∃ d : α, i < n → (∃ b o cs, ad = ⟨b, o, none⟩ ∧ Hn W b ∧ cs.length = sz ∧ W.rangeAt b (o + i * sz) cs ∧ El W (Hn W) cs d ∧ Sz d) := by
      intro i
      by_cases hi : i < n
      · obtain ⟨cs', hc1, hc2⟩ := hel i (by omega)
        obtain ⟨_, hcl, hcc⟩ := World.cells?_some hc1
        obtain ⟨bk, off, spot⟩ := ad
        have hs : spot = none := by
          obtain ⟨ds', hd1, _⟩ := hel 0 (by omega)
          obtain ⟨_, hdl, hdc⟩ := World.cells?_some hd1
          have h7 : 0 < ds'.length := by omega
          have := hdc 0 (by omega)
          rw [List.getElem?_eq_getElem h7] at this
          simpa [Addr.add] using World.cell?_spot this
        subst hs
        obtain ⟨d, hd1, hd2⟩ := each _ cs' _ hc2 (hwD i hi)
        have hrg : W.rangeAt bk (off + i * sz) cs' := fun j u hj => by
          have hjl : j < sz := by have := (List.getElem?_eq_some_iff.1 hj).1; omega
          have := hcc j hjl
          rw [add_none, add_none] at this
          rw [this, hj]
        refine ⟨d, fun _ => ⟨bk, off, cs', rfl, ?_, by omega, hrg, hd1, hd2⟩⟩
        obtain ⟨u0, hu0⟩ : ∃ u0, cs'[0]? = some u0 := ⟨_, List.getElem?_eq_getElem (by omega)⟩
        exact cell_lt (hrg 0 u0 hu0)
      · exact ⟨dflt, fun h => absurd h hi⟩
    obtain ⟨f, hf2⟩ := Classical.axiomOfChoice each'
    have key : ∀ i y, ((List.range n).map f)[i]? = some y → i < n ∧ y = f i := by
      intro i y hy
      have hi : i < n := by
        have := (List.getElem?_eq_some_iff.1 hy).1
        simpa using this
      refine ⟨hi, ?_⟩
      simp [hi] at hy
      exact hy.symm
    refine ⟨some ad, n, c, (List.range n).map f, rfl, ⟨by simp, hl, hm, fun h => (by cases h), fun i y hy => ?_⟩, fun y hy => ?_, hn⟩
    · obtain ⟨hi, rfl⟩ := key i y hy
      obtain ⟨b, off, cs, e1, e2, e3, e4, e5, e6⟩ := hf2 i hi
      exact ⟨b, off, cs, by rw [e1], e2, e3, e4, e5⟩
    · obtain ⟨i, hi0⟩ := List.getElem?_of_mem hy
      obtain ⟨hi, hyf⟩ := key i y hi0
      obtain ⟨b, off, cs, e1, e2, e3, e4, e5, e6⟩ := hf2 i hi
      rw [hyf]; exact e6
theorem co_llw : Try.prog.cellsOf 47 = 1 := by kernel_rfl
theorem co_smp : Try.prog.cellsOf 59 = 3 := by kernel_rfl
theorem co_st : Try.prog.cellsOf 61 = 5 := by kernel_rfl
theorem li3 {α : Type} {l : List α} (h : l.length = 3) : ∃ c0 c1 c2, l = [c0, c1, c2] := by
  match l, h with
  | [c0, c1, c2], _ => exact ⟨c0, c1, c2, rfl⟩
theorem li5 {α : Type} {l : List α} (h : l.length = 5) : ∃ c0 c1 c2 c3 c4, l = [c0, c1, c2, c3, c4] := by
  match l, h with
  | [c0, c1, c2, c3, c4], _ => exact ⟨c0, c1, c2, c3, c4, rfl⟩
/-! ### the elements -/
def elI (w : World) (F : Nat → Prop) (cs : List Value) (x : Int) : Prop := cs = [.int .i64 x]
/-- a message -/
def elM (w : World) (F : Nat → Prop) (cs : List Value) (x : Value × List Int) : Prop := cs = [x.1] ∧ ∃ a c, x.1 = .slice a x.2.length c ∧ Ls 1 elI w F a x.2.length c x.2
theorem Ls.zs {w : World} {F : Nat → Prop} {a : Option Addr} {n c : Nat} {xs : List Int} (h : Ls 1 elI w F a n c xs) : Zs w F a n c xs := by
  have hl := h.len
  refine ⟨h.len, h.cap, h.max, h.nil, fun i hi => ?_⟩
  have hx : xs[i]? = some (xs.getD i 0) := by simp [List.getD, show i < xs.length by omega]
  obtain ⟨b, o, cs, e, hb, hcl, hr, rfl⟩ := h.at' i _ hx
  refine ⟨b, o, e, hb, ?_⟩
  have := hr 0 _ rfl
  rw [Nat.mul_one, Nat.add_zero] at this
  exact this
theorem Ls.mr {w : World} {F : Nat → Prop} {a : Option Addr} {n c : Nat} {l : List (Value × List Int)} (h : Ls 1 elM w F a n c l) (hn : n ≤ 1048576) (hs : ∀ m ∈ l, m.2.length ≤ 1048576) : Mr w F a n c (l.map (fun m => m.2)) := by
  have hl := h.len
  refine ⟨by rw [List.length_map]; exact hl, h.cap, h.max, h.nil, hn, fun i hi => ?_⟩
  have hi' : i < l.length := by omega
  have hx : l[i]? = some l[i] := List.getElem?_eq_getElem hi'
  obtain ⟨b, o, cs, e, hb, hcl, hr, rfl, za, zc, ez, zz⟩ := h.at' i _ hx
  have := hr 0 _ rfl
  rw [Nat.mul_one, Nat.add_zero, ez] at this
  refine ⟨b, o, za, _, zc, e, hb, this, ?_, hs _ (List.getElem_mem hi')⟩
  rw [show (l.map (fun m => m.2)).getD i [] = l[i].2 by simp [List.getD, hi']]
  exact zz.zs
/-- a state -/
def elS (w : World) (F : Nat → Prop) (cs : List Value) (s : Ps) : Prop := Vr w F cs.toArray s
def SzS (s : Ps) : Prop := s.q.length ≤ 1048576 ∧ s.d.length ≤ 1048576 ∧ ∀ x ∈ s.q, x.length ≤ 1048576
section
variable {H : Type} {enc : TypeId × Value → H} {W : World} {B : Nat}
theorem each_I (t : TypeId) (ht : Try.prog.underlying t = some (.int .i64)) : ∀ (fuel : Nat) (cs : List Value) (y : DataW H × List MemPlace), DataW.trod enc Try.prog W 0 (fun _ => true) true fuel t cs = some y → Rows.uptoBulk y.1 ≤ B → ∃ a : Int, elI W (Hn W) cs a ∧ True := by
  intro fuel cs y h _
  obtain ⟨n, e, _, w⟩ := DataW.trod_int ht h
  exact ⟨n, e, trivial⟩
theorem each_M : ∀ (fuel : Nat) (cs : List Value) (y : DataW H × List MemPlace), DataW.trod enc Try.prog W 0 (fun _ => true) true fuel 22 cs = some y → Rows.uptoBulk y.1 ≤ B → ∃ a : Value × List Int, elM W (Hn W) cs a ∧ a.2.length ≤ B := by
  intro fuel cs y h hb
  obtain ⟨a, n, c, l, rfl, hL, _, hn⟩ := open_list (El := elI) (Sz := fun _ => True) Try.underlying22 cellsOfW (by decide) 0 (each_I 2 Try.underlying2) h hb
  have hln := hL.len
  subst hln
  exact ⟨(.slice a l.length c, l), ⟨rfl, a, c, rfl, hL⟩, hn⟩
theorem each_St : ∀ (fuel : Nat) (cs : List Value) (y : DataW H × List MemPlace), DataW.trod enc Try.prog W 0 (fun _ => true) true fuel 61 cs = some y → Rows.uptoBulk y.1 ≤ 1048576 → ∃ s : Ps, elS W (Hn W) cs s ∧ SzS s := by
  intro fuel cs y h hb
  obtain ⟨ys, n, _, hys, hlc, hlen, hfs⟩ := DataW.trod_struct Try.underlying61 h
  rw [co_st] at hlc
  obtain ⟨c0, c1, c2, c3, c4, rfl⟩ := li5 hlc
  obtain ⟨y0, y1, y2, rfl⟩ := li3 (show ys.length = 3 from hlen)
  have hd : y.1 = .agg [y0.1, y1.1, y2.1] := congrArg Prod.fst hys
  have b0 : Rows.uptoBulk y0.1 ≤ 1048576 := Nat.le_trans (by rw [hd]; exact bulks.agg_part (by simp)) hb
  have b1 : Rows.uptoBulk y1.1 ≤ 1048576 := Nat.le_trans (by rw [hd]; exact bulks.agg_part (by simp)) hb
  have g0 := hfs 0 _ rfl
  have g1 := hfs 1 _ rfl
  have g2 := hfs 2 _ rfl
  simp [co_llw, co_smp, cellsOfI] at g0 g1 g2
  obtain ⟨a0, n0, k0, l0, e0, L0, s0, hn0⟩ := open_list (El := elM) (Sz := fun m => m.2.length ≤ 1048576) Try.underlying47 cellsOfL (by decide) (.slice none 0 0, []) each_M g0 b0
  obtain ⟨zs, nz, _, hz, hzl, hzn, hzf⟩ := DataW.trod_struct Try.underlying59 g1
  obtain ⟨z0, z1, z2, rfl⟩ := li3 (show zs.length = 3 from hzn)
  have hd2 : y1.1 = .agg [z0.1, z1.1, z2.1] := congrArg Prod.fst hz
  have b2 : Rows.uptoBulk z2.1 ≤ 1048576 := Nat.le_trans (by rw [hd2]; exact bulks.agg_part (by simp)) b1
  have t0 := hzf 0 _ rfl
  have t1 := hzf 1 _ rfl
  have t2 := hzf 2 _ rfl
  simp [cellsOfI, cellsOfB, cellsOfL] at t0 t1 t2
  obtain ⟨v1, e1, _⟩ := DataW.trod_bool Try.underlying4 t0
  obtain ⟨v2, e2, _, _⟩ := DataW.trod_int Try.underlying3 t1
  obtain ⟨a3, n3, k3, l3, e3, L3, _, hn3⟩ := open_list (El := elI) (Sz := fun _ => True) Try.underlying22 cellsOfW (by decide) 0 (each_I 2 Try.underlying2) t2 b2
  obtain ⟨v4, e4, _, _⟩ := DataW.trod_int Try.underlying3 g2
  simp at e0 e1 e2 e3 e4
  subst e0 e1 e2 e3 e4
  have hl0 := L0.len
  have hl3 := L3.len
  refine ⟨⟨l0.map (fun m => m.2), v1, v2, l3, v4⟩, ⟨a0, n0, k0, a3, n3, k3, rfl, L0.mr hn0 s0, L3.zs, hn3⟩, by rw [List.length_map, hl0]; exact hn0, by rw [hl3]; exact hn3, fun x hx => ?_⟩
  obtain ⟨m, hm, rfl⟩ := List.mem_map.1 hx
  exact s0 m hm
end
theorem Ls.sr {w : World} {F : Nat → Prop} {a : Option Addr} {n c : Nat} {l : List Ps} (h : Ls 5 elS w F a n c l) (hn : n ≤ 1048576) : Sr w F a n c (fun i => l.getD i Ps.zero) := by
  have hl := h.len
  refine ⟨h.cap, h.max, hn, fun i hi => ?_⟩
  have hx : l[i]? = some (l.getD i Ps.zero) := by simp [List.getD, show i < l.length by omega]
  obtain ⟨b, o, cs, e, hb, hcl, hr, hE⟩ := h.at' i _ hx
  refine ⟨b, o, cs.toArray, e, hb, fun j hj => ?_, hE⟩
  have hc : cs[j]? = some (cs[j]'(by omega)) := List.getElem?_eq_getElem _
  rw [List.getElem?_toArray, hc]
  exact hr j _ hc
/-- the states that are handed in -/
theorem open_states {H : Type} {enc : TypeId × Value → H} {W : World} {v : Value} {d : DataW H} {p : List MemPlace}
    (h : DataW.Trod enc Try.prog W 0 (fun _ => true) true 55 v d p) (hb : Rows.uptoBulk d ≤ 1048576) (hv : ∃ a n c, v = .slice a n c) :
    ∃ (a : Option Addr) (n c : Nat) (ss : Nat → Ps), v = .slice a n c ∧ Sr W (Hn W) a n c ss ∧ ∀ i, i < n → SzS (ss i) := by
  obtain ⟨fuel, hf⟩ := h
  obtain ⟨a, n, c, rfl⟩ := hv
  obtain ⟨a', n', c', l, e, hL, hs, hn⟩ := open_list (El := elS) (Sz := SzS) Try.underlying55 co_st (by decide) Ps.zero each_St hf hb
  simp [Value.cells] at e
  obtain ⟨rfl, rfl, rfl⟩ := e
  refine ⟨_, _, _, fun i => l.getD i Ps.zero, rfl, hL.sr hn, fun i hi => ?_⟩
  have hl := hL.len
  show SzS (l.getD i Ps.zero)
  rw [show l.getD i Ps.zero = l[i]'(by omega) by simp [List.getD, show i < l.length by omega]]
  exact hs _ (List.getElem_mem _)
end Go.Proofs.Ythebokkogeigoaa
