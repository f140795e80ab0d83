/-
  The arguments of ObjectsLoad opened, what is read bounded.
-/
import Derived.Test.YtggkajopfbokjaaOBulk
import Derived.Test.YtggkajopfbokjaaOLd
import Derived.Deep.Slices
import Derived.ProofKit
import Derived.OpenShut
import Derived.ChangeOld
namespace Go.Proofs.Ytggkajopfbokjaa
open Go.ChangeShapes Go.WideShapes Go.ChangeAt Go.RowKit
set_option linter.unusedVariables false
set_option maxRecDepth 100000

/-- where what is handed in lies -/
def Hn (W : World) (k : Nat) : Prop := k < W.heap.size
/-- a slice of elements of so many cells each -/
structure Ls {α : Type} (sz : Nat) (El : World → (Nat → Prop) → List Value → α → Prop) (w : World) (F : Nat → Prop) (a : Option Addr) (n c : Nat) (xs : List α) : Prop where
  len : xs.length = n
  cap : n ≤ c
  max : c ≤ 9223372036854775807
  nil : a = none → c = 0
  at' : ∀ i x, xs[i]? = some x → ∃ b o cs, a = some ⟨b, o, none⟩ ∧ F b ∧ cs.length = sz ∧ w.rangeAt b (o + i * sz) cs ∧ El w F cs x

theorem open_list {α : Type} {t e : TypeId} {sz : Nat} {El : World → (Nat → Prop) → List Value → α → Prop} {Sz : α → Prop} {H : Type} {enc : TypeId × Value → H} {W : World} {fuel : Nat} {us : List Value} {x : DataW H × List MemPlace} {B : Nat}
    (ht : Try.prog.underlying t = some (.slice e)) (hce : Try.prog.cellsOf e = sz) (hz : 0 < sz) (dflt : α)
    (each : ∀ (fuel : Nat) (cs : List Value) (y : DataW H × List MemPlace), DataW.trod enc Try.prog W 0 (fun _ => true) true fuel e cs = some y → Rows.uptoBulk y.1 ≤ B → ∃ a : α, El W (Hn W) cs a ∧ Sz a)
    (h : DataW.trod enc Try.prog W 0 (fun _ => true) true fuel t us = some x) (hw : Rows.uptoBulk x.1 ≤ B) :
    ∃ (a : Option Addr) (n c : Nat) (l : List α), us = [.slice a n c] ∧ Ls sz El W (Hn W) a n c l ∧ (∀ y ∈ l, Sz y) ∧ n ≤ B := by
  rcases Go.Deep.open_slice ht h with ⟨hcs, hx⟩ | ⟨ad, n, c, m, nf, D, Pl, hcs, _, hl, hm, hmm, hx, hel⟩
  · subst hcs
    exact ⟨none, 0, 0, [], rfl, ⟨rfl, by omega, by omega, fun _ => rfl, fun i d h => by simp at h⟩, (fun y hy => by cases hy), by omega⟩
  · subst hcs
    simp at hmm
    rw [hce] at hel
    have h1 : x.1 = _ := congrArg Prod.fst hx
    have hn : n ≤ B := by
      rw [h1] at hw
      refine Nat.le_trans ?_ (Nat.le_trans (bulks.slice_le _ _) hw)
      simp
    have hwD : ∀ i, i < n → Rows.uptoBulk (D i) ≤ B := by
      intro i hi
      rw [h1] at hw
      exact Nat.le_trans (bulks.slice_elem (List.mem_map.2 ⟨i, List.mem_range.2 hi, rfl⟩)) hw
    have each' : ∀ i, ∃ d : α, i < n → (∃ b o cs, ad = ⟨b, o, none⟩ ∧ Hn W b ∧ cs.length = sz ∧ W.rangeAt b (o + i * sz) cs ∧ El W (Hn W) cs d ∧ Sz d) := by
      intro i
      by_cases hi : i < n
      · obtain ⟨cs', hc1, hc2⟩ := hel i (by omega)
        obtain ⟨_, hcl, hcc⟩ := World.cells?_some hc1
        obtain ⟨bk, off, spot⟩ := ad
        have hs : spot = none := by
          obtain ⟨ds', hd1, _⟩ := hel 0 (by omega)
          obtain ⟨_, hdl, hdc⟩ := World.cells?_some hd1
          have h7 : 0 < ds'.length := by omega
          have := hdc 0 (by omega)
          rw [List.getElem?_eq_getElem h7] at this
          simpa [Addr.add] using World.cell?_spot this
        subst hs
        obtain ⟨d, hd1, hd2⟩ := each _ cs' _ hc2 (hwD i hi)
        have hrg : W.rangeAt bk (off + i * sz) cs' := fun j u hj => by
          have hjl : j < sz := by have := (List.getElem?_eq_some_iff.1 hj).1; omega
          have := hcc j hjl
          rw [add_none, add_none] at this
          rw [this, hj]
        refine ⟨d, fun _ => ⟨bk, off, cs', rfl, ?_, by omega, hrg, hd1, hd2⟩⟩
        obtain ⟨u0, hu0⟩ : ∃ u0, cs'[0]? = some u0 := ⟨_, List.getElem?_eq_getElem (by omega)⟩
        exact cell_lt (hrg 0 u0 hu0)
      · exact ⟨dflt, fun h => absurd h hi⟩
    obtain ⟨f, hf2⟩ := Classical.axiomOfChoice each'
    have key : ∀ i y, ((List.range n).map f)[i]? = some y → i < n ∧ y = f i := by
      intro i y hy
      have hi : i < n := by
        have := (List.getElem?_eq_some_iff.1 hy).1
        simpa using this
      refine ⟨hi, ?_⟩
      simp [hi] at hy
      exact hy.symm
    refine ⟨some ad, n, c, (List.range n).map f, rfl, ⟨by simp, hl, hm, fun h => (by cases h), fun i y hy => ?_⟩, fun y hy => ?_, hn⟩
    · obtain ⟨hi, rfl⟩ := key i y hy
      obtain ⟨b, off, cs, e1, e2, e3, e4, e5, e6⟩ := hf2 i hi
      exact ⟨b, off, cs, by rw [e1], e2, e3, e4, e5⟩
    · obtain ⟨i, hi0⟩ := List.getElem?_of_mem hy
      obtain ⟨hi, hyf⟩ := key i y hi0
      obtain ⟨b, off, cs, e1, e2, e3, e4, e5, e6⟩ := hf2 i hi
      rw [hyf]; exact e6
/-- a slice in a cell -/
theorem slice_one {t e : TypeId} {H : Type} {enc : TypeId × Value → H} {W : World} {fuel : Nat} {u : Value} {x : DataW H × List MemPlace} (ht : Try.prog.underlying t = some (.slice e)) (h : DataW.trod enc Try.prog W 0 (fun _ => true) true fuel t [u] = some x) : u.oneCell' = true := by
  rcases Go.Deep.open_slice ht h with ⟨hcs, hx⟩ | ⟨ad, n, c, m, nf, D, Pl, hcs, _, hl, hm, hmm, hx, hel⟩
  · simp at hcs; subst hcs; rfl
  · simp at hcs; subst hcs; rfl

theorem co_int : Try.prog.cellsOf 3 = 1 := by kernel_rfl
theorem co_int64 : Try.prog.cellsOf 2 = 1 := by kernel_rfl
theorem co_bool : Try.prog.cellsOf 4 = 1 := by kernel_rfl
theorem co_Sem : Try.prog.cellsOf 24 = 2 := by kernel_rfl
theorem co_Buf : Try.prog.cellsOf 27 = 2 := by kernel_rfl
theorem co_Srv : Try.prog.cellsOf 30 = 4 := by kernel_rfl
theorem co_Part : Try.prog.cellsOf 37 = 21 := by kernel_rfl
theorem co_OS : Try.prog.cellsOf 55 = 3 := by kernel_rfl
theorem co_8 : Try.prog.cellsOf 34 = 8 := by kernel_rfl
theorem co_li : Try.prog.cellsOf 52 = 1 := by kernel_rfl
theorem co_lw : Try.prog.cellsOf 31 = 1 := by kernel_rfl
theorem co_llw : Try.prog.cellsOf 40 = 1 := by kernel_rfl
theorem co_lllw : Try.prog.cellsOf 53 = 1 := by kernel_rfl
theorem co_lI : Try.prog.cellsOf 32 = 1 := by kernel_rfl
theorem co_lP : Try.prog.cellsOf 33 = 1 := by kernel_rfl
theorem co_lS : Try.prog.cellsOf 25 = 1 := by kernel_rfl
theorem co_lb : Try.prog.cellsOf 35 = 1 := by kernel_rfl
theorem co_lB : Try.prog.cellsOf 28 = 1 := by kernel_rfl
theorem li2 {α : Type} {l : List α} (h : l.length = 2) : ∃ c0 c1, l = [c0, c1] := by
  match l, h with
  | [c0, c1], _ => exact ⟨c0, c1, rfl⟩
theorem li3 {α : Type} {l : List α} (h : l.length = 3) : ∃ c0 c1 c2, l = [c0, c1, c2] := by
  match l, h with
  | [c0, c1, c2], _ => exact ⟨c0, c1, c2, rfl⟩
theorem li4 {α : Type} {l : List α} (h : l.length = 4) : ∃ c0 c1 c2 c3, l = [c0, c1, c2, c3] := by
  match l, h with
  | [c0, c1, c2, c3], _ => exact ⟨c0, c1, c2, c3, rfl⟩
theorem li8 {α : Type} {l : List α} (h : l.length = 8) : ∃ c0 c1 c2 c3 c4 c5 c6 c7, l = [c0, c1, c2, c3, c4, c5, c6, c7] := by
  match l, h with
  | [c0, c1, c2, c3, c4, c5, c6, c7], _ => exact ⟨c0, c1, c2, c3, c4, c5, c6, c7, rfl⟩
theorem li11 {α : Type} {l : List α} (h : l.length = 11) : ∃ c0 c1 c2 c3 c4 c5 c6 c7 c8 c9 c10, l = [c0, c1, c2, c3, c4, c5, c6, c7, c8, c9, c10] := by
  match l, h with
  | [c0, c1, c2, c3, c4, c5, c6, c7, c8, c9, c10], _ => exact ⟨c0, c1, c2, c3, c4, c5, c6, c7, c8, c9, c10, rfl⟩
theorem li21 {α : Type} {l : List α} (h : l.length = 21) : ∃ c0 c1 c2 c3 c4 c5 c6 c7 c8 c9 c10 c11 c12 c13 c14 c15 c16 c17 c18 c19 c20, l = [c0, c1, c2, c3, c4, c5, c6, c7, c8, c9, c10, c11, c12, c13, c14, c15, c16, c17, c18, c19, c20] := by
  match l, h with
  | [c0, c1, c2, c3, c4, c5, c6, c7, c8, c9, c10, c11, c12, c13, c14, c15, c16, c17, c18, c19, c20], _ => exact ⟨c0, c1, c2, c3, c4, c5, c6, c7, c8, c9, c10, c11, c12, c13, c14, c15, c16, c17, c18, c19, c20, rfl⟩

/-! ### the elements -/
def elI (w : World) (F : Nat → Prop) (cs : List Value) (x : Int) : Prop := cs = [.int .i64 x]
def elB (w : World) (F : Nat → Prop) (cs : List Value) (x : Bool) : Prop := cs = [.bool x]
def elP (w : World) (F : Nat → Prop) (cs : List Value) (x : Int × Int) : Prop := cs = [.int .i64 x.1, .int .i64 x.2]
/-- a message -/
def elM (w : World) (F : Nat → Prop) (cs : List Value) (x : Value × List Int) : Prop := cs = [x.1] ∧ ∃ a c, x.1 = .slice a x.2.length c ∧ Ls 1 elI w F a x.2.length c x.2
/-- a buffer's messages -/
def elQ (w : World) (F : Nat → Prop) (cs : List Value) (x : Value × List (Value × List Int)) : Prop := cs = [x.1] ∧ ∃ a c, x.1 = .slice a x.2.length c ∧ Ls 1 elM w F a x.2.length c x.2

section
variable {H : Type} {enc : TypeId × Value → H} {W : World} {B : Nat}
theorem each_I (t : TypeId) (ht : Try.prog.underlying t = some (.int .i64)) : ∀ (fuel : Nat) (cs : List Value) (y : DataW H × List MemPlace), DataW.trod enc Try.prog W 0 (fun _ => true) true fuel t cs = some y → Rows.uptoBulk y.1 ≤ B → ∃ a : Int, elI W (Hn W) cs a ∧ True := by
  intro fuel cs y h _
  obtain ⟨n, e, _, w⟩ := DataW.trod_int ht h
  exact ⟨n, e, trivial⟩
theorem each_B : ∀ (fuel : Nat) (cs : List Value) (y : DataW H × List MemPlace), DataW.trod enc Try.prog W 0 (fun _ => true) true fuel 4 cs = some y → Rows.uptoBulk y.1 ≤ B → ∃ a : Bool, elB W (Hn W) cs a ∧ True := by
  intro fuel cs y h _
  obtain ⟨b, e, _⟩ := DataW.trod_bool Try.underlying4 h
  exact ⟨b, e, trivial⟩
theorem each_S : ∀ (fuel : Nat) (cs : List Value) (y : DataW H × List MemPlace), DataW.trod enc Try.prog W 0 (fun _ => true) true fuel 24 cs = some y → Rows.uptoBulk y.1 ≤ B → ∃ a : Int × Int, elP W (Hn W) cs a ∧ True := by
  intro fuel cs y h _
  obtain ⟨ys, n, _, rfl, hlc, hlen, hfs⟩ := DataW.trod_struct Try.underlying24 h
  rw [co_Sem] at hlc
  obtain ⟨c0, c1, rfl⟩ := li2 hlc
  obtain ⟨y0, y1, rfl⟩ := li2 (show ys.length = 2 from hlen)
  have g0 := hfs 0 _ rfl
  have g1 := hfs 1 _ rfl
  simp [co_int] at g0 g1
  obtain ⟨v0, e0, _, w0⟩ := DataW.trod_int Try.underlying3 g0
  obtain ⟨v1, e1, _, w1⟩ := DataW.trod_int Try.underlying3 g1
  simp at e0 e1
  subst e0 e1
  exact ⟨(v0, v1), rfl, trivial⟩
theorem each_F : ∀ (fuel : Nat) (cs : List Value) (y : DataW H × List MemPlace), DataW.trod enc Try.prog W 0 (fun _ => true) true fuel 27 cs = some y → Rows.uptoBulk y.1 ≤ B → ∃ a : Int × Int, elP W (Hn W) cs a ∧ True := by
  intro fuel cs y h _
  obtain ⟨ys, n, _, rfl, hlc, hlen, hfs⟩ := DataW.trod_struct Try.underlying27 h
  rw [co_Buf] at hlc
  obtain ⟨c0, c1, rfl⟩ := li2 hlc
  obtain ⟨y0, y1, rfl⟩ := li2 (show ys.length = 2 from hlen)
  have g0 := hfs 0 _ rfl
  have g1 := hfs 1 _ rfl
  simp [co_int] at g0 g1
  obtain ⟨v0, e0, _, w0⟩ := DataW.trod_int Try.underlying3 g0
  obtain ⟨v1, e1, _, w1⟩ := DataW.trod_int Try.underlying3 g1
  simp at e0 e1
  subst e0 e1
  exact ⟨(v0, v1), rfl, trivial⟩
theorem each_M : ∀ (fuel : Nat) (cs : List Value) (y : DataW H × List MemPlace), DataW.trod enc Try.prog W 0 (fun _ => true) true fuel 31 cs = some y → Rows.uptoBulk y.1 ≤ B → ∃ a : Value × List Int, elM W (Hn W) cs a ∧ a.2.length ≤ B := by
  intro fuel cs y h hb
  obtain ⟨a, n, c, l, rfl, hL, _, hn⟩ := open_list (El := elI) (Sz := fun _ => True) Try.underlying31 co_int64 (by decide) 0 (each_I 2 Try.underlying2) h hb
  have hln := hL.len
  subst hln
  exact ⟨(.slice a l.length c, l), ⟨rfl, a, c, rfl, hL⟩, hn⟩
theorem each_Q : ∀ (fuel : Nat) (cs : List Value) (y : DataW H × List MemPlace), DataW.trod enc Try.prog W 0 (fun _ => true) true fuel 40 cs = some y → Rows.uptoBulk y.1 ≤ B → ∃ a : Value × List (Value × List Int), elQ W (Hn W) cs a ∧ (a.2.length ≤ B ∧ ∀ m ∈ a.2, m.2.length ≤ B) := by
  intro fuel cs y h hb
  obtain ⟨a, n, c, l, rfl, hL, hs, hn⟩ := open_list (El := elM) (Sz := fun m => m.2.length ≤ B) Try.underlying40 co_lw (by decide) (.slice none 0 0, []) each_M h hb
  have hln := hL.len
  subst hln
  exact ⟨(.slice a l.length c, l), ⟨rfl, a, c, rfl, hL⟩, hn, hs⟩
end

theorem Ls.zs {w : World} {F : Nat → Prop} {a : Option Addr} {n c : Nat} {xs : List Int} (h : Ls 1 elI w F a n c xs) : Zs w F a n c xs := by
  have hl := h.len
  refine ⟨h.len, h.cap, h.max, h.nil, fun i hi => ?_⟩
  have hx : xs[i]? = some (xs.getD i 0) := by simp [List.getD, show i < xs.length by omega]
  obtain ⟨b, o, cs, e, hb, hcl, hr, rfl⟩ := h.at' i _ hx
  refine ⟨b, o, e, hb, ?_⟩
  have := hr 0 _ rfl
  rw [Nat.mul_one, Nat.add_zero] at this
  exact this
theorem Ls.vs {α : Type} {w : World} {F : Nat → Prop} {El : World → (Nat → Prop) → List Value → α → Prop} {a : Option Addr} {n c : Nat} {xs : List α} (h : Ls 1 El w F a n c xs) (g : α → Value) (hg : ∀ cs x, El w F cs x → cs = [g x]) : Vs w F a n c (xs.map g) := by
  have hl := h.len
  refine ⟨by rw [List.length_map]; exact hl, h.cap, h.max, h.nil, fun i u hu => ?_⟩
  rw [List.getElem?_map] at hu
  obtain ⟨x, hx, rfl⟩ := Option.map_eq_some_iff.1 hu
  obtain ⟨b, o, cs, e, hb, hcl, hr, hE⟩ := h.at' i _ hx
  obtain rfl := hg _ _ hE
  refine ⟨b, o, e, hb, ?_⟩
  have := hr 0 _ rfl
  rw [Nat.mul_one, Nat.add_zero] at this
  exact this
theorem Ls.pp {w : World} {F : Nat → Prop} {a : Option Addr} {n c : Nat} {xs : List (Int × Int)} (h : Ls 2 elP w F a n c xs) : Pp w F a n c (fun i => (xs.getD i (0, 0)).1) (fun i => (xs.getD i (0, 0)).2) := by
  have hl := h.len
  refine ⟨h.cap, h.max, fun i hi => ?_⟩
  have hx : xs[i]? = some (xs.getD i (0, 0)) := by simp [List.getD, show i < xs.length by omega]
  obtain ⟨b, o, cs, e, hb, hcl, hr, rfl⟩ := h.at' i _ hx
  exact ⟨b, o, e, hb, hr 0 _ rfl, hr 1 _ rfl⟩
theorem agg_of_many {v : Value} (h : 2 ≤ v.cells.toList.length) : ∃ cs : Array Value, v = .agg cs ∧ v.cells.toList = cs.toList := by
  cases v with
  | agg cs => exact ⟨cs, rfl, rfl⟩
  | _ => simp [Value.cells] at h
/-- a state that is handed in -/
theorem open_state {H : Type} {enc : TypeId × Value → H} {W : World} {v : Value} {d : DataW H} {p : List MemPlace} {B : Nat}
    (h : DataW.Trod enc Try.prog W 0 (fun _ => true) true 55 v d p) (hb : Rows.uptoBulk d ≤ B) :
    ∃ (ts te tb : Value) (cs : List Int) (us lvs : List Value) (mss : List (List Value)) (xss : List (List (List Int))) (f : Nat → Bool), v = .agg #[ts, te, tb] ∧ Or W (Hn W) ts te tb cs us lvs mss xss ∧ (∀ i, i < us.length → us[i]? = some (.bool (f i))) ∧ (∀ xs ∈ xss, xs.length ≤ B ∧ ∀ x ∈ xs, x.length ≤ B) := by
  obtain ⟨fuel, hf⟩ := h
  obtain ⟨ys, n, _, hys, hlc, hlen, hfs⟩ := DataW.trod_struct Try.underlying55 hf
  rw [co_OS] at hlc
  obtain ⟨A, rfl, hA⟩ := agg_of_many (v := v) (by omega)
  rw [hA] at hlc hfs
  obtain ⟨c0, c1, c2, hc⟩ := li3 hlc
  rw [hc] at hfs
  obtain ⟨y0, y1, y2, rfl⟩ := li3 (show ys.length = 3 from hlen)
  have hd : d = .agg [y0.1, y1.1, y2.1] := congrArg Prod.fst hys
  have b0 : Rows.uptoBulk y0.1 ≤ B := Nat.le_trans (by rw [hd]; exact bulks.agg_part (by simp)) hb
  have b1 : Rows.uptoBulk y1.1 ≤ B := Nat.le_trans (by rw [hd]; exact bulks.agg_part (by simp)) hb
  have b2 : Rows.uptoBulk y2.1 ≤ B := Nat.le_trans (by rw [hd]; exact bulks.agg_part (by simp)) hb
  have g0 := hfs 0 _ rfl
  have g1 := hfs 1 _ rfl
  have g2 := hfs 2 _ rfl
  simp [co_li, co_lb, co_lllw] at g0 g1 g2
  obtain ⟨a0, n0, k0, l0, e0, L0, _, _⟩ := open_list (El := elI) (Sz := fun _ => True) Try.underlying52 co_int (by decide) 0 (each_I 3 Try.underlying3) g0 b0
  obtain ⟨a1, n1, k1, l1, e1, L1, _, _⟩ := open_list (El := elB) (Sz := fun _ => True) Try.underlying35 co_bool (by decide) false each_B g1 b1
  obtain ⟨a2, n2, k2, l2, e2, L2, s2, _⟩ := open_list (El := elQ) (Sz := fun q => q.2.length ≤ B ∧ ∀ m ∈ q.2, m.2.length ≤ B) Try.underlying53 co_llw (by decide) (.slice none 0 0, []) each_Q g2 b2
  simp at e0 e1 e2
  subst e0 e1 e2
  have eA : A = #[.slice a0 n0 k0, .slice a1 n1 k1, .slice a2 n2 k2] := by
    cases A; simp at hc; simp [hc]
  have hl0 := L0.len
  have hl1 := L1.len
  have hl2 := L2.len
  subst hl0 hl1 hl2
  have v1 := L1.vs (fun b => Value.bool b) (fun cs x h => h)
  have v2 := L2.vs (fun q => q.1) (fun cs x h => h.1)
  refine ⟨_, _, _, l0, l1.map (fun b => Value.bool b), l2.map (fun q => q.1), l2.map (fun q => q.2.map (fun m => m.1)), l2.map (fun q => q.2.map (fun m => m.2)), fun i => l1.getD i false, by rw [eA], ?_, ?_, ?_⟩
  · refine ⟨⟨a0, k0, rfl, L0.zs⟩, ⟨a1, k1, by rw [List.length_map], by rw [List.length_map]; exact v1⟩, ⟨a2, k2, by rw [List.length_map], by rw [List.length_map]; exact v2⟩, by simp, by simp, fun i lv ms xs q1 q2 q3 => ?_⟩
    rw [List.getElem?_map] at q1 q2 q3
    obtain ⟨x, hx, rfl⟩ := Option.map_eq_some_iff.1 q1
    rw [hx] at q2 q3
    simp at q2 q3
    subst q2 q3
    obtain ⟨b, o, cs, e, hbk, hcl, hr, hE⟩ := L2.at' i _ hx
    obtain ⟨rfl, a, c, ex, LM⟩ := hE
    refine ⟨⟨a, c, by rw [List.length_map]; exact ex, by rw [List.length_map]; exact LM.vs (fun m => m.1) (fun cs x h => h.1)⟩, by simp, fun j v x' p1 p2 => ?_⟩
    rw [List.getElem?_map] at p1 p2
    obtain ⟨m, hm, rfl⟩ := Option.map_eq_some_iff.1 p1
    rw [hm] at p2
    simp at p2
    subst p2
    obtain ⟨b', o', cs', e', hbk', hcl', hr', hE'⟩ := LM.at' j _ hm
    obtain ⟨rfl, a', c', ex', LI⟩ := hE'
    exact ⟨a', c', ex', LI.zs⟩
  · intro i hi
    rw [List.length_map] at hi
    rw [List.getElem?_map, List.getElem?_eq_getElem hi]
    simp [List.getD, hi]
  · intro xs hxs
    obtain ⟨q, hq, rfl⟩ := List.mem_map.1 hxs
    refine ⟨by rw [List.length_map]; exact (s2 q hq).1, fun x hx => ?_⟩
    obtain ⟨m, hm, rfl⟩ := List.mem_map.1 hx
    exact (s2 q hq).2 m hm
/-- a partition that is handed in -/
theorem open_part {H : Type} {enc : TypeId × Value → H} {W : World} {v : Value} {d : DataW H} {p : List MemPlace}
    (h : DataW.Trod enc Try.prog W 0 (fun _ => true) true 37 v d p) :
    ∃ (A : Array Value) (sa ea ba : Option Addr) (n sc ne ec nb bc : Nat) (p q1 p' q' : Nat → Int) (us0 : List Value) (f0 : Nat → Bool), v = .agg A ∧ A.size = 21 ∧ A.all (·.oneCell') = true ∧ A[18]? = some (.slice sa n sc) ∧ A[19]? = some (.slice ea ne ec) ∧ A[20]? = some (.slice ba nb bc) ∧
      Pp W (Hn W) sa n sc p q1 ∧ (sa = none → sc = 0) ∧ Vs W (Hn W) ea ne ec us0 ∧ (∀ i, i < ne → us0[i]? = some (.bool (f0 i))) ∧ Pp W (Hn W) ba nb bc p' q' ∧ (ba = none → bc = 0) := by
  obtain ⟨fuel, hf⟩ := h
  obtain ⟨ys, n, _, hys, hlc, hlen, hfs⟩ := DataW.trod_struct Try.underlying37 hf
  rw [co_Part] at hlc
  obtain ⟨A, rfl, hA⟩ := agg_of_many (v := v) (by omega)
  rw [hA] at hlc hfs
  obtain ⟨c0, c1, c2, c3, c4, c5, c6, c7, c8, c9, c10, c11, c12, c13, c14, c15, c16, c17, c18, c19, c20, hc⟩ := li21 hlc
  rw [hc] at hfs
  obtain ⟨y0, y1, y2, y3, y4, y5, y6, y7, y8, y9, y10, rfl⟩ := li11 (show ys.length = 11 from hlen)
  have g0 := hfs 0 _ rfl
  have g1 := hfs 1 _ rfl
  have g2 := hfs 2 _ rfl
  have g3 := hfs 3 _ rfl
  have g4 := hfs 4 _ rfl
  have g5 := hfs 5 _ rfl
  have g6 := hfs 6 _ rfl
  have g7 := hfs 7 _ rfl
  have g8 := hfs 8 _ rfl
  have g9 := hfs 9 _ rfl
  have g10 := hfs 10 _ rfl
  simp [co_Srv, co_int, co_lw, co_lI, co_lP, co_8, co_lS, co_lb, co_lB] at g0 g1 g2 g3 g4 g5 g6 g7 g8 g9 g10
  obtain ⟨zs, n0, _, hz0, hzl, hzn, hzf⟩ := DataW.trod_struct Try.underlying30 g0
  obtain ⟨z0, z1, z2, z3, rfl⟩ := li4 (show zs.length = 4 from hzn)
  have s0 := hzf 0 _ rfl
  have s1 := hzf 1 _ rfl
  have s2 := hzf 2 _ rfl
  have s3 := hzf 3 _ rfl
  simp [co_int] at s0 s1 s2 s3
  obtain ⟨v0, e0, _, _⟩ := DataW.trod_int Try.underlying3 s0
  obtain ⟨v1, e1, _, _⟩ := DataW.trod_int Try.underlying3 s1
  obtain ⟨v2, e2, _, _⟩ := DataW.trod_int Try.underlying3 s2
  obtain ⟨v3, e3, _, _⟩ := DataW.trod_int Try.underlying3 s3
  obtain ⟨v4, e4, _, _⟩ := DataW.trod_int Try.underlying3 g1
  obtain ⟨v5, e5, _, _⟩ := DataW.trod_int Try.underlying3 g2
  obtain ⟨v9, e9, _, _⟩ := DataW.trod_int Try.underlying3 g6
  obtain ⟨hs, n7, _, hh0, hhl, hhn, hhf⟩ := DataW.trod_array Try.underlying34 g7
  obtain ⟨k0, k1, k2, k3, k4, k5, k6, k7, rfl⟩ := li8 (show hs.length = 8 from hhn)
  have t0 := hhf 0 (by decide)
  have t1 := hhf 1 (by decide)
  have t2 := hhf 2 (by decide)
  have t3 := hhf 3 (by decide)
  have t4 := hhf 4 (by decide)
  have t5 := hhf 5 (by decide)
  have t6 := hhf 6 (by decide)
  have t7 := hhf 7 (by decide)
  simp [co_int] at t0 t1 t2 t3 t4 t5 t6 t7
  obtain ⟨v10, e10, _, _⟩ := DataW.trod_int Try.underlying3 t0
  obtain ⟨v11, e11, _, _⟩ := DataW.trod_int Try.underlying3 t1
  obtain ⟨v12, e12, _, _⟩ := DataW.trod_int Try.underlying3 t2
  obtain ⟨v13, e13, _, _⟩ := DataW.trod_int Try.underlying3 t3
  obtain ⟨v14, e14, _, _⟩ := DataW.trod_int Try.underlying3 t4
  obtain ⟨v15, e15, _, _⟩ := DataW.trod_int Try.underlying3 t5
  obtain ⟨v16, e16, _, _⟩ := DataW.trod_int Try.underlying3 t6
  obtain ⟨v17, e17, _, _⟩ := DataW.trod_int Try.underlying3 t7
  simp at e0 e1 e2 e3 e4 e5 e9 e10 e11 e12 e13 e14 e15 e16 e17
  have o6 := slice_one Try.underlying31 g3
  have o7 := slice_one Try.underlying32 g4
  have o8 := slice_one Try.underlying33 g5
  obtain ⟨a18, n18, k18, l18, e18, L18, _, _⟩ := open_list (B := Rows.uptoBulk y8.1) (El := elP) (Sz := fun _ => True) Try.underlying25 co_Sem (by decide) (0, 0) each_S g8 (Nat.le_refl _)
  obtain ⟨a19, n19, k19, l19, e19, L19, _, _⟩ := open_list (B := Rows.uptoBulk y9.1) (El := elB) (Sz := fun _ => True) Try.underlying35 co_bool (by decide) false each_B g9 (Nat.le_refl _)
  obtain ⟨a20, n20, k20, l20, e20, L20, _, _⟩ := open_list (B := Rows.uptoBulk y10.1) (El := elP) (Sz := fun _ => True) Try.underlying28 co_Buf (by decide) (0, 0) each_F g10 (Nat.le_refl _)
  simp at e18 e19 e20
  subst e0 e1 e2 e3 e4 e5 e9 e10 e11 e12 e13 e14 e15 e16 e17 e18 e19 e20
  have eA : A = #[.int .i64 v0, .int .i64 v1, .int .i64 v2, .int .i64 v3, .int .i64 v4, .int .i64 v5, c6, c7, c8, .int .i64 v9, .int .i64 v10, .int .i64 v11, .int .i64 v12, .int .i64 v13, .int .i64 v14, .int .i64 v15, .int .i64 v16, .int .i64 v17, .slice a18 n18 k18, .slice a19 n19 k19, .slice a20 n20 k20] := by
    cases A; simp at hc; simp [hc]
  have hl19 := L19.len
  refine ⟨A, a18, a19, a20, n18, k18, n19, k19, n20, k20, _, _, _, _, l19.map (fun b => Value.bool b), fun i => l19.getD i false, rfl, by rw [eA]; rfl, ?_, by rw [eA]; rfl, by rw [eA]; rfl, by rw [eA]; rfl, L18.pp, L18.nil, L19.vs (fun b => Value.bool b) (fun cs x h => h), fun i hi => ?_, L20.pp, L20.nil⟩
  · rw [eA]
    have oi : ∀ k v, (Value.int k v).oneCell' = true := fun _ _ => rfl
    have os : ∀ a n c, (Value.slice a n c).oneCell' = true := fun _ _ _ => rfl
    simp [o6, o7, o8, oi, os]
  · rw [List.getElem?_map, List.getElem?_eq_getElem (by omega)]
    simp [List.getD, show i < l19.length by omega]
end Go.Proofs.Ytggkajopfbokjaa
