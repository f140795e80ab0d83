/-
  ProcApart: the arguments.
-/
import Derived.Test.YtofkacfchkimiaaRows
import Derived.Test.YtofkacfchkimiaaPApW
import Derived.Deep.Slices
import Derived.ProofKit
import Derived.OpenShut
import Derived.ChangeOld
namespace Go.Proofs.Ytofkacfchkimiaa
open Go.ChangeShapes Go.WideShapes Go.ChangeAt Go.RowKit Plain
set_option linter.unusedVariables false
set_option linter.unusedSimpArgs false
set_option maxRecDepth 100000

def Hn (W : World) (k : Nat) : Prop := k < W.heap.size
theorem open_list {α : Type} {t e : TypeId} {sz : Nat} {El : World → List Value → α → Prop} {H : Type} {enc : TypeId × Value → H} {W : World} {fuel : Nat} {us : List Value} {x : DataW H × List MemPlace}
    (ht : Try.prog.underlying t = some (.slice e)) (hce : Try.prog.cellsOf e = sz) (hz : 0 < sz) (dflt : α)
    (each : ∀ (fuel : Nat) (cs : List Value) (y : DataW H × List MemPlace), DataW.trod enc Try.prog W 0 (fun _ => true) true fuel e cs = some y → ∃ a : α, El W cs a)
    (h : DataW.trod enc Try.prog W 0 (fun _ => true) true fuel t us = some x) :
    ∃ (a : Option Addr) (n c : Nat) (f : Nat → α), us = [.slice a n c] ∧ n ≤ c ∧ c ≤ 9223372036854775807 ∧ (a = none → c = 0) ∧ ∀ i, i < n → ∃ b o cs, a = some ⟨b, o, none⟩ ∧ Hn W b ∧ cs.length = sz ∧ W.rangeAt b (o + i * sz) cs ∧ El W cs (f i) := by
  rcases Go.Deep.open_slice ht h with ⟨hcs, hx⟩ | ⟨ad, n, c, m, nf, D, Pl, hcs, _, hl, hm, hmm, hx, hel⟩
  · subst hcs
    exact ⟨none, 0, 0, fun _ => dflt, rfl, by omega, by omega, fun _ => rfl, fun i hi => by omega⟩
  · subst hcs
    simp at hmm
    rw [hce] at hel
    have each' : ∀ i, ∃ d : α, i < n → (∃ b o cs, ad = ⟨b, o, none⟩ ∧ Hn W b ∧ cs.length = sz ∧ W.rangeAt b (o + i * sz) cs ∧ El W cs d) := by
      intro i
      by_cases hi : i < n
      · obtain ⟨cs', hc1, hc2⟩ := hel i (by omega)
        obtain ⟨_, hcl, hcc⟩ := World.cells?_some hc1
        obtain ⟨bk, off, spot⟩ := ad
        have hs : spot = none := by
          obtain ⟨ds', hd1, _⟩ := hel 0 (by omega)
          obtain ⟨_, hdl, hdc⟩ := World.cells?_some hd1
          have h7 : 0 < ds'.length := by omega
          have := hdc 0 (by omega)
          rw [List.getElem?_eq_getElem h7] at this
          simpa [Addr.add] using World.cell?_spot this
        subst hs
        obtain ⟨d, hd1⟩ := each _ cs' _ hc2
        have hrg : W.rangeAt bk (off + i * sz) cs' := fun j u hj => by
          have hjl : j < sz := by have := (List.getElem?_eq_some_iff.1 hj).1; omega
          have := hcc j hjl
          rw [add_none, add_none] at this
          rw [this, hj]
        refine ⟨d, fun _ => ⟨bk, off, cs', rfl, ?_, by omega, hrg, hd1⟩⟩
        obtain ⟨u0, hu0⟩ : ∃ u0, cs'[0]? = some u0 := ⟨_, List.getElem?_eq_getElem (by omega)⟩
        exact cell_lt (hrg 0 u0 hu0)
      · exact ⟨dflt, fun h => absurd h hi⟩
    obtain ⟨f, hf2⟩ := Classical.axiomOfChoice each'
    refine ⟨some ad, n, c, f, rfl, hl, hm, fun h => (by cases h), fun i hi => ?_⟩
    obtain ⟨b, off, cs, e1, e2, e3, e4, e5⟩ := hf2 i hi
    exact ⟨b, off, cs, by rw [e1], e2, e3, e4, e5⟩
theorem agg_of_many {v : Value} (h : 2 ≤ v.cells.toList.length) : ∃ cs : Array Value, v = .agg cs ∧ v.cells.toList = cs.toList := by
  cases v with
  | agg cs => exact ⟨cs, rfl, rfl⟩
  | _ => simp [Value.cells] at h
theorem li3 {α : Type} {l : List α} (h : l.length = 3) : ∃ a b c, l = [a, b, c] := by
  match l, h with
  | [a, b, c], _ => exact ⟨a, b, c, rfl⟩
theorem li5 {α : Type} {l : List α} (h : l.length = 5) : ∃ a b c d e, l = [a, b, c, d, e] := by
  match l, h with
  | [a, b, c, d, e], _ => exact ⟨a, b, c, d, e, rfl⟩
theorem li6 {α : Type} {l : List α} (h : l.length = 6) : ∃ a b c d e f, l = [a, b, c, d, e, f] := by
  match l, h with
  | [a, b, c, d, e, f], _ => exact ⟨a, b, c, d, e, f, rfl⟩
theorem li8 {α : Type} {l : List α} (h : l.length = 8) : ∃ a b c d e f g i, l = [a, b, c, d, e, f, g, i] := by
  match l, h with
  | [a, b, c, d, e, f, g, i], _ => exact ⟨a, b, c, d, e, f, g, i, rfl⟩
theorem li10 {α : Type} {l : List α} (h : l.length = 10) : ∃ a b c d e f g i j k, l = [a, b, c, d, e, f, g, i, j, k] := by
  match l, h with
  | [a, b, c, d, e, f, g, i, j, k], _ => exact ⟨a, b, c, d, e, f, g, i, j, k, rfl⟩
theorem li11 {α : Type} {l : List α} (h : l.length = 11) : ∃ a b c d e f g i j k m, l = [a, b, c, d, e, f, g, i, j, k, m] := by
  match l, h with
  | [a, b, c, d, e, f, g, i, j, k, m], _ => exact ⟨a, b, c, d, e, f, g, i, j, k, m, rfl⟩
theorem li21 {α : Type} {l : List α} (h : l.length = 21) : ∃ a0 a1 a2 a3 a4 a5 a6 a7 a8 a9 a10 a11 a12 a13 a14 a15 a16 a17 a18 a19 a20, l = [a0, a1, a2, a3, a4, a5, a6, a7, a8, a9, a10, a11, a12, a13, a14, a15, a16, a17, a18, a19, a20] := by
  match l, h with
  | [a0, a1, a2, a3, a4, a5, a6, a7, a8, a9, a10, a11, a12, a13, a14, a15, a16, a17, a18, a19, a20], _ => exact ⟨a0, a1, a2, a3, a4, a5, a6, a7, a8, a9, a10, a11, a12, a13, a14, a15, a16, a17, a18, a19, a20, rfl⟩
theorem co_int : Try.prog.cellsOf 3 = 1 := by kernel_rfl
theorem co_w : Try.prog.cellsOf 2 = 1 := by kernel_rfl
theorem co_b : Try.prog.cellsOf 4 = 1 := by kernel_rfl
theorem co_u8 : Try.prog.cellsOf 5 = 1 := by kernel_rfl
theorem co_i32 : Try.prog.cellsOf 21 = 1 := by kernel_rfl
theorem co_8 : Try.prog.cellsOf 33 = 8 := by kernel_rfl
theorem co_3 : Try.prog.cellsOf 41 = 3 := by kernel_rfl
theorem co_Srv : Try.prog.cellsOf 31 = 4 := by kernel_rfl
theorem co_lw : Try.prog.cellsOf 32 = 1 := by kernel_rfl
theorem co_lI : Try.prog.cellsOf 26 = 1 := by kernel_rfl
theorem co_lP : Try.prog.cellsOf 29 = 1 := by kernel_rfl
theorem co_lS : Try.prog.cellsOf 34 = 1 := by kernel_rfl
theorem co_lb : Try.prog.cellsOf 35 = 1 := by kernel_rfl
theorem co_lB : Try.prog.cellsOf 36 = 1 := by kernel_rfl
theorem co_Part : Try.prog.cellsOf 38 = 21 := by kernel_rfl
theorem co_I : Try.prog.cellsOf 25 = 5 := by kernel_rfl
theorem co_P : Try.prog.cellsOf 28 = 6 := by kernel_rfl
theorem co_S : Try.prog.cellsOf 77 = 10 := by kernel_rfl
section
variable {H : Type} {enc : TypeId × Value → H} {W : World} {fuel : Nat} {cs : List Value} {y : DataW H × List MemPlace}
theorem each_I (h : DataW.trod enc Try.prog W 0 (fun _ => true) true fuel 25 cs = some y) : ∃ a : Int × Int × Int × Int × Int, cs = [.int .u8 a.1, .int .u8 a.2.1, .int .u8 a.2.2.1, .int .u8 a.2.2.2.1, .int .i32 a.2.2.2.2] := by
  obtain ⟨ys, n, _, rfl, hlc, hlen, hfs⟩ := DataW.trod_struct Try.underlying25 h
  rw [co_I] at hlc
  obtain ⟨c0, c1, c2, c3, c4, rfl⟩ := li5 hlc
  obtain ⟨y0, y1, y2, y3, y4, rfl⟩ := li5 (show ys.length = 5 from hlen)
  have g0 := hfs 0 _ rfl
  have g1 := hfs 1 _ rfl
  have g2 := hfs 2 _ rfl
  have g3 := hfs 3 _ rfl
  have g4 := hfs 4 _ rfl
  simp [co_u8, co_i32] at g0 g1 g2 g3 g4
  obtain ⟨v0, e0, _, _⟩ := DataW.trod_int Try.underlying5 g0
  obtain ⟨v1, e1, _, _⟩ := DataW.trod_int Try.underlying5 g1
  obtain ⟨v2, e2, _, _⟩ := DataW.trod_int Try.underlying5 g2
  obtain ⟨v3, e3, _, _⟩ := DataW.trod_int Try.underlying5 g3
  obtain ⟨v4, e4, _, _⟩ := DataW.trod_int Try.underlying21 g4
  simp at e0 e1 e2 e3 e4
  subst e0 e1 e2 e3 e4
  exact ⟨(v0, v1, v2, v3, v4), rfl⟩
theorem each_P (h : DataW.trod enc Try.prog W 0 (fun _ => true) true fuel 28 cs = some y) : ∃ q : Ql, cs = qC q := by
  obtain ⟨ys, n, _, rfl, hlc, hlen, hfs⟩ := DataW.trod_struct Try.underlying28 h
  rw [co_P] at hlc
  obtain ⟨c0, c1, c2, c3, c4, c5, rfl⟩ := li6 hlc
  obtain ⟨y0, y1, y2, y3, y4, y5, rfl⟩ := li6 (show ys.length = 6 from hlen)
  have g0 := hfs 0 _ rfl
  have g1 := hfs 1 _ rfl
  have g2 := hfs 2 _ rfl
  have g3 := hfs 3 _ rfl
  have g4 := hfs 4 _ rfl
  have g5 := hfs 5 _ rfl
  simp [co_int, co_b] at g0 g1 g2 g3 g4 g5
  obtain ⟨v0, e0, _, _⟩ := DataW.trod_int Try.underlying3 g0
  obtain ⟨v1, e1, _, _⟩ := DataW.trod_int Try.underlying3 g1
  obtain ⟨v2, e2, _, _⟩ := DataW.trod_int Try.underlying3 g2
  obtain ⟨v3, e3, _, _⟩ := DataW.trod_int Try.underlying3 g3
  obtain ⟨v4, e4, _, _⟩ := DataW.trod_int Try.underlying3 g4
  obtain ⟨v5, e5, _⟩ := DataW.trod_bool Try.underlying4 g5
  simp at e0 e1 e2 e3 e4 e5
  subst e0 e1 e2 e3 e4 e5
  exact ⟨⟨v0, v1, v2, v3, v4, v5⟩, rfl⟩
theorem each_w (h : DataW.trod enc Try.prog W 0 (fun _ => true) true fuel 2 cs = some y) : ∃ d : Int, cs = [.int .i64 d] := by
  obtain ⟨x0, e0, _, _⟩ := DataW.trod_int Try.underlying2 h
  exact ⟨x0, e0⟩
theorem words_of (h : DataW.trod enc Try.prog W 0 (fun _ => true) true fuel 32 cs = some y) : ∃ (a : Option Addr) (n c : Nat) (xs : List Int), cs = [.slice a n c] ∧ Zs W (Hn W) a n c xs := by
  obtain ⟨a, n, c, f, rfl, h1, h2, h3, h4⟩ := open_list (El := fun _ cs (d : Int) => cs = [.int .i64 d]) Try.underlying32 co_w (by decide) 0 (fun _ _ _ => each_w) h
  refine ⟨a, n, c, (List.range n).map f, rfl, ⟨by simp, h1, h2, h3, fun i hi => ?_⟩⟩
  obtain ⟨b, o, cs, e1, e2, e3, e4, rfl⟩ := h4 i hi
  refine ⟨b, o, e1, e2, ?_⟩
  have := e4 0 _ rfl
  rw [Nat.mul_one, Nat.add_zero] at this
  rw [this]
  simp [List.getD, hi, iv]
theorem each_S (h : DataW.trod enc Try.prog W 0 (fun _ => true) true fuel 77 cs = some y) : ∃ s : Sp, ∃ (a : Option Addr) (n c : Nat), cs = (s.row (.slice a n c)).toList ∧ Zs W (Hn W) a n c s.ws := by
  obtain ⟨ys, n, _, rfl, hlc, hlen, hfs⟩ := DataW.trod_struct Try.underlying77 h
  rw [co_S] at hlc
  obtain ⟨c0, c1, c2, c3, c4, c5, c6, c7, c8, c9, rfl⟩ := li10 hlc
  obtain ⟨y0, y1, y2, y3, y4, y5, y6, y7, rfl⟩ := li8 (show ys.length = 8 from hlen)
  have g0 := hfs 0 _ rfl
  have g1 := hfs 1 _ rfl
  have g2 := hfs 2 _ rfl
  have g3 := hfs 3 _ rfl
  have g4 := hfs 4 _ rfl
  have g5 := hfs 5 _ rfl
  have g6 := hfs 6 _ rfl
  have g7 := hfs 7 _ rfl
  simp [co_int, co_3, co_lw] at g0 g1 g2 g3 g4 g5 g6 g7
  obtain ⟨v0, e0, _, _⟩ := DataW.trod_int Try.underlying3 g0
  obtain ⟨v1, e1, _, _⟩ := DataW.trod_int Try.underlying3 g1
  obtain ⟨v2, e2, _, _⟩ := DataW.trod_int Try.underlying3 g2
  obtain ⟨v3, e3, _, _⟩ := DataW.trod_int Try.underlying3 g3
  obtain ⟨v4, e4, _, _⟩ := DataW.trod_int Try.underlying3 g4
  obtain ⟨v5, e5, _, _⟩ := DataW.trod_int Try.underlying3 g5
  obtain ⟨hs, n7, _, hh0, hhl, hhn, hhf⟩ := DataW.trod_array Try.underlying41 g6
  obtain ⟨k0, k1, k2, rfl⟩ := li3 (show hs.length = 3 from hhn)
  have t0 := hhf 0 (by decide)
  have t1 := hhf 1 (by decide)
  have t2 := hhf 2 (by decide)
  simp [co_w] at t0 t1 t2
  obtain ⟨v6, e6, _, _⟩ := DataW.trod_int Try.underlying2 t0
  obtain ⟨v7, e7, _, _⟩ := DataW.trod_int Try.underlying2 t1
  obtain ⟨v8, e8, _, _⟩ := DataW.trod_int Try.underlying2 t2
  obtain ⟨a, m, c, xs, e9, z⟩ := words_of g7
  simp at e0 e1 e2 e3 e4 e5 e6 e7 e8 e9
  subst e0 e1 e2 e3 e4 e5 e6 e7 e8 e9
  exact ⟨⟨v0, v1, v2, v3, v4, v5, v6, v7, v8, xs⟩, a, m, c, rfl, z⟩
end
theorem open_steps {H : Type} {enc : TypeId × Value → H} {W : World} {base : Nat} {v : Value} {d : DataW H} {p : List MemPlace}
    (hv : Value.okWide Try.prog W .any base 72 v) (h : DataW.Trod enc Try.prog W 0 (fun _ => true) true 72 v d p) :
    ∃ (a : Option Addr) (n c : Nat) (st : Nat → Sp), v = .slice a n c ∧ Sq W (Hn W) a n c st := by
  obtain ⟨a, n, c, rfl⟩ := okWide_slice Try.underlying72 hv
  obtain ⟨fuel, hf⟩ := h
  obtain ⟨a', n', c', f, e, h1, h2, h3, h4⟩ := open_list (El := fun W cs (s : Sp) => ∃ (a : Option Addr) (n c : Nat), cs = (s.row (.slice a n c)).toList ∧ Zs W (Hn W) a n c s.ws) Try.underlying72 co_S (by decide) ⟨0, 0, 0, 0, 0, 0, 0, 0, 0, []⟩ (fun _ _ _ => each_S) hf
  simp [Value.cells] at e
  obtain ⟨e1, e2, e3⟩ := e
  subst e1 e2 e3
  refine ⟨a, n, c, f, rfl, ⟨h1, h2, fun i hi => ?_⟩⟩
  obtain ⟨b, o, cs, e1, e2, e3, e4, da, dn, dc, rfl, z⟩ := h4 i hi
  refine ⟨b, o, da, dn, dc, e1, e2, fun j hj => ?_, z⟩
  have hv : ((f i).row (.slice da dn dc))[j]? = some (((f i).row (.slice da dn dc))[j]'(by show j < 10; exact hj)) := Array.getElem?_eq_getElem _
  rw [hv]
  exact e4 j _ (by simp)
theorem open_part {H : Type} {enc : TypeId × Value → H} {W : World} {v : Value} {d : DataW H} {p : List MemPlace}
    (h : DataW.Trod enc Try.prog W 0 (fun _ => true) true 38 v d p) :
    ∃ (A : Array Value) (ca pa : Option Addr) (cn cc n pc : Nat) (hd : Int) (qs : Nat → Ql), v = .agg A ∧ A.size = 21 ∧ A[7]? = some (.slice ca cn cc) ∧ A[8]? = some (.slice pa n pc) ∧ A[9]? = some (.int .i64 hd) ∧ Ci W (Hn W) ca cn cc ∧ Pq W (Hn W) pa n pc qs := by
  obtain ⟨fuel, hf⟩ := h
  obtain ⟨ys, n, _, hys, hlc, hlen, hfs⟩ := DataW.trod_struct Try.underlying38 hf
  rw [co_Part] at hlc
  obtain ⟨A, rfl, hA⟩ := agg_of_many (v := v) (by omega)
  rw [hA] at hlc hfs
  obtain ⟨c0, c1, c2, c3, c4, c5, c6, c7, c8, c9, c10, c11, c12, c13, c14, c15, c16, c17, c18, c19, c20, hc⟩ := li21 hlc
  rw [hc] at hfs
  obtain ⟨y0, y1, y2, y3, y4, y5, y6, y7, y8, y9, y10, rfl⟩ := li11 (show ys.length = 11 from hlen)
  have g4 := hfs 4 _ rfl
  have g5 := hfs 5 _ rfl
  have g6 := hfs 6 _ rfl
  simp [co_Srv, co_int, co_lw, co_lI, co_lP] at g4 g5 g6
  obtain ⟨v9, e9, _, _⟩ := DataW.trod_int Try.underlying3 g6
  obtain ⟨ca, cn, cc, fc, e7, q1, q2, q3, q4⟩ := open_list (El := fun _ cs (a : Int × Int × Int × Int × Int) => cs = [.int .u8 a.1, .int .u8 a.2.1, .int .u8 a.2.2.1, .int .u8 a.2.2.2.1, .int .i32 a.2.2.2.2]) Try.underlying26 co_I (by decide) (0, 0, 0, 0, 0) (fun _ _ _ => each_I) g4
  obtain ⟨pa, pn, pc, fp, e8, r1, r2, r3, r4⟩ := open_list (El := fun _ cs (q : Ql) => cs = qC q) Try.underlying29 co_P (by decide) ⟨0, 0, 0, 0, 0, false⟩ (fun _ _ _ => each_P) g5
  simp at e7 e8 e9
  subst e7 e8 e9
  have eA : A.toList = [c0, c1, c2, c3, c4, c5, c6, .slice ca cn cc, .slice pa pn pc, .int .i64 v9, c10, c11, c12, c13, c14, c15, c16, c17, c18, c19, c20] := hc
  have gA : ∀ j : Nat, A[j]? = A.toList[j]? := fun j => by simp
  refine ⟨A, ca, pa, cn, cc, pn, pc, v9, fp, rfl, by rw [← Array.length_toList, eA]; rfl, by rw [gA, eA]; rfl, by rw [gA, eA]; rfl, by rw [gA, eA]; rfl, ⟨q1, q2, fun i hi => ?_⟩, ⟨r1, r2, fun i hi => ?_⟩⟩
  · obtain ⟨b, o, cs, e1, e2, e3, e4, rfl⟩ := q4 i hi
    have a0 := e4 0 _ rfl
    rw [Nat.add_zero] at a0
    exact ⟨b, o, _, _, _, _, _, e1, e2, a0, e4 1 _ rfl, e4 2 _ rfl, e4 3 _ rfl, e4 4 _ rfl⟩
  · obtain ⟨b, o, cs, e1, e2, e3, e4, rfl⟩ := r4 i hi
    have a0 := e4 0 _ rfl
    rw [Nat.add_zero] at a0
    exact ⟨b, o, e1, e2, a0, e4 1 _ rfl, e4 2 _ rfl, e4 3 _ rfl, e4 4 _ rfl, e4 5 _ rfl⟩
theorem apart_out {A : Array Value} {ca pa sa : Option Addr} {cn0 cc0 n0 pc0 sn sc : Nat} {hd : Int} {qs0 : Nat → Ql} {st : Nat → Sp} (w : World) (hA : A.size = 21) (h7 : A[7]? = some (.slice ca cn0 cc0)) (h8 : A[8]? = some (.slice pa n0 pc0)) (h9 : A[9]? = some (.int .i64 hd)) (hc : Ci w (Hn w) ca cn0 cc0) (hq : Pq w (Hn w) pa n0 pc0 qs0) (hs : Sq w (Hn w) sa sn sc st) :
    Calls Try.prog 6 #[.agg A, .slice sa sn sc] w fun e w' => e = .returned (.bool true) ∧ Below w.heap.size w w' :=
  (apart_law w hA h7 h8 h9 hc hq hs (fun _ h => h)).mono fun e w' h => ⟨h.1, h.2.below0⟩
end Go.Proofs.Ytofkacfchkimiaa
