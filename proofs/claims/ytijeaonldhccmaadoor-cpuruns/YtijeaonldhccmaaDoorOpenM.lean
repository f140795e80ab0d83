/-
  A machine that came in, opened.
-/
import Derived.Test.YtijeaonldhccmaaDoorOpen
import Derived.Test.YtijeaonldhccmaaDoorMac
import Derived.Deep.Slices
namespace Go.Proofs.YtijeaonldhccmaaDoor
open Go.ChangeShapes Go.WideShapes Go.ChangeAt Go.RowKit
set_option linter.unusedVariables false

theorem cellsOf2 : Tryd.prog.cellsOf 2 = 1 := by kernel_rfl
theorem cellsOf3 : Tryd.prog.cellsOf 3 = 1 := by kernel_rfl
theorem cellsOf5 : Tryd.prog.cellsOf 5 = 1 := by kernel_rfl
theorem cellsOf21 : Tryd.prog.cellsOf 21 = 1 := by kernel_rfl
theorem cellsOf25 : Tryd.prog.cellsOf 25 = 16 := by kernel_rfl
theorem cellsOf30 : Tryd.prog.cellsOf 30 = 5 := by kernel_rfl
theorem cellsOf31 : Tryd.prog.cellsOf 31 = 1 := by kernel_rfl
theorem cellsOf34 : Tryd.prog.cellsOf 34 = 1 := by kernel_rfl
theorem cellsOf36 : Tryd.prog.cellsOf 36 = 20 := by kernel_rfl
theorem bytesOf2 : Tryd.prog.bytesOf 2 = 8 := by kernel_rfl
theorem bytesOf30 : Tryd.prog.bytesOf 30 = 8 := by kernel_rfl

theorem list5 {α : Type} {l : List α} (h : l.length = 5) : ∃ c0 c1 c2 c3 c4, l = [c0, c1, c2, c3, c4] := by
  match l, h with
  | [c0, c1, c2, c3, c4], _ => exact ⟨c0, c1, c2, c3, c4, rfl⟩
theorem agg_of_many {v : Value} (h : 2 ≤ v.cells.toList.length) : ∃ cs : Array Value, v = .agg cs ∧ v.cells.toList = cs.toList := by
  cases v with
  | agg cs => exact ⟨cs, rfl, rfl⟩
  | _ => simp [Value.cells] at h

/-- a slice of words in a cell; 'hw': its bytes -/
theorem words_cell {H : Type} {enc : TypeId × Value → H} {W : World} {fuel : Nat} {u : Value} {x : DataW H × List MemPlace} (h : DataW.trod enc Tryd.prog W 0 (fun _ => true) true fuel 34 [u] = some x) :
    ∃ (a : Option Addr) (n c : Nat) (xs : List Int), u = .slice a n c ∧ Zs W (fun k => k < W.heap.size) a n c xs ∧ (∀ z ∈ xs, I6 z) ∧ (c = 0 ∨ ∃ es sp, x.1 = .slice es sp ∧ es.length + sp.length = c) := by
  rcases open_ints Tryd.underlying34 Tryd.underlying2 cellsOf2 h with ⟨hcs, rfl⟩ | ⟨ad, n, c, zs, hcs, _, hl, hm, hz, rfl, hcell, hwz⟩
  · simp at hcs
    subst hcs
    exact ⟨none, 0, 0, [], rfl, ⟨rfl, by omega, by omega, fun _ => rfl, fun i hi => by omega⟩, (fun x hx => by cases hx), .inl rfl⟩
  · simp at hcs
    subst hcs
    simp at hz
    refine ⟨some ad, n, c, zs.take n, rfl, ⟨by rw [List.length_take]; omega, hl, hm, fun h => (by cases h), fun i hi => ?_⟩, fun z hz2 => wf_i64 (hwz z (List.mem_of_mem_take hz2)), .inr ⟨_, _, rfl, by simp [lits]; omega⟩⟩
    have hc := hcell i (by omega)
    have h0 := hcell 0 (by omega)
    obtain ⟨bk, off, spot⟩ := ad
    have hs : spot = none := by simpa [Addr.add] using World.cell?_spot h0
    subst hs
    rw [add_none] at hc
    refine ⟨bk, off, rfl, cell_lt hc, ?_⟩
    rw [hc]
    have e : (zs.take n).getD i 0 = zs.getD i 0 := by simp [List.getD, hi]
    rw [e]; rfl

theorem ins_cells {H : Type} {enc : TypeId × Value → H} {W : World} {fuel : Nat} {cs : List Value} {x : DataW H × List MemPlace} (h : DataW.trod enc Tryd.prog W 0 (fun _ => true) true fuel 30 cs = some x) :
    ∃ i : Ins, i.ok ∧ cs = [.int .u8 i.o, .int .u8 i.a, .int .u8 i.b, .int .u8 i.c, .int .i32 i.n] := by
  obtain ⟨ys, n, _, rfl, hlc, hlen, hfs⟩ := DataW.trod_struct Tryd.underlying30 h
  rw [cellsOf30] at hlc
  obtain ⟨c0, c1, c2, c3, c4, rfl⟩ := list5 hlc
  obtain ⟨y0, y1, y2, y3, y4, rfl⟩ := list5 (show ys.length = 5 from hlen)
  have g0 := hfs 0 _ rfl
  have g1 := hfs 1 _ rfl
  have g2 := hfs 2 _ rfl
  have g3 := hfs 3 _ rfl
  have g4 := hfs 4 _ rfl
  simp [cellsOf5, cellsOf21] at g0 g1 g2 g3 g4
  obtain ⟨x0, e0, _, w0⟩ := DataW.trod_int Tryd.underlying5 g0
  obtain ⟨x1, e1, _, w1⟩ := DataW.trod_int Tryd.underlying5 g1
  obtain ⟨x2, e2, _, w2⟩ := DataW.trod_int Tryd.underlying5 g2
  obtain ⟨x3, e3, _, w3⟩ := DataW.trod_int Tryd.underlying5 g3
  obtain ⟨x4, e4, _, w4⟩ := DataW.trod_int Tryd.underlying21 g4
  simp at e0 e1 e2 e3 e4
  subst e0 e1 e2 e3 e4
  have b0 := wf_u8 w0
  have b1 := wf_u8 w1
  have b2 := wf_u8 w2
  have b3 := wf_u8 w3
  have b4 := wf_i32 w4
  refine ⟨⟨x0.toNat, x1.toNat, x2.toNat, x3.toNat, x4⟩, ⟨?_, ?_, ?_, ?_, b4⟩, ?_⟩
  · show x0.toNat < 256; omega
  · show x1.toNat < 256; omega
  · show x2.toNat < 256; omega
  · show x3.toNat < 256; omega
  · show _ = [Value.int .u8 (x0.toNat : Int), .int .u8 (x1.toNat : Int), .int .u8 (x2.toNat : Int), .int .u8 (x3.toNat : Int), .int .i32 x4]
    rw [Int.toNat_of_nonneg b0.1, Int.toNat_of_nonneg b1.1, Int.toNat_of_nonneg b2.1, Int.toNat_of_nonneg b3.1]

theorem code_cell {H : Type} {enc : TypeId × Value → H} {W : World} {fuel : Nat} {u : Value} {x : DataW H × List MemPlace} (h : DataW.trod enc Tryd.prog W 0 (fun _ => true) true fuel 31 [u] = some x) :
    ∃ (a : Option Addr) (n c : Nat) (xs : List Ins), u = .slice a n c ∧ Cs W (fun k => k < W.heap.size) a n c xs ∧ (c = 0 ∨ ∃ es sp, x.1 = .slice es sp ∧ es.length + sp.length = c) := by
  rcases Go.Deep.open_slice Tryd.underlying31 h with ⟨hcs, hx⟩ | ⟨ad, l, k, m, nf, D, Pl, hcs, _, hl, hm, hmm, hx, hel⟩
  · simp at hcs
    subst hcs
    exact ⟨none, 0, 0, [], rfl, ⟨rfl, by omega, by omega, fun _ => rfl, (fun x hx => by cases hx), fun i hi => by omega⟩, .inl rfl⟩
  · simp at hcs
    subst hcs
    simp at hmm
    rw [cellsOf30] at hel
    have each : ∀ i, ∃ d : Ins, i < l → (d.ok ∧ ∃ b o, ad = ⟨b, o, none⟩ ∧ W.cell? ⟨b, o + i * 5, none⟩ = some (.int .u8 d.o) ∧ W.cell? ⟨b, o + i * 5 + 1, none⟩ = some (.int .u8 d.a) ∧ W.cell? ⟨b, o + i * 5 + 2, none⟩ = some (.int .u8 d.b) ∧ W.cell? ⟨b, o + i * 5 + 3, none⟩ = some (.int .u8 d.c) ∧ W.cell? ⟨b, o + i * 5 + 4, none⟩ = some (.int .i32 d.n)) := by
      intro i
      by_cases hi : i < l
      · obtain ⟨cs', hc1, hc2⟩ := hel i (by omega)
        obtain ⟨_, hcl, hcc⟩ := World.cells?_some hc1
        obtain ⟨bk, off, spot⟩ := ad
        obtain ⟨d, hok, rfl⟩ := ins_cells hc2
        have hs : spot = none := by
          obtain ⟨ds', hd1, _⟩ := hel 0 (by omega)
          obtain ⟨_, hdl, hdc⟩ := World.cells?_some hd1
          have h7 : 0 < ds'.length := by omega
          have := hdc 0 (by omega)
          rw [List.getElem?_eq_getElem h7] at this
          simpa [Addr.add] using World.cell?_spot this
        subst hs
        have at' : ∀ j, j < 5 → W.cell? ⟨bk, off + i * 5 + j, none⟩ = [Value.int .u8 d.o, .int .u8 d.a, .int .u8 d.b, .int .u8 d.c, .int .i32 d.n][j]? := by
          intro j hj
          have := hcc j hj
          rw [add_none, add_none] at this
          exact this
        exact ⟨d, fun _ => ⟨hok, bk, off, rfl, at' 0 (by decide), at' 1 (by decide), at' 2 (by decide), at' 3 (by decide), at' 4 (by decide)⟩⟩
      · exact ⟨ins0, fun h => absurd h hi⟩
    obtain ⟨f, hf2⟩ := Classical.axiomOfChoice each
    refine ⟨some ad, l, k, (List.range l).map f, rfl, ⟨by simp, hl, hm, fun h => (by cases h), ?_, ?_⟩, ?_⟩
    · intro x hx
      rw [List.mem_map] at hx
      obtain ⟨i, hi, rfl⟩ := hx
      exact (hf2 i (List.mem_range.1 hi)).1
    · intro i hi
      obtain ⟨_, b, o, e, h0, r⟩ := hf2 i hi
      have e2 : ((List.range l).map f).getD i ins0 = f i := by simp [List.getD, hi]
      rw [e2]
      exact ⟨b, o, by rw [e], cell_lt h0, h0, r⟩
    · refine .inr ?_
      subst hx
      exact ⟨_, _, rfl, by simp; omega⟩

theorem array16 {cs : List Value} (h : cs.length = 16) (R : Nat → Int) (hR : ∀ i, i < 16 → (cs.drop i).take 1 = [Value.int .i64 (R i)]) : cs = (regC R).toList := by
  apply List.ext_getElem?
  intro i
  by_cases hi : i < 16
  · have h1 := hR i hi
    have h2 : ((cs.drop i).take 1)[0]? = cs[i]? := by rw [List.getElem?_take_of_lt (by decide), List.getElem?_drop]; rfl
    rw [h1] at h2
    rw [← h2]
    have := regC_at R hi
    simpa using this.symm
  · rw [List.getElem?_eq_none (by omega), List.getElem?_eq_none (by show 16 ≤ i; omega)]
theorem regs_cells {H : Type} {enc : TypeId × Value → H} {W : World} {fuel : Nat} {cs : List Value} {x : DataW H × List MemPlace} (h : DataW.trod enc Tryd.prog W 0 (fun _ => true) true fuel 25 cs = some x) :
    ∃ R : Nat → Int, cs = (regC R).toList ∧ ∀ i, I6 (R i) := by
  obtain ⟨xs, n, _, _, hcl, hlen, hfs⟩ := DataW.trod_array Tryd.underlying25 h
  rw [cellsOf25] at hcl
  have each : ∀ i, ∃ z : Int, I6 z ∧ (i < 16 → (cs.drop i).take 1 = [Value.int .i64 z]) := by
    intro i
    by_cases hi : i < 16
    · have g := hfs i hi
      rw [cellsOf2, Nat.mul_one] at g
      rw [List.getElem?_eq_getElem (by omega)] at g
      obtain ⟨z, e, _, wz⟩ := DataW.trod_int Tryd.underlying2 g
      exact ⟨z, wf_i64 wz, fun _ => e⟩
    · exact ⟨0, by unfold I6; omega, fun h => absurd h hi⟩
  obtain ⟨R, hR⟩ := Classical.axiomOfChoice each
  exact ⟨R, array16 hcl R (fun i hi => (hR i).2 hi), fun i => (hR i).1⟩

theorem list20 {cs : List Value} (h : cs.length = 20) : cs = (cs.drop 0).take 1 ++ ((cs.drop 1).take 1 ++ ((cs.drop 2).take 1 ++ ((cs.drop 3).take 16 ++ (cs.drop 19).take 1))) := by
  match cs, h with
  | [_, _, _, _, _, _, _, _, _, _, _, _, _, _, _, _, _, _, _, _], _ => rfl

theorem open_mac {H : Type} {enc : TypeId × Value → H} {W : World} {base : Nat} {v : Value} {d : DataW H} {p : List MemPlace}
    (hv : Value.okWide Tryd.prog W .any base 36 v) (h : DataW.Trod enc Tryd.prog W 0 (fun _ => true) true 36 v d p) (hw : ∀ n ∈ d.weights Tryd.prog 36, n ≤ reachBytes) :
    ∃ (p m : Option Addr) (n cc mn mc : Nat) (fx : Int) (R : Nat → Int) (pc : Int) (xs : List Ins) (ms : List Int), v = macV (.slice p n cc) (.slice m mn mc) fx R pc ∧ Cs W (fun k => k < W.heap.size) p n cc xs ∧ Zs W (fun k => k < W.heap.size) m mn mc ms ∧ I6 fx ∧ (∀ i, I6 (R i)) ∧ I6 pc ∧ (∀ z ∈ ms, I6 z) ∧ cc ≤ 17592186043904 ∧ mc ≤ 17592186043904 := by
  obtain ⟨fuel, hf⟩ := h
  obtain ⟨ys, nf, _, hd, hlc, hlen, hfs⟩ := DataW.trod_struct Tryd.underlying36 hf
  rw [cellsOf36] at hlc
  obtain ⟨cs, rfl, hcs⟩ := agg_of_many (v := v) (by omega)
  rw [hcs] at hlc hfs
  obtain ⟨y0, y1, y2, y3, y4, rfl⟩ := list5 (show ys.length = 5 from hlen)
  have g0 := hfs 0 _ rfl
  have g1 := hfs 1 _ rfl
  have g2 := hfs 2 _ rfl
  have g3 := hfs 3 _ rfl
  have g4 := hfs 4 _ rfl
  have g0 : DataW.trod enc Tryd.prog W 0 (fun _ => true) true nf 31 ((cs.toList.drop 0).take 1) = some y0 := by simpa [cellsOf31] using g0
  have g1 : DataW.trod enc Tryd.prog W 0 (fun _ => true) true nf 34 ((cs.toList.drop 1).take 1) = some y1 := by simpa [cellsOf34] using g1
  have g2 : DataW.trod enc Tryd.prog W 0 (fun _ => true) true nf 3 ((cs.toList.drop 2).take 1) = some y2 := by simpa [cellsOf3] using g2
  have g3 : DataW.trod enc Tryd.prog W 0 (fun _ => true) true nf 25 ((cs.toList.drop 3).take 16) = some y3 := by simpa [cellsOf25] using g3
  have g4 : DataW.trod enc Tryd.prog W 0 (fun _ => true) true nf 3 ((cs.toList.drop 19).take 1) = some y4 := by simpa [cellsOf3] using g4
  have one : ∀ k, k < 20 → ∃ u, (cs.toList.drop k).take 1 = [u] := by
    intro k hk
    refine ⟨cs.toList[k]'(by omega), ?_⟩
    rw [List.drop_eq_getElem_cons (by omega)]; rfl
  obtain ⟨u0, e0⟩ := one 0 (by decide)
  obtain ⟨u1, e1⟩ := one 1 (by decide)
  rw [e0] at g0
  rw [e1] at g1
  obtain ⟨pa, n, cc, xs, rfl, hC, kC⟩ := code_cell g0
  obtain ⟨ma, mn, mc, ms, rfl, hZ, hz6, kZ⟩ := words_cell g1
  obtain ⟨fx, e2, _, w2⟩ := DataW.trod_int Tryd.underlying3 g2
  obtain ⟨R, e3, hR⟩ := regs_cells g3
  obtain ⟨pc, e4, _, w4⟩ := DataW.trod_int Tryd.underlying3 g4
  have hl := list20 hlc
  rw [e0, e1, e2, e3, e4] at hl
  refine ⟨pa, ma, n, cc, mn, mc, fx, R, pc, xs, ms, ?_, hC, hZ, wf_i64 w2, hR, wf_i64 w4, hz6, ?_, ?_⟩
  · unfold macV
    congr 1
    apply Array.toList_inj.1
    rw [hl]; rfl
  · rcases kC with h0 | ⟨es, sp, hd0, he⟩
    · omega
    · have h1 := hw ((es.length + sp.length) * Tryd.prog.bytesOf 30) (by
        injection hd with hd1 hd2
        rw [hd1]
        simp only [List.map, DataW.weights, Tryd.underlying36]
        refine DataW.weights_mem_each (P := Tryd.prog) (j := 0) (t := 31) (d := y0.1) (by rfl) (by rfl) _ ?_
        rw [hd0]
        simp [DataW.weights, Tryd.underlying31])
      rw [bytesOf30] at h1
      simp only [reachBytes] at h1
      omega
  · rcases kZ with h0 | ⟨es, sp, hd0, he⟩
    · omega
    · have h1 := hw ((es.length + sp.length) * Tryd.prog.bytesOf 2) (by
        injection hd with hd1 hd2
        rw [hd1]
        simp only [List.map, DataW.weights, Tryd.underlying36]
        refine DataW.weights_mem_each (P := Tryd.prog) (j := 1) (t := 34) (d := y1.1) (by rfl) (by rfl) _ ?_
        rw [hd0]
        simp [DataW.weights, Tryd.underlying34])
      rw [bytesOf2] at h1
      simp only [reachBytes] at h1
      omega

end Go.Proofs.YtijeaonldhccmaaDoor
