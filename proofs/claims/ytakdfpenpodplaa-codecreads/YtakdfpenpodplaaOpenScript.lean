/-
  A script opened.
-/
import Derived.Test.YtakdfpenpodplaaOpen
import Derived.Test.YtakdfpenpodplaaAgainWalk
import Derived.Deep.Slices
import Derived.Deep.CondSized
namespace Go.Proofs.Ytakdfpenpodplaa
open Go.ChangeShapes Go.WideShapes Go.ChangeAt Go.RowKit
set_option linter.unusedVariables false

namespace bulks
theorem one_le {H : Type} (d : DataW H) : 1 ≤ Rows.uptoBulk d := by
  cases d with
  | lit x => cases x <;> simp [Rows.uptoBulk]
  | _ => simp [Rows.uptoBulk]
theorem length_le {H : Type} (l : List (DataW H)) : l.length ≤ Rows.uptoBulkAll l := by
  induction l with
  | nil => simp [Rows.uptoBulkAll]
  | cons x r ih => have := one_le x; simp only [Rows.uptoBulkAll, List.length_cons]; omega
theorem slice_le {H : Type} (elems spare : List (DataW H)) : elems.length + spare.length + 1 ≤ Rows.uptoBulk (.slice elems spare) := by
  have h1 := length_le elems
  have h2 := length_le spare
  simp only [Rows.uptoBulk]
  omega
theorem bound {H : Type} {l : List (DataW H)} (hk : Rows.uptoSmall H l = true) : Rows.uptoBulkAll l ≤ 1048576 := of_decide_eq_true hk
end bulks

theorem cells43 : Try.prog.cellsOf 43 = 7 := by kernel_rfl
theorem cells3 : Try.prog.cellsOf 3 = 1 := by kernel_rfl
theorem cells2 : Try.prog.cellsOf 2 = 1 := by kernel_rfl
theorem cells4 : Try.prog.cellsOf 4 = 1 := by kernel_rfl
theorem cells22 : Try.prog.cellsOf 22 = 1 := by kernel_rfl
theorem cells41 : Try.prog.cellsOf 41 = 1 := by kernel_rfl

theorem wf_i64 {n : Int} (h : (Lit.int .i64 n).wf = true) : -9223372036854775808 ≤ n ∧ n ≤ 9223372036854775807 := by
  simp [Lit.wf, IntKind.min, IntKind.max, IntKind.bits, IntKind.signed] at h
  omega

/-- an operation's data -/
structure OpD where
  K : Int
  N : Int
  Wd : Int
  Fl : Bool
  xs : List Nat
  zs : List Int
  M : Int

/-- a slice of bytes in a cell -/
theorem bytes_cell {H : Type} {enc : TypeId × Value → H} {W : World} {fuel : Nat} {u : Value} {x : DataW H × List MemPlace} (h : DataW.trod enc Try.prog W 0 (fun _ => true) true fuel 22 [u] = some x) :
    ∃ (a : Option Addr) (n c : Nat) (xs : List Nat), u = .slice a n c ∧ Bs W (fun _ => True) a n c xs ∧ xs.length + 1 ≤ Rows.uptoBulk x.1 := by
  rcases open_ints Try.underlying22 Try.underlying5 cells5 h with ⟨hcs, rfl⟩ | ⟨ad, n, c, zs, hcs, _, hl, hm, hz, rfl, hcell, hwz⟩
  · simp at hcs
    subst hcs
    exact ⟨none, 0, 0, [], rfl, ⟨rfl, by omega, by omega, fun _ => rfl, fun i hi => by omega, fun x hx => by cases hx⟩, bulks.one_le _⟩
  · simp at hcs
    subst hcs
    simp at hz
    have hmem : ∀ i, i < n → zs.getD i 0 ∈ zs := by
      intro i hi
      rw [List.getD_eq_getElem?_getD, List.getElem?_eq_getElem (show i < zs.length by omega)]
      exact List.getElem_mem _
    refine ⟨some ad, n, c, (List.range n).map (fun i => (zs.getD i 0).toNat), rfl, ⟨by simp, hl, hm, fun h => (by cases h), fun i hi => ?_, ?_⟩, ?_⟩
    · have hc := hcell i (by omega)
      have h0 := hcell 0 (by omega)
      obtain ⟨bk, off, spot⟩ := ad
      have hs : spot = none := by simpa [Addr.add] using World.cell?_spot h0
      subst hs
      rw [add_none] at hc
      refine ⟨bk, off, rfl, trivial, ?_⟩
      have hb := wf_u8 (hwz _ (hmem i hi))
      rw [hc]
      have e : ((List.range n).map (fun i => (zs.getD i 0).toNat)).getD i 0 = (zs.getD i 0).toNat := by simp [List.getD, hi]
      rw [e]
      unfold bv
      rw [Int.toNat_of_nonneg hb.1]
    · intro y hy
      rw [List.mem_map] at hy
      obtain ⟨i, hi, rfl⟩ := hy
      rw [List.mem_range] at hi
      have hb := wf_u8 (hwz _ (hmem i hi))
      omega
    · have := bulks.slice_le (H := H) (lits .u8 (zs.take n)) (lits .u8 (zs.drop n))
      have e : (lits (H := H) .u8 (zs.take n)).length = n := by simp [lits]; omega
      rw [e] at this
      simp only [List.length_map, List.length_range]
      omega

/-- a slice of ints in a cell -/
theorem ints_cell {H : Type} {enc : TypeId × Value → H} {W : World} {fuel : Nat} {u : Value} {x : DataW H × List MemPlace} (h : DataW.trod enc Try.prog W 0 (fun _ => true) true fuel 41 [u] = some x) :
    ∃ (a : Option Addr) (n c : Nat) (xs : List Int), u = .slice a n c ∧ Zs W (fun _ => True) a n c xs ∧ (∀ z ∈ xs, -9223372036854775808 ≤ z ∧ z ≤ 9223372036854775807) ∧ xs.length + 1 ≤ Rows.uptoBulk x.1 := by
  rcases open_ints Try.underlying41 Try.underlying3 cells3 h with ⟨hcs, rfl⟩ | ⟨ad, n, c, zs, hcs, _, hl, hm, hz, rfl, hcell, hwz⟩
  · simp at hcs
    subst hcs
    exact ⟨none, 0, 0, [], rfl, ⟨rfl, by omega, by omega, fun _ => rfl, fun i hi => by omega⟩, (fun x hx => by cases hx), bulks.one_le _⟩
  · simp at hcs
    subst hcs
    simp at hz
    refine ⟨some ad, n, c, zs.take n, rfl, ⟨by rw [List.length_take]; omega, hl, hm, fun h => (by cases h), fun i hi => ?_⟩, fun z hz2 => wf_i64 (hwz z (List.mem_of_mem_take hz2)), ?_⟩
    · have hc := hcell i (by omega)
      have h0 := hcell 0 (by omega)
      obtain ⟨bk, off, spot⟩ := ad
      have hs : spot = none := by simpa [Addr.add] using World.cell?_spot h0
      subst hs
      rw [add_none] at hc
      refine ⟨bk, off, rfl, trivial, ?_⟩
      rw [hc]
      have e : (zs.take n).getD i 0 = zs.getD i 0 := by simp [List.getD, hi]
      rw [e]; rfl
    · have := bulks.slice_le (H := H) (lits .i64 (zs.take n)) (lits .i64 (zs.drop n))
      have e : (lits (H := H) .i64 (zs.take n)).length = n := by simp [lits]; omega
      rw [e] at this
      rw [List.length_take]
      show _ ≤ Rows.uptoBulk (DataW.slice (H := H) (lits .i64 (zs.take n)) (lits .i64 (zs.drop n)))
      omega

/-- what is known of one operation of a script -/
def OpOk (W : World) (b o : Nat) (d : OpD) : Prop :=
  ∃ ba bn bc la ln lc, OpAt W b o d.K d.N d.Wd d.Fl ba bn bc la ln lc d.M ∧ Bs W (fun _ => True) ba bn bc d.xs ∧ Zs W (fun _ => True) la ln lc d.zs ∧
    (-9223372036854775808 ≤ d.N ∧ d.N ≤ 9223372036854775807) ∧ (-9223372036854775808 ≤ d.Wd ∧ d.Wd ≤ 9223372036854775807) ∧ (-9223372036854775808 ≤ d.M ∧ d.M ≤ 9223372036854775807) ∧ (∀ z ∈ d.zs, -9223372036854775808 ≤ z ∧ z ≤ 9223372036854775807)

theorem list7 {α : Type} {l : List α} (h : l.length = 7) : ∃ c0 c1 c2 c3 c4 c5 c6, l = [c0, c1, c2, c3, c4, c5, c6] := by
  match l, h with
  | [c0, c1, c2, c3, c4, c5, c6], _ => exact ⟨c0, c1, c2, c3, c4, c5, c6, rfl⟩

theorem op_cells {H : Type} {enc : TypeId × Value → H} {W : World} {fuel : Nat} {cs : List Value} {x : DataW H × List MemPlace} {b o : Nat} (hc : ∀ j u, cs[j]? = some u → W.cell? ⟨b, o + j, none⟩ = some u) (h : DataW.trod enc Try.prog W 0 (fun _ => true) true fuel 43 cs = some x) :
    ∃ d : OpD, OpOk W b o d ∧ d.xs.length + d.zs.length + 1 ≤ Rows.uptoBulk x.1 := by
  obtain ⟨ys, n, _, rfl, hlc, hlen, hfs⟩ := DataW.trod_struct Try.underlying43 h
  rw [cells43] at hlc
  obtain ⟨c0, c1, c2, c3, c4, c5, c6, rfl⟩ := list7 hlc
  obtain ⟨y0, y1, y2, y3, y4, y5, y6, rfl⟩ := list7 (show ys.length = 7 from hlen)
  have g0 := hfs 0 _ rfl
  have g1 := hfs 1 _ rfl
  have g2 := hfs 2 _ rfl
  have g3 := hfs 3 _ rfl
  have g4 := hfs 4 _ rfl
  have g5 := hfs 5 _ rfl
  have g6 := hfs 6 _ rfl
  simp [cells2, cells3, cells4, cells22, cells41] at g0 g1 g2 g3 g4 g5 g6
  obtain ⟨K, e0, _, w0⟩ := DataW.trod_int Try.underlying3 g0
  obtain ⟨N, e1, _, w1⟩ := DataW.trod_int Try.underlying3 g1
  obtain ⟨Wd, e2, _, w2⟩ := DataW.trod_int Try.underlying2 g2
  obtain ⟨Fl, e3, _⟩ := DataW.trod_bool Try.underlying4 g3
  obtain ⟨ba, bn, bc, xs, rfl, hB, kB⟩ := bytes_cell g4
  obtain ⟨la, ln, lc, zs, rfl, hZ, hzz, kZ⟩ := ints_cell g5
  obtain ⟨M, e6, _, w6⟩ := DataW.trod_int Try.underlying3 g6
  simp at e0 e1 e2 e3 e6
  subst e0 e1 e2 e3 e6
  refine ⟨⟨K, N, Wd, Fl, xs, zs, M⟩, ⟨ba, bn, bc, la, ln, lc, ⟨hc 0 _ rfl, hc 1 _ rfl, hc 2 _ rfl, hc 3 _ rfl, hc 4 _ rfl, hc 5 _ rfl, hc 6 _ rfl⟩, hB, hZ, wf_i64 w1, wf_i64 w2, wf_i64 w6, hzz⟩, ?_⟩
  simp only [List.map, Rows.uptoBulk, Rows.uptoBulkAll]
  omega

theorem sum_le {H : Type} (D : Nat → DataW H) (f : Nat → OpD) (m : Nat) (h : ∀ i, i < m → (f i).xs.length + (f i).zs.length + 1 ≤ Rows.uptoBulk (D i)) :
    (((List.range m).map f).map (fun d => d.xs.length + d.zs.length + 1)).sum ≤ Rows.uptoBulkAll ((List.range m).map D) := by
  have app : ∀ l r : List (DataW H), Rows.uptoBulkAll (l ++ r) = Rows.uptoBulkAll l + Rows.uptoBulkAll r := by
    intro l r
    induction l with
    | nil => simp [Rows.uptoBulkAll]
    | cons x l ih => simp only [List.cons_append, Rows.uptoBulkAll, ih]; omega
  induction m with
  | zero => simp [Rows.uptoBulkAll]
  | succ m ih =>
    rw [List.range_succ, List.map_append, List.map_append, List.map_append, List.sum_append, app]
    have h1 := ih (fun i hi => h i (by omega))
    have h2 := h m (by omega)
    simp only [List.map, List.sum_cons, List.sum_nil, Rows.uptoBulkAll]
    omega

theorem open_script {H : Type} {enc : TypeId × Value → H} {W : World} {base : Nat} {v : Value} {d : DataW H} {p : List MemPlace}
    (hv : Value.okWide Try.prog W .any base 36 v) (h : DataW.Trod enc Try.prog W 0 (fun _ => true) true 36 v d p) :
    ∃ (a : Option Addr) (m c : Nat) (os : List OpD), v = .slice a m c ∧ m ≤ c ∧ os.length = m ∧ (∀ i d, os[i]? = some d → ∃ b o, a = some ⟨b, o, none⟩ ∧ OpOk W b (o + i * 7) d) ∧
      (os.map (fun d => d.xs.length + d.zs.length + 1)).sum ≤ Rows.uptoBulk d := by
  obtain ⟨a, n, c, rfl⟩ := okWide_slice Try.underlying36 hv
  obtain ⟨fuel, hf⟩ := h
  rcases Go.Deep.open_slice Try.underlying36 hf with ⟨hcs, hx⟩ | ⟨x, l, k, m, nf, D, Pl, hcs, _, hl, hm, hmm, hx, hel⟩
  · simp [Value.cells] at hcs
    obtain ⟨rfl, rfl, rfl⟩ := hcs
    exact ⟨none, 0, 0, [], rfl, by omega, rfl, fun i d h => by simp at h, by simp⟩
  · simp [Value.cells] at hcs
    obtain ⟨rfl, rfl, rfl⟩ := hcs
    simp at hmm
    injection hx with h1 h2
    rw [cells43] at hel
    have each : ∀ i, ∃ d : OpD, i < n → (∃ b o, x = ⟨b, o, none⟩ ∧ OpOk W b (o + i * 7) d) ∧ d.xs.length + d.zs.length + 1 ≤ Rows.uptoBulk (D i) := by
      intro i
      by_cases hi : i < n
      · obtain ⟨cs', hc1, hc2⟩ := hel i (by omega)
        obtain ⟨_, hcl, hcc⟩ := World.cells?_some hc1
        obtain ⟨bk, off, spot⟩ := x
        have hs : spot = none := by
          obtain ⟨ds', hd1, _⟩ := hel 0 (by omega)
          obtain ⟨_, hdl, hdc⟩ := World.cells?_some hd1
          have h7 : 0 < ds'.length := by omega
          have := hdc 0 (by omega)
          rw [List.getElem?_eq_getElem h7] at this
          simpa [Addr.add] using World.cell?_spot this
        subst hs
        obtain ⟨d, hd1, hd2⟩ := op_cells (b := bk) (o := off + i * 7) (fun j u hj => by
          have hjl : j < 7 := by have := (List.getElem?_eq_some_iff.1 hj).1; omega
          have := hcc j hjl
          rw [add_none, add_none] at this
          rw [this, hj]) hc2
        exact ⟨d, fun _ => ⟨⟨bk, off, rfl, hd1⟩, hd2⟩⟩
      · exact ⟨⟨0, 0, 0, false, [], [], 0⟩, fun h => absurd h hi⟩
    obtain ⟨f, hf2⟩ := Classical.axiomOfChoice each
    refine ⟨some x, n, c, (List.range n).map f, rfl, hl, by simp, ?_, ?_⟩
    · intro i d hd
      have hi : i < n := by
        have := (List.getElem?_eq_some_iff.1 hd).1
        simpa using this
      have e : d = f i := by simp [hi] at hd; exact hd.symm
      obtain ⟨⟨b, o, hx1, ho⟩, _⟩ := hf2 i hi
      exact ⟨b, o, by rw [hx1], by rw [e]; exact ho⟩
    · rw [h1]
      have h3 := sum_le D f n (fun i hi => (hf2 i hi).2)
      simp only [Rows.uptoBulk]
      omega

end Go.Proofs.Ytakdfpenpodplaa
