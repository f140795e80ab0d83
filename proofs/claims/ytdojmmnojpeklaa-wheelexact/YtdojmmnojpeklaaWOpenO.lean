/-
  An argument opened: a list of calls.
-/
import Derived.Test.YtdojmmnojpeklaaWOpen
import Derived.Test.YtdojmmnojpeklaaWPlay0
namespace Go.Proofs.Ytdojmmnojpeklaa
open Go.ChangeShapes Go.WideShapes Go.ChangeAt Go.RowKit
set_option linter.unusedVariables false

/-- one call of the script -/
structure Oq where
  k : Int
  s : Bool
  i : Int
  t : Int
def Oq.v (x : Oq) : Value := .agg #[.int .i64 x.k, .bool x.s, .int .i64 x.i, .int .i64 x.t]
/-- a slice of calls that lies there -/
structure Oss (w : World) (F : Nat → Prop) (a : Option Addr) (n c : Nat) (xs : List Oq) : Prop where
  len : xs.length = n
  cap : n ≤ c
  max : c ≤ 9223372036854775807
  i6 : ∀ x, x ∈ xs → I6 x.i ∧ I6 x.t
  at' : ∀ i x, xs[i]? = some x → ∃ g o, a = some ⟨g, o, none⟩ ∧ F g ∧ w.cell? ⟨g, o + i * 4, none⟩ = some (.int .i64 x.k) ∧ w.cell? ⟨g, o + i * 4 + 1, none⟩ = some (.bool x.s) ∧ w.cell? ⟨g, o + i * 4 + 2, none⟩ = some (.int .i64 x.i) ∧ w.cell? ⟨g, o + i * 4 + 3, none⟩ = some (.int .i64 x.t)
theorem Oss.kept {w w' : World} {F G : Nat → Prop} {a : Option Addr} {n c : Nat} {xs : List Oq} (h : Oss w F a n c xs) (k : Kept G w w') (hG : ∀ j, F j → ¬ G j) : Oss w' F a n c xs :=
  ⟨h.len, h.cap, h.max, h.i6, fun i x hx => by
    obtain ⟨g, o, e, hg, h1, h2, h3, h4⟩ := h.at' i x hx
    exact ⟨g, o, e, hg, k.cell h1 (hG g hg), k.cell h2 (hG g hg), k.cell h3 (hG g hg), k.cell h4 (hG g hg)⟩⟩
theorem Oss.below {w w' : World} {F : Nat → Prop} {a : Option Addr} {n c : Nat} {xs : List Oq} (h : Oss w F a n c xs) (k : Below w.heap.size w w') : Oss w' F a n c xs := h.kept (Kept.of_below (F := No) k) (fun _ _ h => h)
theorem cellsOf4 : Try.prog.cellsOf 4 = 1 := by kernel_rfl
theorem cellsOf54 : Try.prog.cellsOf 54 = 4 := by kernel_rfl
theorem list4 {α : Type} {l : List α} (h : l.length = 4) : ∃ c0 c1 c2 c3, l = [c0, c1, c2, c3] := by
  match l, h with
  | [c0, c1, c2, c3], _ => exact ⟨c0, c1, c2, c3, rfl⟩
theorem op_cells {H : Type} {enc : TypeId × Value → H} {W : World} {fuel : Nat} {cs : List Value} {x : DataW H × List MemPlace} (h : DataW.trod enc Try.prog W 0 (fun _ => true) true fuel 54 cs = some x) :
    ∃ i : Oq, (I6 i.i ∧ I6 i.t) ∧ cs = [.int .i64 i.k, .bool i.s, .int .i64 i.i, .int .i64 i.t] := by
  obtain ⟨ys, n, _, rfl, hlc, hlen, hfs⟩ := DataW.trod_struct Try.underlying54 h
  rw [cellsOf54] at hlc
  obtain ⟨c0, c1, c2, c3, rfl⟩ := list4 hlc
  obtain ⟨y0, y1, y2, y3, rfl⟩ := list4 (show ys.length = 4 from hlen)
  have g0 := hfs 0 _ rfl
  have g1 := hfs 1 _ rfl
  have g2 := hfs 2 _ rfl
  have g3 := hfs 3 _ rfl
  simp [cellsOf3, cellsOf4] at g0 g1 g2 g3
  obtain ⟨x0, e0, _, w0⟩ := DataW.trod_int Try.underlying3 g0
  obtain ⟨x1, e1, _⟩ := DataW.trod_bool Try.underlying4 g1
  obtain ⟨x2, e2, _, w2⟩ := DataW.trod_int Try.underlying3 g2
  obtain ⟨x3, e3, _, w3⟩ := DataW.trod_int Try.underlying3 g3
  simp at e0 e1 e2 e3
  subst e0 e1 e2 e3
  exact ⟨⟨x0, x1, x2, x3⟩, ⟨wf_i64 w2, wf_i64 w3⟩, rfl⟩
theorem ops_cell {H : Type} {enc : TypeId × Value → H} {W : World} {fuel : Nat} {u : Value} {x : DataW H × List MemPlace} (h : DataW.trod enc Try.prog W 0 (fun _ => true) true fuel 43 [u] = some x) :
    ∃ (a : Option Addr) (n c : Nat) (xs : List Oq), u = .slice a n c ∧ Oss W (fun k => k < W.heap.size) a n c xs := by
  rcases Go.Deep.open_slice Try.underlying43 h with ⟨hcs, hx⟩ | ⟨ad, l, k, m, nf, D, Pl, hcs, _, hl, hm, hmm, hx, hel⟩
  · simp at hcs
    subst hcs
    exact ⟨none, 0, 0, [], rfl, ⟨rfl, by omega, by omega, (fun x hx => by cases hx), (fun i x hx => by cases hx)⟩⟩
  · simp at hcs
    subst hcs
    simp at hmm
    rw [cellsOf54] at hel
    have each : ∀ i, ∃ d : Oq, i < l → ((I6 d.i ∧ I6 d.t) ∧ ∃ b o, ad = ⟨b, o, none⟩ ∧ W.cell? ⟨b, o + i * 4, none⟩ = some (.int .i64 d.k) ∧ W.cell? ⟨b, o + i * 4 + 1, none⟩ = some (.bool d.s) ∧ W.cell? ⟨b, o + i * 4 + 2, none⟩ = some (.int .i64 d.i) ∧ W.cell? ⟨b, o + i * 4 + 3, none⟩ = some (.int .i64 d.t)) := by
      intro i
      by_cases hi : i < l
      · obtain ⟨cs', hc1, hc2⟩ := hel i (by omega)
        obtain ⟨_, hcl, hcc⟩ := World.cells?_some hc1
        obtain ⟨bk, off, spot⟩ := ad
        obtain ⟨d, hok, rfl⟩ := op_cells hc2
        have hs : spot = none := by
          obtain ⟨ds', hd1, _⟩ := hel 0 (by omega)
          obtain ⟨_, hdl, hdc⟩ := World.cells?_some hd1
          have h7 : 0 < ds'.length := by omega
          have := hdc 0 (by omega)
          rw [List.getElem?_eq_getElem h7] at this
          simpa [Addr.add] using World.cell?_spot this
        subst hs
        have at' : ∀ j, j < 4 → W.cell? ⟨bk, off + i * 4 + j, none⟩ = [Value.int .i64 d.k, .bool d.s, .int .i64 d.i, .int .i64 d.t][j]? := by
          intro j hj
          have := hcc j hj
          rw [add_none, add_none] at this
          exact this
        exact ⟨d, fun _ => ⟨hok, bk, off, rfl, at' 0 (by decide), at' 1 (by decide), at' 2 (by decide), at' 3 (by decide)⟩⟩
      · exact ⟨⟨0, false, 0, 0⟩, fun h => absurd h hi⟩
    obtain ⟨f, hf2⟩ := Classical.axiomOfChoice each
    refine ⟨some ad, l, k, (List.range l).map f, rfl, ⟨by simp, hl, hm, ?_, ?_⟩⟩
    · intro x hx
      rw [List.mem_map] at hx
      obtain ⟨i, hi, rfl⟩ := hx
      exact (hf2 i (List.mem_range.1 hi)).1
    · intro i x hx
      have hi : i < l := by
        apply Decidable.byContradiction
        intro hn
        rw [List.getElem?_eq_none (by simp; omega)] at hx
        cases hx
      obtain ⟨_, b, o, e, h0, r⟩ := hf2 i hi
      rw [List.getElem?_map, List.getElem?_range hi] at hx
      simp at hx
      subst hx
      exact ⟨b, o, by rw [e], cell_lt h0, h0, r⟩
set_option maxRecDepth 100000 in
theorem open_ops {H : Type} {enc : TypeId × Value → H} {W : World} {base : Nat} {v : Value} {d : DataW H} {p : List MemPlace}
    (hv : Value.okWide Try.prog W .any base 43 v) (h : DataW.Trod enc Try.prog W 0 (fun _ => true) true 43 v d p) :
    ∃ (a : Option Addr) (n c : Nat) (xs : List Oq), v = .slice a n c ∧ Oss W (fun k => k < W.heap.size) a n c xs := by
  obtain ⟨a, n, c, rfl⟩ := okWide_slice Try.underlying43 hv
  obtain ⟨fuel, hf⟩ := h
  obtain ⟨a', n', c', xs, e, hC⟩ := ops_cell hf
  injection e with e1 e2 e3
  subst e1 e2 e3
  exact ⟨a, n, c, xs, rfl, hC⟩

end Go.Proofs.Ytdojmmnojpeklaa
