/-
  An Op that came in, opened.
-/
import Derived.Test.YtpkifhbjlpkcnaaExactWalk
import Derived.ProofKit
import Derived.OpenShut
namespace Go.Proofs.Ytpkifhbjlpkcnaa
open Go.ChangeShapes Go.WideShapes Go.ChangeAt Go.RowKit Plain

/-- a row of a slice that came in, as 'open_ints' tells it -/
theorem row_in {w : World} {x : Addr} {len cap : Nat} {zs : List Int} (hl : len ≤ cap) (hz : zs.length = cap)
    (hcell : ∀ i, i < zs.length → w.cell? (x.add i) = some (.int .i64 (zs.getD i 0))) (hw : ∀ n ∈ zs, (Lit.int .i64 n).wf = true) :
    Row w (some x) len (fun i => zs.getD i 0) := by
  intro i hi
  have h0 := hcell 0 (by omega)
  have hc := hcell i (by omega)
  obtain ⟨bk, off, spot⟩ := x
  have hs : spot = none := by simpa [Addr.add] using World.cell?_spot h0
  subst hs
  have hm : zs.getD i 0 ∈ zs := by
    rw [List.getD_eq_getElem?_getD, List.getElem?_eq_getElem (show i < zs.length by omega)]
    exact List.getElem_mem _
  have e : (Addr.add ⟨bk, off, none⟩ i) = ⟨bk, off + i, none⟩ := by
    by_cases h : i = 0
    · subst h; simp [Addr.add]
    · simp [Addr.add, h]
  rw [e] at hc
  exact ⟨bk, off, rfl, hc, wf_I64 (hw _ hm)⟩

theorem array7 {α : Type} {cs : Array α} (h : cs.size = 7) : ∃ c0 c1 c2 c3 c4 c5 c6, cs = #[c0, c1, c2, c3, c4, c5, c6] := by
  obtain ⟨l⟩ := cs
  match l, h with
  | [c0, c1, c2, c3, c4, c5, c6], _ => exact ⟨c0, c1, c2, c3, c4, c5, c6, rfl⟩
theorem list7 {α : Type} {l : List α} (h : l.length = 7) : ∃ c0 c1 c2 c3 c4 c5 c6, l = [c0, c1, c2, c3, c4, c5, c6] := by
  match l, h with
  | [c0, c1, c2, c3, c4, c5, c6], _ => exact ⟨c0, c1, c2, c3, c4, c5, c6, rfl⟩

theorem cells38 : Try.prog.cellsOf 38 = 7 := by kernel_rfl
theorem cells2 : Try.prog.cellsOf 2 = 1 := by kernel_rfl
theorem cells3 : Try.prog.cellsOf 3 = 1 := by kernel_rfl
theorem cells22 : Try.prog.cellsOf 22 = 1 := by kernel_rfl

theorem open_op {H : Type} {enc : TypeId × Value → H} {W : World} {base : Nat} {v : Value} {d : DataW H} {p : List MemPlace}
    (hv : Value.okWide Try.prog W .any base 38 v) (h : DataW.Trod enc Try.prog W 0 (fun _ => true) true 38 v d p) :
    ∃ (A B P F L : Int) (a0 : Option Addr) (len cap : Nat) (M : Int) (z : Nat → Int), v = opV A B P F L a0 len cap M ∧ I64 A ∧ I64 B ∧ I64 P ∧ I64 F ∧ I64 L ∧ I64 M ∧
      len ≤ 9223372036854775807 ∧ (a0 = none → len = 0 ∧ cap = 0) ∧ Row W a0 len z := by
  obtain ⟨cs, rfl, hsz⟩ := okWide_struct Try.underlying38 hv
  obtain ⟨c0, c1, c2, c3, c4, c5, c6, rfl⟩ := array7 (hsz.trans cells38)
  obtain ⟨fuel, hf⟩ := h
  obtain ⟨xs, n, _, _, _, hlen, hfs⟩ := DataW.trod_struct Try.underlying38 hf
  obtain ⟨y0, y1, y2, y3, y4, y5, y6, rfl⟩ := list7 (show xs.length = 7 from hlen)
  have g0 := hfs 0 _ rfl
  have g1 := hfs 1 _ rfl
  have g2 := hfs 2 _ rfl
  have g3 := hfs 3 _ rfl
  have g4 := hfs 4 _ rfl
  have g5 := hfs 5 _ rfl
  have g6 := hfs 6 _ rfl
  simp [cells2, cells3, cells22, Value.cells] at g0 g1 g2 g3 g4 g5 g6
  obtain ⟨A, e0, _, w0⟩ := DataW.trod_int Try.underlying2 g0
  obtain ⟨B, e1, _, w1⟩ := DataW.trod_int Try.underlying2 g1
  obtain ⟨P, e2, _, w2⟩ := DataW.trod_int Try.underlying3 g2
  obtain ⟨F, e3, _, w3⟩ := DataW.trod_int Try.underlying3 g3
  obtain ⟨L, e4, _, w4⟩ := DataW.trod_int Try.underlying3 g4
  obtain ⟨M, e6, _, w6⟩ := DataW.trod_int Try.underlying2 g6
  simp at e0 e1 e2 e3 e4 e6
  subst e0 e1 e2 e3 e4 e6
  rcases open_ints Try.underlying22 Try.underlying2 (by kernel_rfl) g5 with ⟨hcs, _⟩ | ⟨x, l, c, zs, hcs, _, hl, hm, hz, _, hcell, hwz⟩
  · simp at hcs
    subst hcs
    exact ⟨A, B, P, F, L, none, 0, 0, M, fun _ => 0, rfl, wf_I64 w0, wf_I64 w1, wf_I64 w2, wf_I64 w3, wf_I64 w4, wf_I64 w6, by omega, fun _ => ⟨rfl, rfl⟩, fun i hi => absurd hi (by omega)⟩
  · simp at hcs
    subst hcs
    exact ⟨A, B, P, F, L, some x, l, c, M, fun i => zs.getD i 0, rfl, wf_I64 w0, wf_I64 w1, wf_I64 w2, wf_I64 w3, wf_I64 w4, wf_I64 w6, by unfold maxLen at hm; omega, (fun h => by cases h), row_in hl (by simpa using hz) hcell hwz⟩

end Go.Proofs.Ytpkifhbjlpkcnaa
