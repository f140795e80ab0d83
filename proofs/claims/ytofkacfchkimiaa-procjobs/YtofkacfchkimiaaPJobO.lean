/-
  ProcJobs: the arguments; what is not played.
-/
import Derived.Test.YtofkacfchkimiaaRows
import Derived.Test.YtofkacfchkimiaaPJobW
import Derived.Deep.Slices
import Derived.ProofKit
import Derived.OpenShut
import Derived.ChangeOld
namespace Go.Proofs.Ytofkacfchkimiaa
open Go.ChangeShapes Go.WideShapes Go.ChangeAt Go.RowKit
set_option linter.unusedVariables false
set_option maxRecDepth 100000

theorem jobs_no (per lim s : Int) (v : Value) (w : World) (h : ¬ (1 ≤ per ∧ per ≤ 200 ∧ 0 ≤ lim ∧ lim ≤ per ∧ 0 ≤ s ∧ s ≤ 549755813888)) : Calls Try.prog 4 #[.int .i64 per, .int .i64 lim, .int .i64 s, v] w fun e w' => e = .returned (.bool true) ∧ Below w.heap.size w w' := by
  have kn := known_any w
  by_cases h1 : per < 1
  · go_enter Try.func4, Try.ntmps4
    go_wp2_with (go_at_call 9; refine kn.mono ?_; rintro e w1 ⟨rfl, k1⟩; have K1 := k1; clear k1 kn)
    go_ret
    exact ⟨rfl, K1.below0⟩
  · by_cases h2 : 200 < per
    · go_enter Try.func4, Try.ntmps4
      go_wp2_with (go_at_call 9; refine kn.mono ?_; rintro e w1 ⟨rfl, k1⟩; have K1 := k1; clear k1 kn)
      go_ret
      exact ⟨rfl, K1.below0⟩
    · by_cases h3 : lim < 0
      · go_enter Try.func4, Try.ntmps4
        go_wp2_with (go_at_call 9; refine kn.mono ?_; rintro e w1 ⟨rfl, k1⟩; have K1 := k1; clear k1 kn)
        go_ret
        exact ⟨rfl, K1.below0⟩
      · by_cases h4 : per < lim
        · go_enter Try.func4, Try.ntmps4
          go_wp2_with (go_at_call 9; refine kn.mono ?_; rintro e w1 ⟨rfl, k1⟩; have K1 := k1; clear k1 kn)
          go_ret
          exact ⟨rfl, K1.below0⟩
        · by_cases h5 : s < 0
          · go_enter Try.func4, Try.ntmps4
            go_wp2_with (go_at_call 9; refine kn.mono ?_; rintro e w1 ⟨rfl, k1⟩; have K1 := k1; clear k1 kn)
            go_ret
            exact ⟨rfl, K1.below0⟩
          · have h6 : 549755813888 < s := by omega
            go_enter Try.func4, Try.ntmps4
            go_wp2_with (go_at_call 9; refine kn.mono ?_; rintro e w1 ⟨rfl, k1⟩; have K1 := k1; clear k1 kn)
            go_ret
            exact ⟨rfl, K1.below0⟩
theorem jobs_any {F : Nat → Prop} {sa : Option Addr} {sn sc : Nat} {gs : Nat → Int} {ds : Nat → Bool} (per lim s : Int) (w : World) (hj : Js w F sa sn sc gs ds) : Calls Try.prog 4 #[.int .i64 per, .int .i64 lim, .int .i64 s, .slice sa sn sc] w fun e w' => e = .returned (.bool true) ∧ Below w.heap.size w w' := by
  by_cases h : 1 ≤ per ∧ per ≤ 200 ∧ 0 ≤ lim ∧ lim ≤ per ∧ 0 ≤ s ∧ s ≤ 549755813888
  · exact jobs_law per lim s w hj h.1 h.2.1 h.2.2.1 h.2.2.2.1 h.2.2.2.2.1 h.2.2.2.2.2
  · exact jobs_no per lim s _ w h
theorem cellsOfI : Try.prog.cellsOf 3 = 1 := by kernel_rfl
theorem cellsOfB : Try.prog.cellsOf 4 = 1 := by kernel_rfl
theorem cellsOfJ : Try.prog.cellsOf 58 = 2 := by kernel_rfl
theorem list2 {α : Type} {l : List α} (h : l.length = 2) : ∃ c0 c1, l = [c0, c1] := by
  match l, h with
  | [c0, c1], _ => exact ⟨c0, c1, rfl⟩
theorem job_cells {H : Type} {enc : TypeId × Value → H} {W : World} {fuel : Nat} {cs : List Value} {x : DataW H × List MemPlace} (h : DataW.trod enc Try.prog W 0 (fun _ => true) true fuel 58 cs = some x) :
    ∃ i : Int × Bool, cs = [.int .i64 i.1, .bool i.2] := by
  obtain ⟨ys, n, _, rfl, hlc, hlen, hfs⟩ := DataW.trod_struct Try.underlying58 h
  rw [cellsOfJ] at hlc
  obtain ⟨c0, c1, rfl⟩ := list2 hlc
  obtain ⟨y0, y1, rfl⟩ := list2 (show ys.length = 2 from hlen)
  have g0 := hfs 0 _ rfl
  have g1 := hfs 1 _ rfl
  simp [cellsOfI, cellsOfB] at g0 g1
  obtain ⟨x0, e0, _, _⟩ := DataW.trod_int Try.underlying3 g0
  obtain ⟨x1, e1, _⟩ := DataW.trod_bool Try.underlying4 g1
  simp at e0 e1
  subst e0 e1
  exact ⟨(x0, x1), rfl⟩
theorem jobs_cell {H : Type} {enc : TypeId × Value → H} {W : World} {fuel : Nat} {u : Value} {x : DataW H × List MemPlace} (h : DataW.trod enc Try.prog W 0 (fun _ => true) true fuel 52 [u] = some x) :
    ∃ (a : Option Addr) (n c : Nat) (gs : Nat → Int) (ds : Nat → Bool), u = .slice a n c ∧ Js W (fun k => k < W.heap.size) a n c gs ds := by
  rcases Go.Deep.open_slice Try.underlying52 h with ⟨hcs, hx⟩ | ⟨ad, l, k, m, nf, D, Pl, hcs, _, hl, hm, hmm, hx, hel⟩
  · simp at hcs
    subst hcs
    exact ⟨none, 0, 0, fun _ => 0, fun _ => false, rfl, ⟨by omega, by omega, fun i hi => by omega⟩⟩
  · simp at hcs
    subst hcs
    simp at hmm
    rw [cellsOfJ] at hel
    have each : ∀ i, ∃ d : Int × Bool, i < l → (∃ b o, ad = ⟨b, o, none⟩ ∧ W.cell? ⟨b, o + i * 2, none⟩ = some (.int .i64 d.1) ∧ W.cell? ⟨b, o + i * 2 + 1, none⟩ = some (.bool d.2)) := by
      intro i
      by_cases hi : i < l
      · obtain ⟨cs', hc1, hc2⟩ := hel i (by omega)
        obtain ⟨_, hcl, hcc⟩ := World.cells?_some hc1
        obtain ⟨bk, off, spot⟩ := ad
        obtain ⟨d, rfl⟩ := job_cells hc2
        have hs : spot = none := by
          obtain ⟨ds', hd1, _⟩ := hel 0 (by omega)
          obtain ⟨_, hdl, hdc⟩ := World.cells?_some hd1
          have h7 : 0 < ds'.length := by omega
          have := hdc 0 (by omega)
          rw [List.getElem?_eq_getElem h7] at this
          simpa [Addr.add] using World.cell?_spot this
        subst hs
        have at' : ∀ j, j < 2 → W.cell? ⟨bk, off + i * 2 + j, none⟩ = [Value.int .i64 d.1, .bool d.2][j]? := by
          intro j hj
          have := hcc j hj
          rw [add_none, add_none] at this
          exact this
        exact ⟨d, fun _ => ⟨bk, off, rfl, at' 0 (by decide), at' 1 (by decide)⟩⟩
      · exact ⟨(0, false), fun h => absurd h hi⟩
    obtain ⟨f, hf2⟩ := Classical.axiomOfChoice each
    refine ⟨some ad, l, k, fun i => (f i).1, fun i => (f i).2, rfl, ⟨hl, hm, fun i hi => ?_⟩⟩
    obtain ⟨b, o, e, h0, r⟩ := hf2 i hi
    exact ⟨b, o, by rw [e], cell_lt h0, h0, r⟩
theorem open_jobs {H : Type} {enc : TypeId × Value → H} {W : World} {base : Nat} {v : Value} {d : DataW H} {p : List MemPlace}
    (hv : Value.okWide Try.prog W .any base 52 v) (h : DataW.Trod enc Try.prog W 0 (fun _ => true) true 52 v d p) :
    ∃ (a : Option Addr) (n c : Nat) (gs : Nat → Int) (ds : Nat → Bool), v = .slice a n c ∧ Js W (fun k => k < W.heap.size) a n c gs ds := by
  obtain ⟨a, n, c, rfl⟩ := okWide_slice Try.underlying52 hv
  obtain ⟨fuel, hf⟩ := h
  obtain ⟨a', n', c', gs, ds, e, hC⟩ := jobs_cell hf
  injection e with e1 e2 e3
  subst e1 e2 e3
  exact ⟨a, n, c, gs, ds, rfl, hC⟩
end Go.Proofs.Ytofkacfchkimiaa
