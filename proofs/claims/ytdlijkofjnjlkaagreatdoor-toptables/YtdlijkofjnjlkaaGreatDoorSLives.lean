/-
  lives: the table of no servers is made, and read.
-/
import Derived.Test.YtdlijkofjnjlkaaGreatDoorGLen
import Derived.Test.YtdlijkofjnjlkaaGreatDoorGRng
import Derived.Test.YtdlijkofjnjlkaaGreatDoorORuns
namespace Go.Proofs.YtdlijkofjnjlkaaGreatDoor
open Go.RowKit Go.Shelf Plain
set_option linter.unusedVariables false
set_option maxRecDepth 100000

def zl (L : List (Nat × Nat)) : List (Int × Int) := L.map (fun x => ((x.1 : Int), (x.2 : Int)))
theorem Ow.sl {w : World} {base : Nat} {v : Value} {K : List (Nat × Nat)} (h : Ow w base v K) : ∃ a c, v = .slice a K.length c ∧ Sl w (fun k => v.ownBlock = some k) a K.length c (zl K) := by
  have hc := h
  obtain ⟨_, h1 | ⟨g, cap, cur, rfl, hb, hg, hn, hm, _, _⟩⟩ := h
  · obtain ⟨rfl, h0⟩ := h1
    have : K = [] := by simpa using h0
    subst this
    exact ⟨none, 0, rfl, ⟨rfl, by simp, by omega, fun _ => rfl, fun i x hx => by cases hx⟩⟩
  · refine ⟨_, cap, rfl, ⟨by simp [zl], hn, by unfold maxLen at hm; omega, fun e => (by cases e), fun i x hx => ?_⟩⟩
    unfold zl at hx
    rw [List.getElem?_map] at hx
    cases hk : K[i]? with
    | none => rw [hk] at hx; cases hx
    | some y =>
      rw [hk] at hx
      simp at hx
      subst hx
      obtain ⟨e1, e2⟩ := slL_at K i y hk
      have c1 := hc.cells (g := g) rfl _ _ e1
      have c2 := hc.cells (g := g) rfl _ _ e2
      rw [add_none, Nat.zero_add] at c1 c2
      exact ⟨g, 0, rfl, rfl, by rw [Nat.zero_add]; exact c1, by rw [Nat.zero_add]; exact c2⟩

theorem Sl.handed {w : World} {F : Nat → Prop} {a : Option Addr} {n c : Nat} {L : List (Int × Int)} (h : Sl w F a n c L) (ha : a ≠ none) : Sl w F a n n L :=
  ⟨h.len, Nat.le_refl _, by have := h.cap; have := h.max; omega, fun e => (ha e).elim, h.at'⟩
theorem ldT {w : World} {q : Nat} {u v : Value} (h : w.heap[q]? = some (.cells #[u, v] 26)) : (loadVar 26 ⟨q, 0, none⟩).run Tryz.prog w = .ok (.agg #[u, v]) w :=
  run_loadVar_row (P := Tryz.prog) w q 26 26 _ (0, 0) _ h Tryz.underlying26 rfl (by kernel_rfl)
theorem results_ct {P : Program} {fn : Func} {p u : Tmp} {ty : TypeId} (h : fn.results = #[.cell p ty, .tmp u]) (tmps : Array Value) (w : World) (g : Nat) (v : Value)
    (hp : tmps.getD p undef = .pointer (some ⟨g, 0, none⟩)) (hl : (loadVar ty ⟨g, 0, none⟩).run P w = .ok v w) : (results fn tmps).run P w = .ok (.tuple #[v, tmps.getD u undef]) w := by
  have hp' : tmps[p]?.getD undef = .pointer (some ⟨g, 0, none⟩) := by simpa using hp
  simp [results, h, hp', asAddr, hl]
theorem set2T {w : World} {g : Nat} {u v : Value} {t : TypeId} (h : w.heap[g]? = some (.cells #[u, v] t)) (u' v' : Value) : ((w.setCell ⟨g, 0, none⟩ u').setCell ⟨g, 1, none⟩ v').heap[g]? = some (.cells #[u', v'] t) := by
  simp [World.setCell, Array.getElem?_modify, h]

end Go.Proofs.YtdlijkofjnjlkaaGreatDoor
