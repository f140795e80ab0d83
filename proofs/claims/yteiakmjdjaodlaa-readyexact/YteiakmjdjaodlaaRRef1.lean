/-
  The document's line: its entries, without.
-/
import Derived.Test.YteiakmjdjaodlaaRFairP
namespace Go.Proofs.Yteiakmjdjaodlaa
open Go.Shelf Go.RowKit Go.Lib Go.Sort
set_option linter.unusedVariables false
set_option maxRecDepth 100000

/-- the document counts its turns from 1 on -/
def sh (x : En) : En := ⟨x.id, x.pr, x.pl + 1⟩
def rcL (T : List En) : List Value := fcL (T.map sh)
theorem rcL_length (T : List En) : (rcL T).length = T.length * 3 := by unfold rcL; rw [fcL_length, List.length_map]
theorem rcL_append (T U : List En) : rcL (T ++ U) = rcL T ++ rcL U := by unfold rcL; rw [List.map_append, fcL_append]
/-- an own row of the document's entries -/
theorem owns_ref {w : World} {base : Nat} {v : Value} {n : Nat} {T : List En} (h : w.ownsRow base 77 3 v n (rcL T)) : T.length = n ∧ ∃ a c, v = .slice a n c ∧ n ≤ c ∧ c ≤ 9223372036854775807 ∧ ∀ k x, T[k]? = some x → ∃ g, a = some ⟨g, 0, none⟩ ∧ w.cell? ⟨g, k * 3, none⟩ = some (.int .i64 x.id) ∧ w.cell? ⟨g, k * 3 + 1, none⟩ = some (.int .i64 x.pr) ∧ w.cell? ⟨g, k * 3 + 2, none⟩ = some (.int .i64 (x.pl + 1)) := by
  have hl : T.length = n := by have := h.1; rw [rcL_length] at this; omega
  refine ⟨hl, ?_⟩
  have hc := h
  obtain ⟨_, ⟨h1, h2⟩ | ⟨g, cap, cur, rfl, hb, hg, hn, hm, _, _⟩⟩ := h
  · refine ⟨none, 0, by rw [h1, h2], by omega, by omega, fun k x hx => ?_⟩
    have := (List.getElem?_eq_some_iff.1 hx).1
    omega
  · refine ⟨_, cap, rfl, hn, hm, fun k x hx => ⟨g, rfl, ?_⟩⟩
    have hx2 : (T.map sh)[k]? = some (sh x) := by rw [List.getElem?_map, hx]; rfl
    have c0 := hc.cells (g := g) rfl _ _ (fcL_at _ k _ 0 _ hx2 rfl)
    have c1 := hc.cells (g := g) rfl _ _ (fcL_at _ k _ 1 _ hx2 rfl)
    have c2 := hc.cells (g := g) rfl _ _ (fcL_at _ k _ 2 _ hx2 rfl)
    rw [add_none, Nat.zero_add] at c0 c1 c2
    exact ⟨c0, c1, c2⟩
theorem info77 : (Try.prog.info? 77).map (fun i => (i.zero, i.size, i.bytes)) = some (some (.agg #[.int .i64 0, .int .i64 0, .int .i64 0]), 3, 24) := by kernel_rfl
theorem cell3_new77 (w : World) (x : En) : ∀ j u, (fc x)[j]? = some u → (w.alloc (.cells #[.int .i64 x.id, .int .i64 x.pr, .int .i64 x.pl] 77)).cell? ((⟨w.heap.size, 0, none⟩ : Addr).add j) = some u := by
  intro j u hu
  rw [add_none, Nat.zero_add]
  have hb := heap_last w (.cells #[.int .i64 x.id, .int .i64 x.pr, .int .i64 x.pl] 77)
  match j, hu with
  | 0, hu => exact cell_of_row hb (by simpa [fc] using hu)
  | 1, hu => exact cell_of_row hb (by simpa [fc] using hu)
  | 2, hu => exact cell_of_row hb (by simpa [fc] using hu)
  | j + 3, hu => simp [fc] at hu
theorem fc_one (x : En) : ∀ u ∈ fc x, u.oneCell' = true := by intro u hu; simp [fc] at hu; rcases hu with rfl | rfl | rfl <;> rfl

theorem outE_more {i : Int} {T : List En} {j : Nat} {x : En} (h : T[j]? = some x) : outE i (T.take (j + 1)) = if x.id = i then outE i (T.take j) else outE i (T.take j) ++ [x] := by
  unfold outE
  rw [List.take_add_one, h, List.filter_append]
  by_cases e : x.id = i
  · rw [if_pos e]; simp [e]
  · rw [if_neg e]; simp [e]
theorem outE_le (i : Int) (T : List En) : (outE i T).length ≤ T.length := List.length_filter_le _ _
/-- a row that grows -/
structure Rg (W : World) (T : List En) (v : Value) (w : World) : Prop where
  bel : Below W.heap.size W w
  row : w.ownsRow W.heap.size 77 3 v T.length (rcL T)
namespace Rg
variable {W w w' : World} {T : List En} {v u : Value}
theorem alloc (h : Rg W T v w) (o : Obj) : Rg W T v (w.alloc o) := ⟨h.bel.alloc h.bel.size o, h.row.alloc o⟩
theorem more (h : Rg W T v w) {x : En} (own : w'.ownsRow W.heap.size 77 3 u (T.length + 1) (rcL T ++ fc (sh x))) (gr : w.grownBy w' v.ownBlock) : Rg W (T ++ [x]) u w' := by
  have hk : Kept (fun k => v.ownBlock = some k) w w' := (Kept.refl _ w).grown gr (fun k e => .inl e)
  refine ⟨h.bel.trans (hk.below (fun k e => (h.row.lt k e).1) h.bel.size), ?_⟩
  rw [List.length_append, rcL_append]
  exact own
end Rg
set_option maxHeartbeats 2000000 in
theorem without_any (T : List En) (v : Value) (n : Nat) (W : World) (i : Int) (hx : W.ownsRow 0 77 3 v n (rcL T)) (hn : n ≤ 1000000) :
    Calls Try.prog 38 #[v, .int .i64 i] W fun ex w' => ∃ u, ex = .returned u ∧ w'.ownsRow W.heap.size 77 3 u (outE i T).length (rcL (outE i T)) ∧ Below W.heap.size W w' := by
  obtain ⟨hl, a, c, rfl, hc1, hc2, _⟩ := owns_ref hx
  have HX : Hid (W.ownsRow 0 77 3 (.slice a n c) n (rcL T) ∧ T.length = n) := ⟨hx, hl⟩
  obtain ⟨i0, hi, hz0, hz1, hz2⟩ := info_parts info77
  have HFX : Hid (∀ j, (outE i (T.take j)).length ≤ 1000000) := (fun j => by have := outE_le i (T.take j); have h2 : (T.take j).length ≤ T.length := List.length_take_le' j T; show _ ≤ _; omega)
  clear hx hl
  go_enter Try.func38, Try.ntmps38
  go_wp2
  go_loopw [5, 6] (fun p d wr => ∃ j : Nat, j ≤ n ∧ d = .int .i64 j ∧ Rg W (outE i (T.take j)) p wr) (fun _ d _ => n - (intOf d).toNat)
  case atStart => exact ⟨0, Nat.zero_le _, rfl, ⟨Below.refl _ _, World.ownsRow_nil _ _ _ _⟩⟩
  case round =>
    obtain ⟨j, hj, rfl, hg⟩ := hrel
    have HG : Hid (Rg W (outE i (T.take j)) u5 wr) := hg
    by_cases hlt : j < n
    · obtain ⟨x, hx⟩ : ∃ x, T[j]? = some x := ⟨_, List.getElem?_eq_getElem (by rw [HX.out.2]; exact hlt)⟩
      obtain ⟨g, rfl, r0, r1, r2⟩ : ∃ g, a = some ⟨g, 0, none⟩ ∧ wr.cell? ⟨g, j * 3, none⟩ = some (.int .i64 x.id) ∧ wr.cell? ⟨g, j * 3 + 1, none⟩ = some (.int .i64 x.pr) ∧ wr.cell? ⟨g, j * 3 + 2, none⟩ = some (.int .i64 (x.pl + 1)) := by
        have hrow := (Kept.of_below (F := No) hg.bel).owns HX.out.1 (fun _ _ h => h)
        obtain ⟨_, a', c', e, _, _, h3⟩ := owns_ref hrow
        injection e with e1 _ _
        subst e1
        exact h3 j x hx
      have HM := outE_more (i := i) hx
      have hsz := hg.bel.size
      have hlen := HFX.out j
      clear hg hx
      by_cases hxi : x.id = i
      · rw [if_pos hxi] at HM
        have HM2 : Hid (outE i (T.take (j + 1)) = outE i (T.take j)) := HM
        clear HM
        go_wp2
        go_roundw
        case rel => exact ⟨j + 1, by omega, by go_num, by rw [HM2.out]; exact HG.out⟩
        case measure => simp [intOf]; omega
      · rw [if_neg hxi] at HM
        have HM2 : Hid (outE i (T.take (j + 1)) = outE i (T.take j) ++ [x]) := HM
        clear HM
        go_wp2_with (at_builtin; refine wpList_append_own_at _ rfl _ _ 40 rfl W.heap.size 77 i0 (.agg #[.int .i64 0, .int .i64 0, .int .i64 0]) 3 24 Try.underlying40 hi hz0 hz1 hz2 rfl (by decide) _ _ _ rfl (HG.out.row.alloc _) ⟨wr.heap.size, 0, none⟩ 1 1 (fc (sh x)) rfl rfl (cell3_new77 _ (sh x)) (fc_one _) (by unfold maxLen; omega) (by omega) (by simp; omega) ?_; intro v1 w6 own1 grow1 _ at1; have HG2 : Hid (Rg W (outE i (T.take j) ++ [x]) v1 w6) := (HG.out.alloc _).more own1 grow1; clear own1 grow1 at1)
        go_roundw
        case rel => exact ⟨j + 1, by omega, by go_num, by rw [HM2.out]; exact HG2.out⟩
        case measure => simp [intOf]; omega
    · have hjn : j = n := by omega
      subst hjn
      have HG1 : Hid (Rg W (outE i T) u5 wr) := (by have h2 := hg; rw [List.take_of_length_le (by rw [HX.out.2]; exact Nat.le_refl _)] at h2; exact h2)
      clear hg HG
      go_wp2
      go_ret
      exact ⟨u5, rfl, HG1.out.row, HG1.out.bel⟩
end Go.Proofs.Yteiakmjdjaodlaa
