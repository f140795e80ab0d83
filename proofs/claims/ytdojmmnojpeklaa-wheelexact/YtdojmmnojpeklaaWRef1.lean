/-
  The document's lists of timers: without, placed.
-/
import Derived.Test.YtdojmmnojpeklaaWPq
namespace Go.Proofs.Ytdojmmnojpeklaa
open Go.RowKit
set_option linter.unusedVariables false
set_option maxRecDepth 100000

theorem fz_row {w : World} {g : Nat} {cs : Array Value} {t : TypeId} (h : w.heap[g]? = some (.cells cs t)) (k : Nat) : w.frozen? ⟨g, k, none⟩ = false := by simp [World.frozen?, h]
/-- an own row of timers: its shape and its cells -/
theorem owns_fis {w : World} {B : Nat} {v : Value} {n : Nat} {L : List Fi} (h : w.ownsRow B 32 2 v n (fcL L)) : L.length = n ∧ ∃ a c, v = .slice a n c ∧ n ≤ c ∧ c ≤ 9223372036854775807 ∧ ∀ k x, L[k]? = some x → ∃ g, a = some ⟨g, 0, none⟩ ∧ w.cell? ⟨g, k * 2, none⟩ = some (.int .i64 x.t) ∧ w.cell? ⟨g, k * 2 + 1, none⟩ = some (.int .i64 x.i) := by
  have hl := owns_len2 h
  refine ⟨hl, ?_⟩
  rcases owns_cells2 h with ⟨rfl, h2, _⟩ | ⟨g, cap, rfl, _, _, h1, h2, h3, _⟩
  · refine ⟨none, 0, by rw [h2], by omega, by omega, fun k x hx => ?_⟩
    have := (List.getElem?_eq_some_iff.1 hx).1
    omega
  · exact ⟨_, cap, rfl, h1, h2, fun k x hx => ⟨g, rfl, h3 k x hx⟩⟩
theorem fc_one (x : Fi) : ∀ u ∈ fc x, u.oneCell' = true := by intro u hu; simp [fc] at hu; rcases hu with rfl | rfl <;> rfl
theorem rem_more {i : Int} {L : List Fi} {j : Nat} {x : Fi} (h : L[j]? = some x) : rem i (L.take (j + 1)) = if x.i = i then rem i (L.take j) else rem i (L.take j) ++ [x] := by
  unfold rem
  rw [List.take_add_one, h, List.filter_append]
  by_cases e : x.i = i
  · rw [if_pos e]; simp [e]
  · rw [if_neg e]; simp [e]
theorem rem_le (i : Int) (L : List Fi) : (rem i L).length ≤ L.length := List.length_filter_le _ _
/-- a row that grows -/
structure Tg (W : World) (T : List Fi) (v : Value) (w : World) : Prop where
  bel : Below W.heap.size W w
  row : w.ownsRow W.heap.size 32 2 v T.length (fcL T)
namespace Tg
variable {W w w' : World} {T : List Fi} {v u : Value}
theorem alloc (h : Tg W T v w) (o : Obj) : Tg W T v (w.alloc o) := ⟨h.bel.alloc h.bel.size o, h.row.alloc o⟩
theorem drewN (h : Tg W T v w) (q : Nat) : Tg W T v (w.drewN q) := ⟨h.bel.trans ⟨rfl, rfl, rfl, Nat.le_refl _, fun _ _ => rfl⟩, h.row⟩
theorem more (h : Tg W T v w) {x : Fi} (own : w'.ownsRow W.heap.size 32 2 u (T.length + 1) (fcL T ++ fc x)) (gr : w.grownBy w' v.ownBlock) : Tg W (T ++ [x]) u w' := by
  have hk : Kept (fun k => v.ownBlock = some k) w w' := (Kept.refl _ w).grown gr (fun k e => .inl e)
  refine ⟨h.bel.trans (hk.below (fun k e => (h.row.lt k e).1) h.bel.size), ?_⟩
  rw [List.length_append, fcL_append]
  exact own
end Tg
set_option maxHeartbeats 2000000 in
theorem without_any (L : List Fi) (v : Value) (n : Nat) (W : World) (i : Int) (hx : W.ownsRow 0 32 2 v n (fcL L)) (hn : n ≤ 1000000) :
    Calls Try.prog 39 #[v, .int .i64 i] W fun ex w' => ∃ u, ex = .returned u ∧ w'.ownsRow W.heap.size 32 2 u (rem i L).length (fcL (rem i L)) ∧ Below W.heap.size W w' := by
  obtain ⟨hl, a, c, rfl, hc1, hc2, -⟩ := owns_fis hx
  have HX : Hid (W.ownsRow 0 32 2 (.slice a n c) n (fcL L) ∧ L.length = n) := ⟨hx, hl⟩
  obtain ⟨i0, hi, hz0, hz1, hz2⟩ := info_parts info32
  have HFX : Hid (∀ j, (rem i (L.take j)).length ≤ 1000000) := (fun j => by have := rem_le i (L.take j); have h2 : (L.take j).length ≤ L.length := List.length_take_le' j L; show _ ≤ _; omega)
  clear hx hl
  go_enter Try.func39, Try.ntmps39
  go_wp2
  go_loopw [5, 6] (fun p d wr => ∃ j : Nat, j ≤ n ∧ d = .int .i64 j ∧ Tg W (rem i (L.take j)) p wr) (fun _ d _ => n - (intOf d).toNat)
  case atStart => exact ⟨0, Nat.zero_le _, rfl, ⟨Below.refl _ _, World.ownsRow_nil _ _ _ _⟩⟩
  case round =>
    obtain ⟨j, hj, rfl, hg⟩ := hrel
    have HG : Hid (Tg W (rem i (L.take j)) u5 wr) := hg
    by_cases hlt : j < n
    · obtain ⟨x, hx⟩ : ∃ x, L[j]? = some x := ⟨_, List.getElem?_eq_getElem (by rw [HX.out.2]; exact hlt)⟩
      obtain ⟨g, rfl, r0, r1⟩ : ∃ g, a = some ⟨g, 0, none⟩ ∧ wr.cell? ⟨g, j * 2, none⟩ = some (.int .i64 x.t) ∧ wr.cell? ⟨g, j * 2 + 1, none⟩ = some (.int .i64 x.i) := by
        have hrow := (Kept.of_below (F := No) hg.bel).owns HX.out.1 (fun _ _ h => h)
        obtain ⟨_, a', c', e, _, _, h3⟩ := owns_fis hrow
        injection e with e1 _ _
        subst e1
        exact h3 j x hx
      have HM := rem_more (i := i) hx
      have hsz := hg.bel.size
      have hlen := HFX.out j
      obtain ⟨xt, xi⟩ := x
      dsimp only at r0 r1 HM
      clear hg hx
      by_cases hxi : xi = i
      · rw [if_pos hxi] at HM
        have HM2 : Hid (rem i (L.take (j + 1)) = rem i (L.take j)) := HM
        clear HM
        go_wp2
        go_roundw
        case rel => exact ⟨j + 1, by omega, by go_num, by rw [HM2.out]; exact HG.out⟩
        case measure => simp [intOf]; omega
      · rw [if_neg hxi] at HM
        have HM2 : Hid (rem i (L.take (j + 1)) = rem i (L.take j) ++ [⟨xt, xi⟩]) := HM
        clear HM
        go_wp2_with (at_builtin; refine wpList_append_own_at _ rfl _ _ 22 rfl W.heap.size 32 i0 (.agg #[.int .i64 0, .int .i64 0]) 2 16 Try.underlying22 hi hz0 hz1 hz2 rfl (by decide) _ _ _ rfl (HG.out.row.alloc _) ⟨wr.heap.size, 0, none⟩ 1 1 (fc ⟨xt, xi⟩) rfl rfl (cell2_new _ ⟨xt, xi⟩) (fc_one _) (by unfold maxLen; omega) (by omega) (by simp; omega) ?_; intro v1 w6 own1 grow1 _ at1; have HG2 : Hid (Tg W (rem i (L.take j) ++ [⟨xt, xi⟩]) v1 w6) := (HG.out.alloc _).more own1 grow1; clear own1 grow1 at1)
        go_roundw
        case rel => exact ⟨j + 1, by omega, by go_num, by rw [HM2.out]; exact HG2.out⟩
        case measure => simp [intOf]; omega
    · have hjn : j = n := by omega
      subst hjn
      have HG1 : Hid (Tg W (rem i L) u5 wr) := (by have h2 := hg; rw [List.take_of_length_le (by rw [HX.out.2]; exact Nat.le_refl _)] at h2; exact h2)
      clear hg HG
      go_wp2
      go_ret
      exact ⟨u5, rfl, HG1.out.row, HG1.out.bel⟩
end Go.Proofs.Ytdojmmnojpeklaa
