/-
  Seventy timers of nought, put behind an own row.
-/
import Derived.Test.YtdojmmnojpeklaaWShelf
import Derived.Lib.AppendZerosOnto
namespace Go.Proofs.Ytdojmmnojpeklaa
open Go.RowKit
set_option linter.unusedVariables false
set_option maxRecDepth 100000

def zs70 : List Fi := List.replicate 70 ⟨0, 0⟩
theorem zs_len : (fcL zs70).length = 140 := by rw [fcL_length]; rfl
theorem zs_cells : Builtin.zeroCells (Value.agg #[.int .i64 0, .int .i64 0]).cells 70 = (fcL zs70).toArray := by kernel_rfl
section
variable {w : World} {n : Nat} {v : Value} {xs : List Fi}
/-- there is room -/
theorem zeros_room (ty : TypeId) (g cap : Nat) (cur : Array Value) (hg : w.heap[g]? = some (.cells cur 32 (0, 0))) (hroom : n + 70 ≤ cap) (hfit : n * 2 + 140 ≤ cur.size) :
    (Builtin.append_ #[22, 3] ty #[.slice (some ⟨g, 0, none⟩) n cap, .int .i64 (70 : Nat)]).run Try.prog w = .ok (.slice (some ⟨g, 0, none⟩) (n + 70) cap) (w.setRow g (cur.toList.take (n * 2) ++ fcL zs70 ++ cur.toList.drop (n * 2 + 140)).toArray) := by
  obtain ⟨i0, hi, hz0, hz1, hz2⟩ := info_parts info32
  have hst := run_storeCells_at Try.prog g (n * 2) 32 (fcL zs70) 0 cur w hg (by rw [zs_len]; omega) (fcL_one _)
  rw [zs_len] at hst
  simp only [Nat.add_zero] at hst
  have hw : IntKind.i64.wrap 70 = 70 := by rw [IntKind.wrap_i64]; rfl
  simp [Builtin.append_, run_underlying Try.underlying22, run_underlying Try.underlying3, sizeOf, typeInfo, zeroValue, hi, hz0, hz1, hz2, asInt, asIntOf, hw, hroom, Addr.add_lit, zs_cells, hst]
theorem row_new (old : Nat) (hl : xs.length = n) (hn : n ≤ 1000000) : (w.drew.alloc (.cells ((fcL xs).toArray ++ (fcL zs70).toArray ++ Builtin.zeroCells (Value.agg #[.int .i64 0, .int .i64 0]).cells (grownCap w (n + 70) old 32 - (n + 70))) 32)).ownsRow 0 32 2 (.slice (some ⟨w.heap.size, 0, none⟩) (n + 70) (grownCap w (n + 70) old 32)) (n + 70) (fcL (xs ++ zs70)) := by
  have hge := grownCap_ge w (n + 70) old 32
  have hcm : grownCap w (n + 70) old 32 ≤ maxLen := grownCap_le_maxLen w (n + 70) old 32 (by unfold maxLen; omega)
  have hlen : (fcL (xs ++ zs70)).length = (n + 70) * 2 := by rw [fcL_length, List.length_append, hl]; simp [zs70]
  refine ⟨hlen, .inr ⟨w.heap.size, _, _, rfl, Nat.zero_le _, heap_alloc_new w.drew _, hge, hcm, ?_, ?_⟩⟩
  · rw [Array.size_append, Array.size_append, List.size_toArray, List.size_toArray, size_zeroCells, zs_len, fcL_length, hl]
    show n * 2 + 140 + _ * 2 = _
    omega
  · rw [Array.toList_append, Array.toList_append, ← hlen, fcL_append]
    exact List.take_left
theorem zeros_own (ty : TypeId) (hown : w.ownsRow 0 32 2 v n (fcL xs)) (hn : n ≤ 1000000) : ∃ v' w', (Builtin.append_ #[22, 3] ty #[v, .int .i64 (70 : Nat)]).run Try.prog w = .ok v' w' ∧ w'.ownsRow 0 32 2 v' (n + 70) (fcL (xs ++ zs70)) ∧ w'.ownsRow 0 32 2 v n (fcL xs) ∧ Kept (fun k => v.ownBlock = some k) w w' ∧ (v'.ownBlock = v.ownBlock ∨ v'.ownBlock = some w.heap.size) := by
  obtain ⟨i0, hi, hz0, hz1, hz2⟩ := info_parts info32
  have hl := owns_len2 hown
  have kd : ∀ (o : Obj), Kept (fun k => v.ownBlock = some k) w (w.drew.alloc o) := fun o => ((Kept.refl _ w).drewN 1).alloc o
  have kn : ∀ (o : Obj), (w.drew.alloc o).ownsRow 0 32 2 v n (fcL xs) := fun o => (((Kept.refl No w).drewN 1).alloc o).owns hown (fun _ _ h => h)
  have hcap : ∀ k, v.ownBlock = some k → True := fun _ _ => trivial
  rcases hown.2 with ⟨rfl, rfl⟩ | ⟨g, cap, cur, rfl, hbg, hg, hnc, hcm, hcs, htake⟩
  · have hx : xs = [] := List.eq_nil_of_length_eq_zero hl
    subst hx
    have hr := Go.Lib.run_append_nil_zeros (P := Try.prog) w 22 3 ty 32 i0 (.agg #[.int .i64 0, .int .i64 0]) .i64 .i64 Try.underlying22 Try.underlying3 hi hz0 70 (by decide) (by omega) (by decide) (by rw [hz2]; decide)
    rw [zs_cells] at hr
    have hrow := row_new (w := w) (xs := []) 0 rfl (Nat.zero_le _)
    simp only [show fcL [] = [] from rfl, Array.empty_append] at hrow
    exact ⟨_, _, hr, hrow, kn _, kd _, .inr rfl⟩
  · by_cases hroom : n + 70 ≤ cap
    · have hr := zeros_room (n := n) ty g cap cur hg hroom (by omega)
      have hfl : (fcL xs).length = n * 2 := by rw [fcL_length, hl]
      have hsz : (cur.toList.take (n * 2) ++ fcL zs70 ++ cur.toList.drop (n * 2 + 140)).toArray.size = cap * 2 := by
        rw [List.size_toArray, List.length_append, List.length_append, List.length_take, List.length_drop, zs_len, Array.length_toList]; omega
      refine ⟨_, _, hr, ⟨by rw [fcL_length, List.length_append, hl]; simp [zs70], .inr ⟨g, cap, _, rfl, hbg, setRow_heap w g cur _ 32 _ hg, hroom, hcm, hsz, ?_⟩⟩, ⟨hown.1, .inr ⟨g, cap, _, rfl, hbg, setRow_heap w g cur _ 32 _ hg, hnc, hcm, hsz, ?_⟩⟩, ?_, .inl rfl⟩
      · rw [htake, fcL_append]
        have : (n + 70) * 2 = (fcL xs ++ fcL zs70).length := by rw [List.length_append, hfl, zs_len]; omega
        rw [this]
        exact List.take_left
      · rw [htake, List.append_assoc, ← hfl]
        exact List.take_left
      · exact (Kept.refl _ w).grown (row := some g) ⟨rfl, rfl, rfl, by simp, fun k _ hk => setRow_other w g k _ (fun e => hk (by simp [e]))⟩ (fun k e => .inl (by injection e with e; simp [Value.ownBlock, e]))
    · have hold := run_firstCells_some (P := Try.prog) w.drew 2 n ⟨g, 0, none⟩ n cap (fcL xs) hown.1 (hown.cells (g := g) rfl)
      rw [← hz1] at hold
      have hr := Go.Lib.run_append_grow_zeros (P := Try.prog) w 22 3 ty 32 i0 (.agg #[.int .i64 0, .int .i64 0]) .i64 .i64 Try.underlying22 Try.underlying3 hi hz0 (some ⟨g, 0, none⟩) n cap (fcL xs) hold 70 (by decide) (by omega) (by omega) (by omega) (by rw [hz2]; decide) (growslice_fits (by omega) (by rw [hz2]; omega))
      rw [zs_cells] at hr
      exact ⟨_, _, hr, row_new (w := w) cap hl hn, kn _, kd _, .inr rfl⟩
end
end Go.Proofs.Ytdojmmnojpeklaa
