/-
  Sixty-four noughts, put behind an own row of words.
-/
import Derived.Test.YtofkacfchkimiaaPCalls
import Derived.Lib.AppendZerosOnto
namespace Go.Proofs.Ytofkacfchkimiaa
open Go.RowKit
set_option linter.unusedVariables false
set_option maxRecDepth 100000

def zs64 : List Value := List.replicate 64 (.int .i64 0)
theorem zs_len : zs64.length = 64 := rfl
theorem zs_one : ∀ u ∈ zs64, u.oneCell' = true := fun u hu => by rw [List.eq_of_mem_replicate hu]; rfl
theorem zs_cells : Builtin.zeroCells (Value.int .i64 0).cells 64 = zs64.toArray := by kernel_rfl
section
variable {w : World} {n B : Nat} {v : Value} {xs : List Value}
theorem zeros_room (ty : TypeId) (g cap : Nat) (cur : Array Value) (hg : w.heap[g]? = some (.cells cur 2 (0, 0))) (hroom : n + 64 ≤ cap) (hfit : n + 64 ≤ cur.size) :
    (Builtin.append_ #[32, 3] ty #[.slice (some ⟨g, 0, none⟩) n cap, .int .i64 (64 : Nat)]).run Try.prog w = .ok (.slice (some ⟨g, 0, none⟩) (n + 64) cap) (w.setRow g (cur.toList.take n ++ zs64 ++ cur.toList.drop (n + 64)).toArray) := by
  obtain ⟨i0, hi, hz0, hz1, hz2⟩ := info_parts Try.infoW
  have hst := run_storeCells_at Try.prog g n 2 zs64 0 cur w hg (by rw [zs_len]; omega) zs_one
  rw [zs_len] at hst
  simp only [Nat.add_zero] at hst
  have hw : IntKind.i64.wrap 64 = 64 := by rw [IntKind.wrap_i64]; rfl
  simp [Builtin.append_, run_underlying Try.underlying32, run_underlying Try.underlying3, sizeOf, typeInfo, zeroValue, hi, hz0, hz1, hz2, asInt, asIntOf, hw, hroom, Addr.add_lit, zs_cells, hst]
theorem zeros_own (ty : TypeId) (hown : w.ownsRow B 2 1 v n xs) (hn : n ≤ 1000000) : ∃ ya yc w', (Builtin.append_ #[32, 3] ty #[v, .int .i64 (64 : Nat)]).run Try.prog w = .ok (.slice ya (n + 64) yc) w' ∧ w'.ownsRow B 2 1 v n xs ∧ Kept (fun k => v.ownBlock = some k) w w' := by
  obtain ⟨i0, hi, hz0, hz1, hz2⟩ := info_parts Try.infoW
  have kd : ∀ (o : Obj), Kept (fun k => v.ownBlock = some k) w (w.drew.alloc o) := fun o => ((Kept.refl _ w).drewN 1).alloc o
  have kn : ∀ (o : Obj), (w.drew.alloc o).ownsRow B 2 1 v n xs := fun o => (((Kept.refl No w).drewN 1).alloc o).owns hown (fun _ _ h => h)
  rcases hown.2 with ⟨rfl, rfl⟩ | ⟨g, cap, cur, rfl, hbg, hg, hnc, hcm, hcs, htake⟩
  · have hr := Go.Lib.run_append_nil_zeros (P := Try.prog) w 32 3 ty 2 i0 (.int .i64 0) .i64 .i64 Try.underlying32 Try.underlying3 hi hz0 64 (by decide) (by omega) (by decide) (by rw [hz2]; decide)
    exact ⟨_, _, _, hr, kn _, kd _⟩
  · by_cases hroom : n + 64 ≤ cap
    · have hr := zeros_room (n := n) ty g cap cur hg hroom (by omega)
      have hsz : (cur.toList.take n ++ zs64 ++ cur.toList.drop (n + 64)).toArray.size = cap * 1 := by
        rw [List.size_toArray, List.length_append, List.length_append, List.length_take, List.length_drop, zs_len, Array.length_toList]; omega
      refine ⟨_, _, _, hr, ⟨hown.1, .inr ⟨g, cap, _, rfl, hbg, setRow_heap w g cur _ 2 _ hg, hnc, hcm, hsz, ?_⟩⟩, ?_⟩
      · have hfl : xs.length = n := by have := hown.1; omega
        rw [Nat.mul_one] at htake ⊢
        rw [htake, List.append_assoc, ← hfl]
        exact List.take_left
      · exact (Kept.refl _ w).grown (row := some g) ⟨rfl, rfl, rfl, by simp, fun k _ hk => setRow_other w g k _ (fun e => hk (by simp [e]))⟩ (fun k e => .inl (by injection e with e; simp [Value.ownBlock, e]))
    · have hold := run_firstCells_some (P := Try.prog) w.drew 1 n ⟨g, 0, none⟩ n cap xs hown.1 (hown.cells (g := g) rfl)
      rw [← hz1] at hold
      have hr := Go.Lib.run_append_grow_zeros (P := Try.prog) w 32 3 ty 2 i0 (.int .i64 0) .i64 .i64 Try.underlying32 Try.underlying3 hi hz0 (some ⟨g, 0, none⟩) n cap xs hold 64 (by decide) (by omega) (by omega) (by omega) (by rw [hz2]; decide) (growslice_fits (by omega) (by rw [hz2]; omega))
      exact ⟨_, _, _, hr, kn _, kd _⟩
end
theorem wpList_appZ {w : World} {ops : Array Oper} {rest : List Oper} {o : Oper} {a : Act} {Q : Exit → Act → World → Prop} (hgd : o.guard = none) (s x : Operand)
    (ho : o.op = .call { callee := .builtin .append, args := #[s, x], argTypes := #[32, 3] }) (B : Nat) (v : Value) (n : Nat) (us : List Value) (hs : a.eval s = v) (hx : a.eval x = .int .i64 (64 : Nat)) (hv : w.ownsRow B 2 1 v n us) (hn : n ≤ 1000000)
    (h : ∀ ya yc w', Hid (w'.ownsRow B 2 1 v n us) → Hid (Kept (fun k => v.ownBlock = some k) w w') → wpList Try.prog ops Q rest (a.put o.dst (.slice ya (n + 64) yc)) w') : wpList Try.prog ops Q (o :: rest) a w := by
  obtain ⟨ya, yc, w', hr, own1, k1⟩ := zeros_own (w := w) o.type hv hn
  refine BigFrame.wpList_want (by simp [Region.wanted, hgd]) fun K hK => ?_
  unfold Oper.wp
  have he : (execOp a.eval o).run Try.prog w = .ok (.value (.slice ya (n + 64) yc)) w' := by
    unfold execOp
    simp only [ho, resolve, invoke, builtin, Sem.run_bind, Sem.run_pure, Result.andThen_ok, List.map_toArray, List.map_cons, List.map_nil, hs, hx, hr]
  rw [he]
  exact hK _ _ (h ya yc w' own1 k1)
end Go.Proofs.Ytofkacfchkimiaa
