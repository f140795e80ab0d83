/-
  'append' of a slot onto what is told.
-/
import Derived.Test.YtffgcijicmfmlaaGreatDoorWAdv
namespace Go.Proofs.YtffgcijicmfmlaaGreatDoor
open Go.RowKit
set_option linter.unusedVariables false

theorem app_types (ty : TypeId) (u v : Value) (w : World) : (Builtin.append_ #[79, 91] ty #[u, v]).run Tryz.prog w = (Builtin.append_ #[79, 79] ty #[u, v]).run Tryz.prog w := by
  have h1 := run_underlying (P := Tryz.prog) (w := w) Tryz.underlying79
  have h2 := run_underlying (P := Tryz.prog) (w := w) Tryz.underlying91
  simp only [Builtin.append_, List.getElem?_toArray, List.getElem?_cons_zero, List.getElem?_cons_succ]
  cases u <;> simp [h1, h2, Sem.run_bind, Result.andThen]

/-- 'append' of a row of timers onto an own one -/
theorem wl_app {w : World} {ops : Array Oper} {rest : List Oper} {o : Oper} {a : Act} {Q : Exit → Act → World → Prop} (hgd : o.guard = none) (s x : Operand)
    (ho : o.op = .call { callee := .builtin .append, args := #[s, x], argTypes := #[79, 91] }) (B : Nat) (v : Value) (n m cap g : Nat) (T A : List Fi) (hs : a.eval s = v) (hT : w.ownsRow B 98 2 v n (fcL T)) (hx : a.eval x = .slice (some ⟨g, 0, none⟩) m cap) (hA : w.ownsRow 0 98 2 (.slice (some ⟨g, 0, none⟩) m cap) m (fcL A)) (hB : B ≤ w.heap.size) (hn : n + m ≤ 1000000)
    (h : ∀ v' w', Hid (w'.ownsRow B 98 2 v' (T ++ A).length (fcL (T ++ A))) → Hid (Kept (fun b => v.ownBlock = some b) w w') → Hid (v'.ownBlock = v.ownBlock ∨ ∃ b, v'.ownBlock = some b ∧ w.heap.size ≤ b) → wpList Tryz.prog ops Q rest (a.put o.dst v') w') : wpList Tryz.prog ops Q (o :: rest) a w := by
  obtain ⟨i0, hi, hz0, hz1, hz2⟩ := info_partsw info32
  obtain ⟨v', w', hr, h2, h3, h4, h5⟩ := run_append_own_at (P := Tryz.prog) (w := w) B 79 o.type 98 i0 (.agg #[.int .i64 0, .int .i64 0]) 2 16 Tryz.underlying79 hi hz0 hz1 hz2 rfl (by decide) v n (fcL T) hT ⟨g, 0, none⟩ m cap (fcL A) (by rw [fcL_length, owns_len2 hA]) (hA.cells (g := g) rfl) (fcL_one A) (by unfold maxLen; omega) (by omega) hB
  rw [← app_types] at hr
  refine wpList_plain hgd fun K hK => ?_
  unfold Oper.wp execOp
  simp only [ho, resolve, invoke, builtin, Sem.run_bind, Sem.run_pure, Result.andThen_ok, List.map_toArray, List.map_cons, List.map_nil, hs, hx, hr]
  refine hK _ _ (h v' w' ?_ ?_ ?_)
  · show w'.ownsRow B 98 2 v' (T ++ A).length (fcL (T ++ A))
    rw [List.length_append, owns_len2 hT, owns_len2 hA, fcL_append]
    exact h2
  · exact (Kept.refl _ w).grown h3 (fun k e => .inl e)
  · rcases h5 with h5 | h5
    · exact .inl h5
    · exact .inr ⟨_, h5, Nat.le_refl _⟩

end Go.Proofs.YtffgcijicmfmlaaGreatDoor
