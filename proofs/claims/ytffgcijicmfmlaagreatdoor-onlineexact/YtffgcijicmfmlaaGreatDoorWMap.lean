/-
  The map of timers: number to tick and place.
-/
import Derived.Test.YtffgcijicmfmlaaGreatDoorHeap
import Derived.Test.YtffgcijicmfmlaaGreatDoorChecked
import Derived.Maps.OwnSet
namespace Go.Proofs.YtffgcijicmfmlaaGreatDoor
open Go.RowKit
set_option linter.unusedVariables false

def I6w (x : Int) : Prop := -9223372036854775808 ≤ x ∧ x ≤ 9223372036854775807
theorem wf6 {x : Int} (h : I6w x) : (Lit.int .i64 x).wf = true := by
  unfold I6w at h
  simp [Lit.wf, IntKind.min, IntKind.max, IntKind.bits, IntKind.signed]
  omega
def tmV (t p : Int) : Value := .agg #[.int .i64 t, .int .i64 p]
def tmD (t p : Int) : DataW Unit := .agg [.lit (.int .i64 t), .lit (.int .i64 p)]
def tmL : List Value → Option (DataW Unit × List MemPlace)
  | [.int .i64 t, .int .i64 p] => some (tmD t p, [])
  | _ => none
def tmR : Value → Option (DataW Unit × List MemPlace)
  | .agg cs => tmL cs.toList
  | _ => none
theorem tmR_mk (t p : Int) : tmR (tmV t p) = some (tmD t p, []) := rfl
theorem tmR_inv {v : Value} {t p : Int} {ps : List MemPlace} (h : tmR v = some (tmD t p, ps)) : v = tmV t p := by
  unfold tmR at h
  split at h
  · rename_i cs
    unfold tmL at h
    split at h
    · rename_i t' p' e
      unfold tmD at h
      simp at h
      obtain ⟨⟨rfl, rfl⟩, _⟩ := h
      unfold tmV
      congr 1
      exact Array.ext' e
    · cases h
  · cases h

/-- a function turned at one place -/
def updM (M : Int → Option (Int × Int)) (x : Int) (v : Option (Int × Int)) : Int → Option (Int × Int) := fun y => if y = x then v else M y
/-- block mb is the map M, of c entries -/
def Tm (w : World) (mb : Nat) (M : Int → Option (Int × Int)) (c : Nat) : Prop :=
  ∃ D, w.ownsMap Tryz.prog 3 tmR mb c D ∧ Maps.size D = c ∧ ∀ x, I6w x → (M x = none → Maps.has D (.int .i64 x) = false) ∧ ∀ t p, M x = some (t, p) → Maps.has D (.int .i64 x) = true ∧ D.atKey (.int .i64 x) (tmD 0 0) = tmD t p
theorem key3 : Maps.Keyed Tryz.prog 3 := Maps.int_keyed Tryz.underlying3
theorem keyOf3 {x : Int} (h : I6w x) : keyOf Tryz.prog 3 (.int .i64 x) = some (.int .i64 x) := Maps.keyOf_int_mk Tryz.underlying3 (wf6 h)
namespace Tm
variable {w w' : World} {mb c : Nat} {M : Int → Option (Int × Int)}
theorem lt (h : Tm w mb M c) : mb < w.heap.size := by obtain ⟨D, h, _⟩ := h; exact h.lt
theorem kept {F : Nat → Prop} (h : Tm w mb M c) (k : Kept F w w') (hF : ¬ F mb) : Tm w' mb M c := by
  obtain ⟨D, ho, r⟩ := h
  have hlt := ho.lt
  obtain ⟨es, clock, hb, q⟩ := ho
  exact ⟨D, ⟨es, clock, (k.block mb hlt hF).trans hb, q⟩, r⟩
theorem made (w : World) : Tm (w.alloc (.map #[] 0)) w.heap.size (fun _ => none) 0 :=
  ⟨.map [], World.ownsMap_made w Tryz.prog 3 tmR, rfl, fun x _ => ⟨fun _ => rfl, fun t p h => by cases h⟩⟩
theorem look (h : Tm w mb M c) {x : Int} (hx : I6w x) : (Instr.lookup 90 (.map (some mb)) (.int .i64 x) true).run Tryz.prog w = .ok (.tuple #[tmV ((M x).getD (0, 0)).1 ((M x).getD (0, 0)).2, .bool (M x).isSome]) w := by
  obtain ⟨D, ho, hs, hM⟩ := h
  obtain ⟨v, ps, hrun, hv⟩ := ho.look_ok key3 Tryz.underlying90 (z := tmV 0 0) (by kernel_rfl) (tmR_mk 0 0) (keyOf3 hx)
  obtain ⟨h1, h2⟩ := hM x hx
  cases hm : M x with
  | none =>
    have hh := h1 hm
    rw [Maps.atKey_of_not_has hh] at hv
    rw [hrun, hh, tmR_inv hv]
    rfl
  | some tp =>
    obtain ⟨t, p⟩ := tp
    obtain ⟨hh, ha⟩ := h2 t p hm
    rw [ha] at hv
    rw [hrun, hh, tmR_inv hv]
    rfl
theorem len (h : Tm w mb M c) (ty : TypeId) : (Builtin.len_ #[90] ty #[.map (some mb)]).run Tryz.prog w = .ok (.int .i64 c) w := by
  obtain ⟨D, ho, hs, hM⟩ := h
  rw [ho.len Tryz.underlying90 ty, hs]
theorem put (h : Tm w mb M c) (hc : c < 140737488355328 - 4096) {x : Int} (hx : I6w x) (t p : Int) : ∃ w', (Instr.mapUpdate 90 (.map (some mb)) (.int .i64 x) (tmV t p)).run Tryz.prog w = .ok () w' ∧ Tm w' mb (updM M x (some (t, p))) (if M x = none then c + 1 else c) ∧ Kept (fun k => k = mb) w w' := by
  obtain ⟨D, ho, hs, hM⟩ := h
  obtain ⟨w', hrun, how, hg⟩ := ho.update key3 Tryz.underlying90 (by unfold maxLen; omega) (keyOf3 hx) (tmR_mk t p)
  have hT := ho.tidy key3
  have hsz := Maps.size_put hT (k := .int .i64 x) (tmD t p)
  have hk : WideAt.IsKeyLit (Lit.int .i64 x) := by simp [WideAt.IsKeyLit]
  obtain ⟨h1, h2⟩ := hM x hx
  have hsz' : Maps.size (D.put (.int .i64 x) (tmD t p)) = if M x = none then c + 1 else c := by
    rw [hsz]
    cases hm : M x with
    | none => rw [h1 hm, hs]; rfl
    | some tp => obtain ⟨t', p'⟩ := tp; rw [(h2 t' p' hm).1, hs]; rfl
  refine ⟨w', hrun, ⟨_, ?_, hsz', ?_⟩, (Kept.refl _ w).grown hg (fun k e => by injection e with e; exact .inl e.symm)⟩
  · obtain ⟨es, clock, hb, F, hn, hD⟩ := how
    refine ⟨es, clock, hb, F, ?_, hD⟩
    rw [← hsz', hD]
    simp [Maps.size, length_sorted]
  · intro y hy
    unfold updM
    by_cases e : y = x
    · subst e
      rw [if_pos rfl]
      exact ⟨fun h => (by cases h), fun t' p' h => by
        injection h with h
        injection h with e1 e2
        subst e1 e2
        exact ⟨Maps.has_put_same ho.isMap hk _, Maps.atKey_put_same ho.isMap hk _ _⟩⟩
    · rw [if_neg e]
      have hne : (Lit.int .i64 y) ≠ Lit.int .i64 x := by simpa using e
      rw [Maps.has_put_other hne, Maps.atKey_put_other hne]
      exact hM y hy
theorem del (h : Tm w mb M c) {x : Int} (hx : I6w x) (ty : TypeId) : ∃ w', (Builtin.delete_ #[90, 3] ty #[.map (some mb), .int .i64 x]).run Tryz.prog w = .ok (.tuple #[]) w' ∧ Tm w' mb (updM M x none) (if M x = none then c else c - 1) ∧ Kept (fun k => k = mb) w w' := by
  obtain ⟨D, ho, hs, hM⟩ := h
  obtain ⟨w', hrun, how, hg⟩ := ho.drop key3 Tryz.underlying90 (keyOf3 hx) ty
  have hT := ho.tidy key3
  have hsz := Maps.size_del hT (k := .int .i64 x)
  obtain ⟨h1, h2⟩ := hM x hx
  have hsz' : Maps.size (D.del (.int .i64 x)) = if M x = none then c else c - 1 := by
    cases hm : M x with
    | none => rw [h1 hm, hs] at hsz; simpa using hsz
    | some tp => obtain ⟨t', p'⟩ := tp; rw [(h2 t' p' hm).1, hs] at hsz; simp at hsz ⊢; omega
  refine ⟨w', hrun, ⟨_, ?_, hsz', ?_⟩, (Kept.refl _ w).grown hg.grown (fun k e => by injection e with e; exact .inl e.symm)⟩
  · obtain ⟨es, clock, hb, F, hn, hD⟩ := how
    refine ⟨es, clock, hb, F, ?_, hD⟩
    rw [← hsz', hD]
    simp [Maps.size, length_sorted]
  · intro y hy
    unfold updM
    by_cases e : y = x
    · subst e
      rw [if_pos rfl]
      exact ⟨fun h => Maps.has_del_same, fun t' p' h => by cases h⟩
    · rw [if_neg e]
      have hne : (Lit.int .i64 y) ≠ Lit.int .i64 x := by simpa using e
      rw [Maps.has_del_other hne, Maps.atKey_del_other hne]
      exact hM y hy
end Tm

end Go.Proofs.YtffgcijicmfmlaaGreatDoor
