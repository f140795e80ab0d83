/-
  The map of a partition's ports: number to block.
-/
import Derived.Test.YthebokkogeigoaaODat
import Derived.Test.YthebokkogeigoaaProg
import Derived.Maps.OwnSet
namespace Go.Proofs.Ythebokkogeigoaa
open Go.RowKit
set_option linter.unusedVariables false
set_option maxRecDepth 100000

def I6 (x : Int) : Prop := -9223372036854775808 ≤ x ∧ x ≤ 9223372036854775807
theorem wf6 {x : Int} (h : I6 x) : (Lit.int .i64 x).wf = true := by
  unfold I6 at h
  simp [Lit.wf, IntKind.min, IntKind.max, IntKind.bits, IntKind.signed]
  omega
def ptV (o : Option Nat) : Value := .pointer (o.map (fun b => ⟨b, 0, none⟩))
def ptD (o : Option Nat) : DataW Unit := .lit (.int .i64 (match o with | none => -1 | some b => (b : Int)))
theorem ptD_inj {o o' : Option Nat} (h : ptD o = ptD o') : o = o' := by
  unfold ptD at h
  simp at h
  cases o <;> cases o' <;> simp at h ⊢ <;> omega
def ptR : Value → Option (DataW Unit × List MemPlace)
  | .pointer none => some (ptD none, [])
  | .pointer (some ⟨b, 0, none⟩) => some (ptD (some b), [])
  | _ => none
theorem ptR_mk (o : Option Nat) : ptR (ptV o) = some (ptD o, []) := by cases o <;> rfl
theorem ptR_inv {v : Value} {o : Option Nat} {ps : List MemPlace} (h : ptR v = some (ptD o, ps)) : v = ptV o := by
  unfold ptR at h
  split at h
  · simp at h
    rw [← ptD_inj h.1]
    rfl
  · simp at h
    rw [← ptD_inj h.1]
    rfl
  · cases h

/-- block mb is the map M, of at most c entries -/
def Tm (w : World) (mb : Nat) (M : Int → Option Nat) (c : Nat) : Prop :=
  ∃ D, w.ownsMap Try.prog 3 ptR mb c D ∧ ∀ x, I6 x → D.atKey (.int .i64 x) (ptD none) = ptD (M x)
theorem keyI : Maps.Keyed Try.prog 3 := Maps.int_keyed Try.underlying3
theorem keyOfI {x : Int} (h : I6 x) : keyOf Try.prog 3 (.int .i64 x) = some (.int .i64 x) := Maps.keyOf_int_mk Try.underlying3 (wf6 h)
namespace Tm
variable {w w' : World} {mb c : Nat} {M : Int → Option Nat}
theorem lt (h : Tm w mb M c) : mb < w.heap.size := by obtain ⟨D, h, _⟩ := h; exact h.lt
theorem not_cells (h : Tm w mb M c) {cs : Array Value} {t : TypeId} {fr : Nat × Nat} : w.heap[mb]? ≠ some (.cells cs t fr) := by
  obtain ⟨D, ⟨es, clock, hb, _⟩, _⟩ := h
  rw [hb]
  simp
theorem kept {F : Nat → Prop} (h : Tm w mb M c) (k : Kept F w w') (hF : ¬ F mb) : Tm w' mb M c := by
  obtain ⟨D, ho, r⟩ := h
  have hlt := ho.lt
  obtain ⟨es, clock, hb, q⟩ := ho
  exact ⟨D, ⟨es, clock, (k.block mb hlt hF).trans hb, q⟩, r⟩
theorem up (h : Tm w mb M c) : Tm w mb M (c + 1) := by
  obtain ⟨D, ho, r⟩ := h
  exact ⟨D, ho.mono (by omega), r⟩
theorem congr {M' : Int → Option Nat} (h : Tm w mb M c) (hM : ∀ x, I6 x → M x = M' x) : Tm w mb M' c := by
  obtain ⟨D, ho, r⟩ := h
  exact ⟨D, ho, fun x hx => by rw [r x hx, hM x hx]⟩
theorem made (w : World) : Tm (w.alloc (.map #[] 0)) w.heap.size (fun _ => none) 0 :=
  ⟨.map [], World.ownsMap_made w Try.prog 3 ptR, fun x _ => rfl⟩
theorem look (h : Tm w mb M c) {x : Int} (hx : I6 x) : (Instr.lookup 85 (.map (some mb)) (.int .i64 x) false).run Try.prog w = .ok (ptV (M x)) w := by
  obtain ⟨D, ho, hM⟩ := h
  obtain ⟨v, ps, hrun, hv⟩ := ho.lookup keyI Try.underlying85 (z := ptV none) (by kernel_rfl) (ptR_mk none) (keyOfI hx)
  rw [hM x hx] at hv
  rw [hrun, ptR_inv hv]
theorem put (h : Tm w mb M c) (hc : c < 140737488355328 - 4096) {x : Int} (hx : I6 x) (b : Nat) : ∃ w', (Instr.mapUpdate 85 (.map (some mb)) (.int .i64 x) (ptV (some b))).run Try.prog w = .ok () w' ∧ Tm w' mb (fun y => if y = x then some b else M y) (c + 1) ∧ Kept (fun k => k = mb) w w' := by
  obtain ⟨D, ho, hM⟩ := h
  obtain ⟨w', hrun, how, hg⟩ := ho.update keyI Try.underlying85 (by unfold maxLen; omega) (keyOfI hx) (ptR_mk (some b))
  have hk : WideAt.IsKeyLit (Lit.int .i64 x) := by simp [WideAt.IsKeyLit]
  refine ⟨w', hrun, ⟨_, how, ?_⟩, (Kept.refl _ w).grown hg (fun k e => by injection e with e; exact .inl e.symm)⟩
  intro y hy
  show _ = ptD (if y = x then some b else M y)
  by_cases e : y = x
  · subst e
    rw [if_pos rfl, Maps.atKey_put_same ho.isMap hk _ _]
  · rw [if_neg e]
    have hne : (Lit.int .i64 y) ≠ Lit.int .i64 x := by simpa using e
    rw [Maps.atKey_put_other hne]
    exact hM y hy
end Tm
end Go.Proofs.Ythebokkogeigoaa
