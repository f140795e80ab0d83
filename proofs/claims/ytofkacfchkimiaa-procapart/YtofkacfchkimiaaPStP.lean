/-
  States: the list's row, the append of one state.
-/
import Derived.Test.YtofkacfchkimiaaPGet
import Derived.Test.YtofkacfchkimiaaPHeld
import Derived.Maps.AppendAt
namespace Go.Proofs.Ytofkacfchkimiaa
open Go.RowKit
set_option linter.unusedVariables false
set_option maxRecDepth 100000
def sL (T : Tt) (ds : Nat → Value) : Nat → List Value
  | 0 => []
  | k + 1 => sL T ds k ++ ((T.ps k).val (ds k)).toList
theorem sL_len (T : Tt) (ds : Nat → Value) : ∀ k, (sL T ds k).length = k * 28
  | 0 => rfl
  | k + 1 => by
    show (sL T ds k ++ ((T.ps k).val (ds k)).toList).length = _
    rw [List.length_append, sL_len T ds k, show ((T.ps k).val (ds k)).toList.length = 28 from rfl]; omega
theorem sL_ext (T : Tt) (ds es : Nat → Value) : ∀ k, (∀ j, j < k → ds j = es j) → sL T ds k = sL T es k
  | 0, _ => rfl
  | k + 1, h => by
    show sL T ds k ++ _ = sL T es k ++ _
    rw [sL_ext T ds es k (fun j hj => h j (by omega)), h k (by omega)]
theorem sL_at (T : Tt) (ds : Nat → Value) : ∀ k i j, i < k → j < 28 → (sL T ds k)[i * 28 + j]? = ((T.ps i).val (ds i))[j]?
  | 0, i, j, h, _ => by omega
  | k + 1, i, j, h, hj => by
    show (sL T ds k ++ ((T.ps k).val (ds k)).toList)[i * 28 + j]? = _
    by_cases hi : i < k
    · rw [List.getElem?_append_left (by rw [sL_len]; omega)]
      exact sL_at T ds k i j hi hj
    · have : i = k := by omega
      subst this
      rw [List.getElem?_append_right (by rw [sL_len]; omega), sL_len, show i * 28 + j - i * 28 = j by omega]
      simp
/-- rows of unlike kinds lie in unlike blocks -/
theorem own_ne {w : World} {B B' e e' s s' n n' : Nat} {v v' : Value} {xs xs' : List Value} (h : w.ownsRow B e s v n xs) (h' : w.ownsRow B' e' s' v' n' xs') (hne : e ≠ e') {q : Nat} (hq : v.ownBlock = some q) : v'.ownBlock ≠ some q := by
  intro hq'
  obtain ⟨_, ⟨rfl, _⟩ | ⟨g, cap, cur, rfl, _, hg, _⟩⟩ := h
  · cases hq
  · obtain ⟨_, ⟨rfl, _⟩ | ⟨g', cap', cur', rfl, _, hg', _⟩⟩ := h'
    · cases hq'
    · have e1 : g = q := by simpa [Value.ownBlock] using hq
      have e2 : g' = q := by simpa [Value.ownBlock] using hq'
      subst e1 e2
      rw [hg] at hg'
      injection hg' with hg'
      injection hg' with _ h2 _
      exact hne h2
theorem Try.infoS : (Try.prog.info? 48).map (fun i => (i.zero, i.size, i.bytes)) = some (some (.agg Z28), 28, 240) := by kernel_rfl
section
variable {w : World} {a : Act} {o : Oper}
theorem er_bsS (x : Operand) (ho : o.op = .buildSlice 78 1 #[(0, x)]) (A : Array Value) (hx : a.eval x = .agg A) (hA : Instr.fill (fun i => some (i * 28, 28)) ((Array.range (1 * 28)).map ((Value.agg Z28).cells[· % (Value.agg Z28).cells.size]!)) [(0, .agg A)] = some A) : (execOp a.eval o).run Try.prog w = .ok (.value (.slice (some ⟨w.heap.size, 0, none⟩) 1 1)) (w.alloc (.cells A 48)) := by
  obtain ⟨i0, hi, hz0, hz1, hz2⟩ := info_parts Try.infoS
  have e := run_buildSlice (P := Try.prog) w 78 48 1 #[(0, .agg A)] A i0 (.agg Z28) Try.underlying78 hi hz0 (by rw [hz1]; decide) (by rw [hz1]; decide) (by rw [hz1]; exact hA)
  unfold execOp
  simp only [ho, Sem.run_bind, List.map_toArray, List.map_cons, List.map_nil, hx, e, Result.andThen_ok]
  rfl
theorem er_appS (s x : Operand) (ho : o.op = .call { callee := .builtin .append, args := #[s, x], argTypes := #[78, 78] }) (v u : Value) (hs : a.eval s = v) (hx : a.eval x = u) (v' : Value) (w' : World) (hr : (Builtin.append_ #[78, 78] o.type #[v, u]).run Try.prog w = .ok v' w') : (execOp a.eval o).run Try.prog w = .ok (.value v') w' := by
  unfold execOp
  simp only [ho, resolve, invoke, builtin, Sem.run_bind, Sem.run_pure, Result.andThen_ok, List.map_toArray, List.map_cons, List.map_nil, hs, hx, hr]
end
theorem fill_val (p : Pr) (v : Value) : Instr.fill (fun i => some (i * 28, 28)) ((Array.range (1 * 28)).map ((Value.agg Z28).cells[· % (Value.agg Z28).cells.size]!)) [(0, .agg (p.val v))] = some (p.val v) := by kernel_rfl
/-- the append of one state: the run -/
theorem appS_run {B n : Nat} {v : Value} {us : List Value} (w : World) (A : Array Value) (hA : A.size = 28) (h1 : A.all (·.oneCell') = true) (hv : w.ownsRow B 48 28 v n us) (hB : B ≤ w.heap.size) (hn : n ≤ 1048576) (ty : TypeId) :
    ∃ ya yc w', (Builtin.append_ #[78, 78] ty #[v, .slice (some ⟨w.heap.size, 0, none⟩) 1 1]).run Try.prog (w.alloc (.cells A 48)) = .ok (.slice ya (n + 1) yc) w' ∧ w'.ownsRow B 48 28 (.slice ya (n + 1) yc) (n + 1) (us ++ A.toList) ∧ (w.alloc (.cells A 48)).grownBy w' v.ownBlock := by
  obtain ⟨i0, hi, hz0, hz1, hz2⟩ := info_parts Try.infoS
  have hnews : ∀ j u, A.toList[j]? = some u → (w.alloc (.cells A 48)).cell? ((⟨w.heap.size, 0, none⟩ : Addr).add j) = some u := by
    intro j u hu
    rw [add_none, Nat.zero_add]
    have := alloc_new w (.cells A 48)
    simp only [World.cell?, this]
    simpa using hu
  obtain ⟨v', w', hr, own1, grow1, _, _⟩ := run_append_own_at (P := Try.prog) (w.alloc (.cells A 48)) B 78 ty 48 i0 (.agg Z28) 28 240 Try.underlying78 hi hz0 hz1 hz2 rfl (by decide) v n us (hv.alloc _) ⟨w.heap.size, 0, none⟩ 1 1 A.toList (by simp [hA]) hnews (fun u hu => (Array.all_eq_true_iff_forall_mem.1 h1) u (by simpa using hu)) (by unfold maxLen; omega) (by omega) (by rw [World.size_alloc]; omega)
  obtain ⟨ya, yn, yc, rfl⟩ := own_slice own1
  have hyn : yn = n + 1 := by
    obtain ⟨_, ⟨_, h2⟩ | ⟨g, cap, cur, h2, _⟩⟩ := own1
    · omega
    · injection h2
  subst hyn
  exact ⟨ya, yc, w', hr, own1, grow1⟩
end Go.Proofs.Ytofkacfchkimiaa
