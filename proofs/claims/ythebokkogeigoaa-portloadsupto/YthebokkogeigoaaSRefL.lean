/-
  The document's Load.
-/
import Derived.Test.YthebokkogeigoaaSRef
import Derived.Deep.DeepCutAuto
namespace Go.Proofs.Ythebokkogeigoaa
open Go.RowKit
set_option linter.unusedVariables false
set_option linter.unusedSimpArgs false
set_option maxRecDepth 100000

theorem Try.infoS : (Try.prog.info? 61).map (fun i => (i.zero, i.size, i.bytes)) = some (some (.agg #[.slice none 0 0, .bool false, .int .i64 0, .slice none 0 0, .int .i64 0]), 5, 72) := by kernel_rfl
theorem cat_congr {f g : Nat → List Value} : ∀ k, (∀ i, i < k → f i = g i) → cat f k = cat g k
  | 0, _ => rfl
  | k + 1, h => by rw [cat, cat, cat_congr k (fun i hi => h i (by omega)), h k (by omega)]
/-- append of one that stands so -/
theorem wpList_appS {w : World} {ops : Array Oper} {rest : List Oper} {o : Oper} {a : Act} {Q : Exit → Act → World → Prop} (hgd : o.guard = none) (s x : Operand)
    (ho : o.op = .call { callee := .builtin .append, args := #[s, x], argTypes := #[55, 55] }) (B : Nat) (v : Value) (n : Nat) (us : List Value) (hs : a.eval s = v) (hv : w.ownsRow B 61 5 v n us) (hB : B ≤ w.heap.size) (A : Array Value) (ad : Addr) (hx : a.eval x = .slice (some ad) 1 1) (hA : A.size = 5)
    (hnews : ∀ j u, A.toList[j]? = some u → w.cell? (ad.add j) = some u) (h1 : ∀ u ∈ A.toList, u.oneCell' = true) (hn : n ≤ 1048576)
    (h : ∀ ya yc w', Hid (w'.ownsRow B 61 5 (.slice ya (n + 1) yc) (n + 1) (us ++ A.toList)) → Hid (Kept (fun k => v.ownBlock = some k) w w') → wpList Try.prog ops Q rest (a.put o.dst (.slice ya (n + 1) yc)) w') : wpList Try.prog ops Q (o :: rest) a w := by
  obtain ⟨i0, hi, hz0, hz1, hz2⟩ := info_parts Try.infoS
  obtain ⟨v', w', hr, own1, grow1, _⟩ := run_append_own (P := Try.prog) w B 55 o.type 61 i0 _ 5 72 Try.underlying55 hi hz0 hz1 hz2 rfl (by decide) v n us hv ad 1 1 A.toList (by simp [hA]) hnews h1 (by unfold maxLen; omega) (by omega) hB
  obtain ⟨ya, yn, yc, rfl⟩ := own_slice own1
  have hyn : yn = n + 1 := by
    obtain ⟨_, ⟨_, h2⟩ | ⟨g, cap, cur, h2, _⟩⟩ := own1
    · omega
    · injection h2
  subst hyn
  refine BigFrame.wpList_want (by simp [Region.wanted, hgd]) fun K hK => ?_
  unfold Oper.wp
  have he : (execOp a.eval o).run Try.prog w = .ok (.value (.slice ya (n + 1) yc)) w' := by
    unfold execOp
    simp only [ho, resolve, invoke, builtin, Sem.run_bind, Sem.run_pure, Result.andThen_ok, List.map_toArray, List.map_cons, List.map_nil, hs, hx, hr]
  rw [he]
  exact hK _ _ (h ya yc w' own1 (Kept.grown (Kept.refl (fun k => v.ownBlock = some k) w) grow1 (fun k e => .inl e)))
theorem news_alloc (w : World) (A : Array Value) (t : TypeId) : ∀ j u, A.toList[j]? = some u → (w.alloc (.cells A t)).cell? ((⟨w.heap.size, 0, none⟩ : Addr).add j) = some u := by
  intro j u hu
  rw [add_none, Nat.zero_add, cell_blk (alloc_new w _)]
  simpa using hu
/-- a list of them, made so far: the cells of each -/
def Gl (B : Nat) (F : Nat → Prop) (w : World) (v : Value) (k : Nat) (ss : Nat → Ps) : Prop := ∃ As : Nat → Array Value, w.ownsRow B 61 5 v k (cat (fun i => (As i).toList) k) ∧ ∀ i, i < k → Vr w F (As i) (ss i)
theorem Gl.keep {B : Nat} {F : Nat → Prop} {w w' : World} {v : Value} {k : Nat} {ss : Nat → Ps} (h : Gl B F w v k ss) (K : Kept No w w') : Gl B F w' v k ss := by
  obtain ⟨As, h1, h2⟩ := h
  exact ⟨As, K.owns h1 (fun _ _ e => e), fun i hi => (h2 i hi).kept K (fun _ _ e => e)⟩
theorem Gl.nil (B : Nat) (F : Nat → Prop) (w : World) (ss : Nat → Ps) : Gl B F w (.slice none 0 0) 0 ss := ⟨fun _ => #[], World.ownsRow_nil _ _ _ _, fun i hi => by omega⟩
theorem Gl.more {B : Nat} {F : Nat → Prop} {w w' : World} {v v' : Value} {k : Nat} {ss : Nat → Ps} {A : Array Value} {As : Nat → Array Value} (h2 : ∀ i, i < k → Vr w F (As i) (ss i)) (hF : ∀ x, F x → ¬ v.ownBlock = some x) (hA : Vr w F A (ss k)) (K : Kept (fun x => v.ownBlock = some x) w w') (h1 : w'.ownsRow B 61 5 v' (k + 1) (cat (fun i => (As i).toList) k ++ A.toList)) : Gl B F w' v' (k + 1) ss := by
  refine ⟨upd As k A, ?_, fun i hi => ?_⟩
  · rw [cat, upd_same, cat_congr (g := fun i => (As i).toList) k (fun i hi => by rw [upd_oth _ _ (by omega)])]
    exact h1
  · by_cases e : i = k
    · subst e
      rw [upd_same]
      exact hA.kept K hF
    · rw [upd_oth _ _ e]
      exact (h2 i (by omega)).kept K hF
theorem Gl.sr {B : Nat} {F : Nat → Prop} {w : World} {a : Option Addr} {n c : Nat} {ss : Nat → Ps} (h : Gl B F w (.slice a n c) n ss) (hn : n ≤ 1048576) : Sr w (fun k => F k ∨ B ≤ k) a n c ss := by
  obtain ⟨As, h1, h2⟩ := h
  have hc : n ≤ c ∧ c ≤ 9223372036854775807 := by
    rcases h1.2 with ⟨e, e0⟩ | ⟨g, cap, cur, hv, hb, hg, q1, q2, _⟩
    · injection e with _ _ e3; subst e3; omega
    · injection hv with _ _ e3; subst e3; unfold maxLen at q2; omega
  refine ⟨hc.1, hc.2, hn, fun i hi => ?_⟩
  rcases h1.2 with ⟨e, e0⟩ | ⟨g, cap, cur, hv, hb, hg, _⟩
  · omega
  · injection hv with e1 _ e3
    subst e1 e3
    refine ⟨g, 0, As i, rfl, .inr hb, fun j hj => ?_, (h2 i hi).mono (fun _ e => .inl e)⟩
    have hs : ∀ j, j < n → ((fun i => (As i).toList) j).length = 5 := fun j hj => by show (As j).toList.length = 5; rw [Array.length_toList, (h2 j hj).size.1]
    have hA : (As i)[j]? = some ((As i)[j]'(by rw [(h2 i hi).size.1]; exact hj)) := Array.getElem?_eq_getElem _
    have key : ∀ m, m ≤ n → i < m → (cat (fun i => (As i).toList) m)[i * 5 + j]? = (As i)[j]? ∧ (cat (fun i => (As i).toList) m).length = m * 5 := by
      intro m
      induction m with
      | zero => intro _ h; omega
      | succ m ih =>
        intro hm him
        have hl : ∀ m, m ≤ n → (cat (fun i => (As i).toList) m).length = m * 5 := by
          intro m
          induction m with
          | zero => intro _; rfl
          | succ m ih => intro hm; rw [cat, List.length_append, ih (by omega), hs m (by omega)]; omega
        refine ⟨?_, hl (m + 1) hm⟩
        rw [cat]
        by_cases e : i < m
        · rw [List.getElem?_append_left (by rw [hl m (by omega)]; omega)]
          exact (ih (by omega) e).1
        · obtain rfl : i = m := by omega
          rw [List.getElem?_append_right (by rw [hl i (by omega)]; omega), hl i (by omega), show i * 5 + j - i * 5 = j by omega]
          simp
    have := h1.cells (g := g) rfl (i * 5 + j) _ (((key n (Nat.le_refl _) hi).1).trans hA)
    rw [add_none] at this
    rw [hA, show 0 + i * 5 + j = 0 + (i * 5 + j) by omega]
    exact this
end Go.Proofs.Ythebokkogeigoaa
