/-
  One wheel, what another has told and what this one has told so far.
-/
import Derived.Test.YtdojmmnojpeklaaWPt
import Derived.Laws.AppendOwnNone
namespace Go.Proofs.Ytdojmmnojpeklaa
open Go.RowKit
set_option linter.unusedVariables false

def Pz (W w : World) (b2 n2 : Nat) (L2 : List Fi) (v : Value) (T : List Fi) (u : Value) (A : List Fi) : Prop :=
  ∃ F2, Wh w F2 b2 n2 L2 ∧ (∀ k, F2 k → W.heap.size ≤ k) ∧ Below W.heap.size W w ∧ w.ownsRow W.heap.size 32 2 v T.length (fcL T) ∧ w.ownsRow W.heap.size 32 2 u A.length (fcL A) ∧ (∀ g, v.ownBlock = some g → ¬ F2 g) ∧ (∀ g, u.ownBlock = some g → ¬ F2 g) ∧ ∀ g, v.ownBlock = some g → u.ownBlock ≠ some g
namespace Pz
variable {W w w' : World} {b2 n2 : Nat} {L2 T A : List Fi} {v u : Value}
theorem of_pt {b1 n1 : Nat} {L1 : List Fi} (h : Pt W w b1 b2 n1 n2 L1 L2 v T) : Pz W w b2 n2 L2 v T (.slice none 0 0) [] := by
  obtain ⟨F1, F2, h1, h2, h3, h4, h5, h6, h7, h8⟩ := h
  exact ⟨F2, h2, h5, h6, h7, World.ownsRow_nil _ _ _ _, fun g hg => (h8 g hg).2, (fun g e => by cases e), (fun g _ e => by cases e)⟩
theorem bel (h : Pz W w b2 n2 L2 v T u A) : Below W.heap.size W w := by obtain ⟨_, _, _, h, _⟩ := h; exact h
theorem row (h : Pz W w b2 n2 L2 v T u A) : w.ownsRow W.heap.size 32 2 v T.length (fcL T) := by obtain ⟨_, _, _, _, h, _⟩ := h; exact h
theorem rowu (h : Pz W w b2 n2 L2 v T u A) : w.ownsRow W.heap.size 32 2 u A.length (fcL A) := by obtain ⟨_, _, _, _, _, h, _⟩ := h; exact h
theorem ok (h : Pz W w b2 n2 L2 v T u A) : ∀ x, x ∈ L2 → Ok n2 x := by obtain ⟨_, h, _⟩ := h; exact h.ok
theorem le (h : Pz W w b2 n2 L2 v T u A) : n2 ≤ 1099511627776 := by obtain ⟨_, h, _⟩ := h; exact h.1
theorem below (h : Pz W w b2 n2 L2 v T u A) (k : Below w.heap.size w w') : Pz W w' b2 n2 L2 v T u A := by
  obtain ⟨F2, h2, h5, h6, h7, h8, h9⟩ := h
  exact ⟨F2, h2.below k, h5, h6.trans (k.mono h6.size), (Kept.of_below (F := No) k).owns h7 (fun _ _ h => h), (Kept.of_below (F := No) k).owns h8 (fun _ _ h => h), h9⟩
theorem drewN (h : Pz W w b2 n2 L2 v T u A) (q : Nat) : Pz W (w.drewN q) b2 n2 L2 v T u A := h.below ⟨rfl, rfl, rfl, Nat.le_refl _, fun _ _ => rfl⟩
theorem now2 (h : Pz W w b2 n2 L2 v T u A) : Calls Try.prog 14 #[.pointer (some ⟨b2, 0, none⟩)] w fun ex w' => ex = .returned (.int .i64 n2) ∧ w' = w := by
  obtain ⟨F2, h2, _⟩ := h
  exact now_wh h2
theorem next2 (h : Pz W w b2 n2 L2 v T u A) : Calls Try.prog 16 #[.pointer (some ⟨b2, 0, none⟩)] w fun ex w' => ex = .returned (.tuple #[.int .i64 ((L2.head?.map Fi.t).getD 0), .bool L2.head?.isSome]) ∧ Pz W w' b2 n2 L2 v T u A := by
  have hh := h
  obtain ⟨F2, h2, _⟩ := h
  refine (next_wh h2).mono ?_
  rintro ex w' ⟨rfl, hb⟩
  exact ⟨rfl, hh.below hb⟩
/-- it goes on: what it tells now is apart from all the others -/
theorem adv2 (h : Pz W w b2 n2 L2 v T u A) (tg : Nat) (hle : n2 ≤ tg) (htg : tg ≤ 1099511627776) : Calls Try.prog 12 #[.pointer (some ⟨b2, 0, none⟩), .int .i64 tg] w fun ex w' => ∃ m D L', ex = .returned (.tuple #[m, .int .i64 0]) ∧ L2 = D ++ L' ∧ (∀ x, x ∈ D → x.t ≤ tg) ∧ (∀ x, x ∈ L' → (tg : Int) < x.t) ∧ w'.ownsRow 0 32 2 m D.length (fcL D) ∧ Pz W w' b2 tg L' v T u A := by
  obtain ⟨F2, h2, h5, h6, h7, h8, h9, h10, h11⟩ := h
  have hs := h6.size
  refine (advance_yes sortSpec h2 tg hle htg).mono ?_
  rintro ex w' ⟨m, rfl, F', D, L', e, q1, q2, q3, q4, q5, q6, q7⟩
  refine ⟨m, D, L', rfl, e, q1, q2, owns_base q3 (Nat.zero_le _), F', q4, fun k hk => ?_, h6.trans (q5.below (fun k hk => h5 k hk) hs), q5.owns h7 (fun g hg hf => h9 g hg hf), q5.owns h8 (fun g hg hf => h10 g hg hf), fun g hg hf => ?_, fun g hg hf => ?_, h11⟩
  · rcases q6 k hk with h | h
    · exact h5 k h
    · omega
  · rcases q6 g hf with h | h
    · exact h9 g hg h
    · have := (h7.lt g hg).2; omega
  · rcases q6 g hf with h | h
    · exact h10 g hg h
    · have := (h8.lt g hg).2; omega
/-- what it told is put behind what it had told -/
theorem put (h : Pz W w b2 n2 L2 v T u A) {D : List Fi} {u' : Value} (h1 : w'.ownsRow W.heap.size 32 2 u' (A ++ D).length (fcL (A ++ D))) (h2 : Kept (fun b => u.ownBlock = some b) w w') (h3 : u'.ownBlock = u.ownBlock ∨ ∃ b, u'.ownBlock = some b ∧ w.heap.size ≤ b) : Pz W w' b2 n2 L2 v T u' (A ++ D) := by
  obtain ⟨F2, g2, h5, h6, h7, h8, h9, h10, h11⟩ := h
  have hs := h6.size
  refine ⟨fun k => F2 k ∧ k < w.heap.size, g2.bound.kept h2 (fun j hj e => h10 j e hj.1), fun k hk => h5 k hk.1, h6.trans (h2.below (fun k hk => (h8.lt k hk).1) hs), h2.owns h7 (fun g hg e => h11 g hg e), h1, fun g hg hf => h9 g hg hf.1, fun g hg hf => ?_, fun g hg e => ?_⟩
  · rcases h3 with h3 | ⟨b, h3, h4⟩
    · exact h10 g (h3 ▸ hg) hf.1
    · rw [h3] at hg; injection hg with hg; subst hg; have := hf.2; omega
  · rcases h3 with h3 | ⟨b, h3, h4⟩
    · exact h11 g hg (h3 ▸ e)
    · rw [h3] at e; injection e with e; subst e; have := (h7.lt _ hg).2; omega
end Pz
/-- 'append' of a row of timers onto an own one; either may be nil -/
theorem wl_app2 {w : World} {ops : Array Oper} {rest : List Oper} {o : Oper} {a : Act} {Q : Exit → Act → World → Prop} (hgd : o.guard = none) (s x : Operand)
    (ho : o.op = .call { callee := .builtin .append, args := #[s, x], argTypes := #[22, 22] }) (B : Nat) (u m : Value) (A D : List Fi) (hs : a.eval s = u) (hT : w.ownsRow B 32 2 u A.length (fcL A)) (hx : a.eval x = m) (hA : w.ownsRow 0 32 2 m D.length (fcL D)) (hB : B ≤ w.heap.size) (hn : A.length + D.length ≤ 1000000)
    (h : ∀ v' w', Hid (w'.ownsRow B 32 2 v' (A ++ D).length (fcL (A ++ D))) → Hid (Kept (fun b => u.ownBlock = some b) w w') → Hid (v'.ownBlock = u.ownBlock ∨ ∃ b, v'.ownBlock = some b ∧ w.heap.size ≤ b) → wpList Try.prog ops Q rest (a.put o.dst v') w') : wpList Try.prog ops Q (o :: rest) a w := by
  obtain ⟨i0, hi, hz0, hz1, hz2⟩ := info_parts info32
  rcases owns_cells2 hA with ⟨rfl, e0, rfl⟩ | ⟨g, cap, rfl, _⟩
  · refine wpList_append_own_none hgd s x 22 ho B 32 i0 2 Try.underlying22 hi u A.length (fcL A) hs hT hx ?_
    refine h u w ?_ (Kept.refl _ w) (.inl rfl)
    show w.ownsRow B 32 2 u (A ++ []).length (fcL (A ++ []))
    rw [List.append_nil]
    exact hT
  · obtain ⟨v', w', hr, h2, h3, h4, h5⟩ := run_append_own_at (P := Try.prog) (w := w) B 22 o.type 32 i0 (.agg #[.int .i64 0, .int .i64 0]) 2 16 Try.underlying22 hi hz0 hz1 hz2 rfl (by decide) u A.length (fcL A) hT ⟨g, 0, none⟩ D.length cap (fcL D) (by rw [fcL_length]) (hA.cells (g := g) rfl) (fcL_one D) (by unfold maxLen; omega) (by omega) hB
    refine wpList_plain hgd fun K hK => ?_
    unfold Oper.wp execOp
    simp only [ho, resolve, invoke, builtin, Sem.run_bind, Sem.run_pure, Result.andThen_ok, List.map_toArray, List.map_cons, List.map_nil, hs, hx, hr]
    refine hK _ _ (h v' w' ?_ ?_ ?_)
    · show w'.ownsRow B 32 2 v' (A ++ D).length (fcL (A ++ D))
      rw [List.length_append, fcL_append]
      exact h2
    · exact (Kept.refl _ w).grown h3 (fun k e => .inl e)
    · rcases h5 with h5 | h5
      · exact .inl h5
      · exact .inr ⟨_, h5, Nat.le_refl _⟩

end Go.Proofs.Ytdojmmnojpeklaa
