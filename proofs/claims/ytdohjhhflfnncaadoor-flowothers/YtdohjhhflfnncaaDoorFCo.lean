/-
  The law's longer code: append of the code onto nil, and of one instruction more.
-/
import Derived.Test.YtdohjhhflfnncaaDoorFRw
import Derived.Laws.AppendOwnNone
namespace Go.Proofs.YtdohjhhflfnncaaDoor
open Go.RowKit
set_option linter.unusedVariables false
set_option maxRecDepth 100000

theorem Tryd.infoI5 : (Tryd.prog.info? 45).map (fun i => (i.zero, i.size, i.bytes)) = some (some (.agg #[.int .u8 0, .int .u8 0, .int .u8 0, .int .u8 0, .int .i32 0]), 5, 8) := by kernel_rfl
theorem wpList_appI0 {F : Nat → Prop} {w : World} {ops : Array Oper} {rest : List Oper} {o : Oper} {a : Act} {Q : Exit → Act → World → Prop} (hgd : o.guard = none) (s x : Operand)
    (ho : o.op = .call { callee := .builtin .append, args := #[s, x], argTypes := #[30, 30] }) (hs : a.eval s = .slice none 0 0) (pa : Option Addr) (n c : Nat) (xs : List Ins) (hx : a.eval x = .slice pa n c) (hL : Ls 5 elIns w F pa n c xs) (hn : n * 8 ≤ 140737488355328)
    (h : ∀ ya yc us w', Hid (w'.ownsRow w.heap.size 45 5 (.slice ya n yc) n us) → Hid (Kept No w w') → wpList Tryd.prog ops Q rest (a.put o.dst (.slice ya n yc)) w') : wpList Tryd.prog ops Q (o :: rest) a w := by
  obtain ⟨i0, hi, hz0, hz1, hz2⟩ := info_parts Tryd.infoI5
  cases pa with
  | none =>
    have hc := hL.nil rfl
    have := hL.cap
    have hn0 : n = 0 := by omega
    subst hc hn0
    exact wpList_append_own_none (P := Tryd.prog) hgd s x 30 ho w.heap.size 45 i0 5 Tryd.underlying30 hi (.slice none 0 0) 0 [] hs (World.ownsRow_nil _ _ _ _) hx (h none 0 [] w (World.ownsRow_nil _ _ _ _) (Kept.refl _ _))
  | some ad =>
    have HCS : ∃ CS : List (List Value), CS.length = n ∧ (∀ c ∈ CS, c.length = 5) ∧ (∀ c ∈ CS, ∀ u ∈ c, u.oneCell' = true) ∧ ∀ i cs, CS[i]? = some cs → ∃ b o, ad = ⟨b, o, none⟩ ∧ w.rangeAt b (o + i * 5) cs := by
      refine ⟨xs.map (fun x => [.int .u8 x.op, .int .u8 x.a, .int .u8 x.b, .int .u8 x.c, .int .i32 x.imm]), by rw [List.length_map, hL.len], fun c hc => ?_, fun c hc u hu => ?_, fun i cs hc => ?_⟩
      · obtain ⟨y, _, rfl⟩ := List.mem_map.1 hc
        rfl
      · obtain ⟨y, _, rfl⟩ := List.mem_map.1 hc
        simp at hu
        rcases hu with rfl | rfl | rfl | rfl | rfl <;> rfl
      · rw [List.getElem?_map] at hc
        obtain ⟨y, hy, rfl⟩ := Option.map_eq_some_iff.1 hc
        obtain ⟨b, o, cs, e, _, _, hr, ⟨rfl, _⟩⟩ := hL.at' i y hy
        injection e with e
        exact ⟨b, o, e, hr⟩
    obtain ⟨CS, hlen, hl, h1, hat⟩ := HCS
    have hnews : ∀ j u, CS.flatten[j]? = some u → w.cell? (ad.add j) = some u := fun j u hu => by
      obtain ⟨i, k, cs, rfl, h1, h2⟩ := flat_of hl (by decide) hu
      obtain ⟨b, o, rfl, hr⟩ := hat i cs h1
      rw [add_none]
      have := hr k u h2
      rw [Nat.add_assoc] at this
      exact this
    have h1' : ∀ u ∈ CS.flatten, u.oneCell' = true := fun u hu => by
      obtain ⟨cs, hc, hu⟩ := List.mem_flatten.1 hu
      exact h1 cs hc u hu
    obtain ⟨v', w', hr, own1, grow1, _⟩ := run_append_own (P := Tryd.prog) w w.heap.size 30 o.type 45 i0 _ 5 8 Tryd.underlying30 hi hz0 hz1 hz2 rfl (by decide) (.slice none 0 0) 0 [] (World.ownsRow_nil _ _ _ _) ad n c CS.flatten (by rw [flat_len hl, hlen]) hnews h1' (by unfold maxLen; omega) (by omega) (Nat.le_refl _)
    rw [Nat.zero_add, List.nil_append] at own1
    obtain ⟨ya, yn, yc, rfl⟩ := own_slice own1
    have hyn : yn = n := by
      obtain ⟨_, ⟨h3, h2⟩ | ⟨g, cap, cur, h2, _⟩⟩ := own1
      · injection h3 with _ h3; omega
      · injection h2
    subst hyn
    refine BigFrame.wpList_want (by simp [Region.wanted, hgd]) fun K hK => ?_
    unfold Oper.wp
    have he : (execOp a.eval o).run Tryd.prog w = .ok (.value (.slice ya yn yc)) w' := by
      unfold execOp
      simp only [ho, resolve, invoke, builtin, Sem.run_bind, Sem.run_pure, Result.andThen_ok, List.map_toArray, List.map_cons, List.map_nil, hs, hx, hr]
    rw [he]
    exact hK _ _ (h ya yc _ w' own1 ((Kept.refl No w).grown grow1 (fun k e => (by cases e))))
theorem wpList_appI1 {w : World} {ops : Array Oper} {rest : List Oper} {o : Oper} {a : Act} {Q : Exit → Act → World → Prop} (hgd : o.guard = none) (s x : Operand)
    (ho : o.op = .call { callee := .builtin .append, args := #[s, x], argTypes := #[30, 30] }) (B : Nat) (v : Value) (n : Nat) (us : List Value) (hs : a.eval s = v) (hv : w.ownsRow B 45 5 v n us) (hB : B ≤ w.heap.size) (A : Array Value) (ad : Addr) (hx : a.eval x = .slice (some ad) 1 1) (hA : A.size = 5)
    (hnews : ∀ j u, A.toList[j]? = some u → w.cell? (ad.add j) = some u) (h1 : ∀ u ∈ A.toList, u.oneCell' = true) (hn : (n + 1) * 8 ≤ 140737488355328)
    (h : ∀ ya yc w', Hid (Kept (fun k => v.ownBlock = some k) w w') → wpList Tryd.prog ops Q rest (a.put o.dst (.slice ya (n + 1) yc)) w') : wpList Tryd.prog ops Q (o :: rest) a w := by
  obtain ⟨i0, hi, hz0, hz1, hz2⟩ := info_parts Tryd.infoI5
  obtain ⟨v', w', hr, own1, grow1, _⟩ := run_append_own (P := Tryd.prog) w B 30 o.type 45 i0 _ 5 8 Tryd.underlying30 hi hz0 hz1 hz2 rfl (by decide) v n us hv ad 1 1 A.toList (by simp [hA]) hnews h1 (by unfold maxLen; omega) (by omega) hB
  obtain ⟨ya, yn, yc, rfl⟩ := own_slice own1
  have hyn : yn = n + 1 := by
    obtain ⟨_, ⟨_, h2⟩ | ⟨g, cap, cur, h2, _⟩⟩ := own1
    · omega
    · injection h2
  subst hyn
  refine BigFrame.wpList_want (by simp [Region.wanted, hgd]) fun K hK => ?_
  unfold Oper.wp
  have he : (execOp a.eval o).run Tryd.prog w = .ok (.value (.slice ya (n + 1) yc)) w' := by
    unfold execOp
    simp only [ho, resolve, invoke, builtin, Sem.run_bind, Sem.run_pure, Result.andThen_ok, List.map_toArray, List.map_cons, List.map_nil, hs, hx, hr]
  rw [he]
  exact hK _ _ (h ya yc w' (Kept.grown (Kept.refl (fun k => v.ownBlock = some k) w) grow1 (fun k e => .inl e)))
end Go.Proofs.YtdohjhhflfnncaaDoor
