/-
  port: copyOf; append onto a line.
-/
import Derived.Test.YthebokkogeigoaaPObj
import Derived.WalkMore
import Derived.BigRegion
import Derived.BigQuiet
import Derived.OwnWalk
import Derived.Laws.Rows
import Derived.Deep.DeepCutAuto
import Derived.Deep.RegionWith
import Derived.Laws.AppendOwnNone
namespace Go.Proofs.Ythebokkogeigoaa
open Go.RowKit
set_option linter.unusedVariables false
set_option maxRecDepth 100000

/-- a list that is read, cell by cell -/
structure Vs (w : World) (F : Nat → Prop) (a : Option Addr) (n c : Nat) (us : List Value) : Prop where
  len : us.length = n
  cap : n ≤ c
  max : c ≤ 9223372036854775807
  nil : a = none → c = 0
  at' : ∀ (i : Nat) u, us[i]? = some u → ∃ b o, a = some ⟨b, o, none⟩ ∧ F b ∧ w.cell? ⟨b, o + i, none⟩ = some u
theorem Vs.kept {w w' : World} {F G : Nat → Prop} {a : Option Addr} {n c : Nat} {us : List Value} (h : Vs w F a n c us) (k : Kept G w w') (hd : ∀ b, F b → ¬ G b) : Vs w' F a n c us :=
  ⟨h.len, h.cap, h.max, h.nil, fun i u hi => by obtain ⟨b, o, e, hb, hc⟩ := h.at' i u hi; exact ⟨b, o, e, hb, k.cell hc (hd b hb)⟩⟩
theorem Zs.vs {w : World} {F : Nat → Prop} {a : Option Addr} {n c : Nat} {xs : List Int} (h : Zs w F a n c xs) : Vs w F a n c (xs.map iv) :=
  ⟨by rw [List.length_map]; exact h.len, h.cap, h.max, h.nil, fun i u hu => by
    have hi : i < xs.length := by have := (List.getElem?_eq_some_iff.1 hu).1; rwa [List.length_map] at this
    obtain ⟨b, o, e, hb, hc⟩ := h.at' i (by rw [← h.len]; exact hi)
    refine ⟨b, o, e, hb, hc.trans ?_⟩
    rw [← hu]
    simp [List.getD, hi]⟩
theorem Vs.of_owns {w : World} {base : Nat} {e : TypeId} {v : Value} {us : List Value} (h : w.ownsRow base e 1 v us.length us) :
    ∃ a c, v = .slice a us.length c ∧ Vs w (fun g => v.ownBlock = some g) a us.length c us := by
  rcases owns_cells h with ⟨rfl, h0⟩ | ⟨g, cap, rfl, hb, hg, hn, hm, hc, hf⟩
  · refine ⟨none, 0, by rw [h0], ⟨rfl, by omega, by omega, fun _ => rfl, fun i u hu => ?_⟩⟩
    have := (List.getElem?_eq_some_iff.1 hu).1
    omega
  · refine ⟨_, cap, rfl, ⟨rfl, hn, hm, fun h => (by cases h), fun i u hu => ⟨g, 0, rfl, rfl, ?_⟩⟩⟩
    rw [Nat.zero_add]
    exact hc i u hu
theorem Vs.of_rc {w : World} {B : Nat} {t : TypeId} {v : Value} {n : Nat} {f : Nat → Nat → Value} (h : Rc w B t 1 v n f) : ∃ a c, v = .slice a n c ∧ Vs w (fun g => v.ownBlock = some g) a n c ((List.range n).map (fun i => f i 0)) := by
  rcases h with ⟨rfl, rfl⟩ | ⟨g, cap, cs, rfl, hb, hg, hn, hm, hc⟩
  · exact ⟨none, 0, rfl, ⟨by simp, by omega, by omega, fun _ => rfl, fun i u hu => by simp at hu⟩⟩
  · refine ⟨_, cap, rfl, ⟨by simp, hn, hm, fun h => (by cases h), fun i u hu => ⟨g, 0, rfl, rfl, ?_⟩⟩⟩
    have hi : i < n := by have := (List.getElem?_eq_some_iff.1 hu).1; simpa using this
    have := hc i 0 hi (by omega)
    simp [hi] at hu
    rw [Nat.zero_add, ← hu]
    simpa using this
theorem Vs.news {w : World} {F : Nat → Prop} {n c : Nat} {us : List Value} {ad : Addr} (h : Vs w F (some ad) n c us) : ∀ j u, us[j]? = some u → w.cell? (ad.add j) = some u := by
  intro j u hj
  obtain ⟨b, o, e, _, hc⟩ := h.at' j u hj
  simp only [Option.some.injEq] at e
  subst e
  rw [add_none, hc]
/-- 'append(list, more...)' onto a list with nothing in it -/
theorem wpList_cpv {P : Program} {w : World} {ops : Array Oper} {rest : List Oper} {o : Oper} {a : Act} {Q : Exit → Act → World → Prop} (hgd : o.guard = none) (s x : Operand) (t e : TypeId)
    (ho : o.op = .call { callee := .builtin .append, args := #[s, x], argTypes := #[t, t] }) (z : Value) (bytes : Nat) (ht : P.underlying t = some (.slice e)) (hi : (P.info? e).map (fun i => (i.zero, i.size, i.bytes)) = some (some z, 1, bytes)) (hzs : z.cells.size = 1)
    (B : Nat) (v : Value) (hs : a.eval s = v) (hv : w.ownsRow B e 1 v 0 []) (hB : B ≤ w.heap.size) (xa : Option Addr) (n c : Nat) (hx : a.eval x = .slice xa n c)
    (F : Nat → Prop) (us : List Value) (hz : Vs w F xa n c us) (h1 : ∀ u ∈ us, u.oneCell' = true) (hn : n * bytes ≤ 140737488355328)
    (h : ∀ ya yc w', Hid (w'.ownsRow B e 1 (.slice ya n yc) n us) → Hid (Kept (fun k => v.ownBlock = some k) w w') → wpList P ops Q rest (a.put o.dst (.slice ya n yc)) w') : wpList P ops Q (o :: rest) a w := by
  obtain ⟨i0, hi, hz0, hz1, hz2⟩ := info_parts hi
  cases xa with
  | none =>
    have hc0 := hz.nil rfl
    have hn0 : n = 0 := by have := hz.cap; omega
    have hx0 : us = [] := List.eq_nil_of_length_eq_zero (by rw [hz.len]; exact hn0)
    subst hc0 hn0 hx0
    obtain ⟨va, vn, vc, rfl⟩ := own_slice hv
    have hvn : vn = 0 := by
      rcases owns_cells hv with ⟨h1, _⟩ | ⟨g, cap, h1, _⟩
      · injection h1
      · injection h1
    subst hvn
    refine wpList_append_own_none hgd s x t ho B e i0 1 ht hi _ _ _ hs hv hx ?_
    exact h va vc w hv (Kept.refl _ _)
  | some ad =>
    have hmx := hz.max
    have hcp := hz.cap
    refine wpList_append_own _ hgd s x t ho B e i0 z 1 bytes ht hi hz0 hz1 hz2 hzs (by decide) _ 0 [] hs hv ad n c us hx (by rw [hz.len]; omega) hz.news h1 (by unfold maxLen; omega) (by rw [Nat.zero_add]; exact hn) hB ?_
    intro v1 w1 own1 grow1 _
    rw [Nat.zero_add, List.nil_append] at own1
    obtain ⟨ya, yn, yc, rfl⟩ := own_slice own1
    have hyn : yn = n := by
      rcases owns_cells own1 with ⟨h1, h2⟩ | ⟨g, cap, h1, _⟩
      · injection h1 with _ h3 _; omega
      · injection h1
    subst hyn
    exact h ya yc w1 own1 ((Kept.refl (fun k => v.ownBlock = some k) w).grown grow1 (fun k e => .inl e))
theorem Try.infoW : (Try.prog.info? 2).map (fun i => (i.zero, i.size, i.bytes)) = some (some (.int .i64 0), 1, 8) := by kernel_rfl
theorem Try.infoL : (Try.prog.info? 22).map (fun i => (i.zero, i.size, i.bytes)) = some (some (.slice none 0 0), 1, 24) := by kernel_rfl
theorem words_any {F : Nat → Prop} {a : Option Addr} {n c : Nat} {xs : List Int} (w : World) (hz : Zs w F a n c xs) (hn : n ≤ 17592186044416) :
    Calls Try.prog 31 #[.slice a n c] w fun e w' => ∃ ya yc, e = .returned (.slice ya n yc) ∧ w'.ownsRow w.heap.size 2 1 (.slice ya n yc) n (xs.map iv) ∧ Kept No w w' := by
  have hv := hz.vs
  clear hz
  go_enter Try.func31, Try.ntmps31
  go_wp2_with (at_builtin; refine wpList_cpv rfl _ _ 22 2 rfl _ 8 Try.underlying22 Try.infoW rfl w.heap.size _ rfl (World.ownsRow_nil _ _ _ _) (Nat.le_refl _) _ n c rfl _ _ hv (iv_one xs) (by omega) ?_; intro ya yc w1 o1 k1)
  go_ret
  exact ⟨ya, yc, rfl, o1.out, k1.out.mono (fun k e => by cases e)⟩
/-- append of one thing onto a line -/
theorem wpList_app_q {P : Program} {w : World} {B : Nat} {ops : Array Oper} {rest : List Oper} {o : Oper} {a : Act} {Q : Exit → Act → World → Prop} (hgd : o.guard = none) (s x : Operand) (t e : TypeId)
    (ho : o.op = .call { callee := .builtin .append, args := #[s, x], argTypes := #[t, t] }) (z : Value) (bytes : Nat) (ht : P.underlying t = some (.slice e)) (hi : (P.info? e).map (fun i => (i.zero, i.size, i.bytes)) = some (some z, 1, bytes)) (hzs : z.cells.size = 1)
    {v : Value} {xs : List Value} (hs : a.eval s = v) (q : Qr w B e v xs) (ad : Addr) (c : Nat) (u : Value) (hx : a.eval x = .slice (some ad) 1 c) (hu : w.cell? ad = some u) (h1 : u.oneCell' = true) (hb : (xs.length + 1) * bytes ≤ 140737488355328) (h63 : xs.length + 1 ≤ maxLen) (hB : B ≤ w.heap.size)
    (h : ∀ ya yn yc w', Hid (Qr w' B e (.slice ya yn yc) (xs ++ [u])) → Hid (Kept (fun k => v.ownBlock = some k) w w') → Hid ((Value.slice ya yn yc).ownBlock = v.ownBlock ∨ ∃ k, (Value.slice ya yn yc).ownBlock = some k ∧ w.heap.size ≤ k) → wpList P ops Q rest (a.put o.dst (.slice ya yn yc)) w') : wpList P ops Q (o :: rest) a w := by
  obtain ⟨i0, hi, hz0, hz1, hz2⟩ := info_parts hi
  obtain ⟨v', w', hr, q', k', l'⟩ := run_append_q (P := P) (w := w) t o.type e i0 z bytes ht hi hz0 hz1 hz2 hzs q ad c u hu h1 h63 hb hB
  obtain ⟨ya, yc, rfl, _⟩ := q'.shape
  refine BigFrame.wpList_want (by simp [Region.wanted, hgd]) fun K hK => ?_
  unfold Oper.wp
  have he : (execOp a.eval o).run P w = .ok (.value (.slice ya (xs ++ [u]).length yc)) w' := by
    unfold execOp
    simp only [ho, resolve, invoke, builtin, Sem.run_bind, Sem.run_pure, Result.andThen_ok, List.map_toArray, List.map_cons, List.map_nil, hs, hx, hr]
  rw [he]
  exact hK _ _ (h ya _ yc w' q' k' l')
end Go.Proofs.Ythebokkogeigoaa
