/-
  Events: what all walks stand on.
-/
import Derived.Test.YtjhhldgbllbbhaaGreatDoorVDat
import Derived.WalkKit
namespace Go.Proofs.YtjhhldgbllbbhaaGreatDoor
open Go.RowKit
set_option linter.unusedVariables false
set_option linter.unusedSimpArgs false
set_option maxRecDepth 100000

theorem wpList_apB {w : World} {ops : Array Oper} {rest : List Oper} {o : Oper} {a : Act} {Q : Exit → Act → World → Prop} (hgd : o.guard = none) (s x : Operand) (t e : TypeId)
    (ho : o.op = .call { callee := .builtin .append, args := #[s, x], argTypes := #[t, t] }) (B : Nat) (z : Value) (size bytes : Nat) (ht : Tryz.prog.underlying t = some (.slice e)) (hi : (Tryz.prog.info? e).map (fun i => (i.zero, i.size, i.bytes)) = some (some z, size, bytes)) (hzs : z.cells.size = size) (hsz : 0 < size)
    (v : Value) (n : Nat) (us : List Value) (hs : a.eval s = v) (hv : w.ownsRow B e size v n us) (hB : B ≤ w.heap.size) (ad : Addr) (m c : Nat) (news : List Value) (hx : a.eval x = .slice (some ad) m c) (hl : news.length = m * size) (hnews : ∀ j u, news[j]? = some u → w.cell? (ad.add j) = some u) (h1 : ∀ u ∈ news, u.oneCell' = true) (hm : 1 ≤ m) (hn : n + m ≤ 9007199254740992) (hb : (n + m) * bytes ≤ 140737488355328)
    (h : ∀ g yc w', Hid (w'.ownsRow B e size (.slice (some ⟨g, 0, none⟩) (n + m) yc) (n + m) (us ++ news)) → Hid (Kept (fun k => v.ownBlock = some k) w w') → wpList Tryz.prog ops Q rest (a.put o.dst (.slice (some ⟨g, 0, none⟩) (n + m) yc)) w') : wpList Tryz.prog ops Q (o :: rest) a w := by
  obtain ⟨i0, hi, hz0, hz1, hz2⟩ := info_parts hi
  refine wpList_append_own _ hgd s x t ho B e i0 z size bytes ht hi hz0 hz1 hz2 hzs hsz v n us hs hv ad m c news hx hl hnews h1 (by unfold maxLen; omega) hb hB ?_
  intro v' w' own1 grow1 _
  obtain ⟨ya, yn, yc, rfl⟩ := own_slice own1
  obtain ⟨g, rfl, rfl⟩ : ∃ g, ya = some ⟨g, 0, none⟩ ∧ yn = n + m := by
    rcases own1.2 with ⟨h2, h3⟩ | ⟨g, cap, cur, h2, _⟩
    · omega
    · injection h2 with h2 h3 _; exact ⟨g, h2, h3⟩
  exact h g yc w' own1 (Kept.grown (Kept.refl _ _) grow1 (fun k e => .inl e))
def R7 (k0 k1 k2 k3 k4 k5 : Int) (v : Value) : Array Value := #[.int .i64 k0, .int .i64 k1, .int .i64 k2, .int .i64 k3, .int .i64 k4, .int .i64 k5, v]
theorem take_snoc {α : Type} {l : List α} {i : Nat} {x : α} (h : l[i]? = some x) : l.take (i + 1) = l.take i ++ [x] := by
  obtain ⟨hi, rfl⟩ := List.getElem?_eq_some_iff.1 h
  rw [List.take_succ_eq_append_getElem hi]
section
variable {w : World} {a : Act} {o : Oper}
theorem er_not (x : Operand) (ho : o.op = .unOp .not 4 x) (u : Bool) (hx : a.eval x = .bool u) : (execOp a.eval o).run Tryz.prog w = .ok (.value (.bool (!u))) w := by
  simp only [execOp, ho, hx]; simp [go_sem]
theorem er_ixW (x y : Operand) (ho : o.op = .indexAddr 23 x y) (g q i n c : Nat) (hx : a.eval x = .slice (some ⟨g, q, none⟩) n c) (hy : a.eval y = .int .i64 (i : Int)) (hi : i < n) : (execOp a.eval o).run Tryz.prog w = .ok (.value (.pointer (some ⟨g, q + i, none⟩))) w := by
  simp only [execOp, ho, hx, hy]
  simp [go_sem, add_none, hi]
theorem er_ldw (x : Operand) (ho : o.op = .load 2 x) (g off : Nat) (v : Value) (hx : a.eval x = .pointer (some ⟨g, off, none⟩)) (hr : w.cell? ⟨g, off, none⟩ = some v) : (execOp a.eval o).run Tryz.prog w = .ok (.value v) w := by
  simp only [execOp, ho, hx]; simp [go_sem, hr]
theorem er_neW2 (x y : Operand) (ho : o.op = .binOp .neq 2 x y 2) (u v : Int) (c : Bool) (hx : a.eval x = .int .i64 u) (hy : a.eval y = .int .i64 v) (hc : (u != v) = c) : (execOp a.eval o).run Tryz.prog w = .ok (.value (.bool c)) w := by
  subst hc
  simp only [execOp, ho, hx, hy]; simp [go_sem]
end
theorem getD_eq {xs ys : List Int} (hl : xs.length = ys.length) (h : ∀ i, i < xs.length → xs.getD i 0 = ys.getD i 0) : xs = ys := by
  apply List.ext_getElem hl
  intro i h1 h2
  have := h i h1
  simpa [List.getD, h1, h2] using this

/-- areOne: what stands in its two boxes -/
theorem one_boxes {F G : Nat → Prop} {x y : Ev} {da ea : Option Addr} {dc ec : Nat} (w : World) (hx : Ir w F x da dc) (hy : Ir w G y ea ec) : ∃ w2, w2 = (w.alloc (.cells #[.int .i64 x.tk, .int .i64 x.pt, .int .i64 x.kd, .int .i64 x.pr, .int .i64 x.ea, .int .i64 x.eb, .slice da x.d.length dc] 25)).alloc (.cells #[.int .i64 y.tk, .int .i64 y.pt, .int .i64 y.kd, .int .i64 y.pr, .int .i64 y.ea, .int .i64 y.eb, .slice ea y.d.length ec] 25) ∧ Kept No w w2 ∧ Ir w2 F x da dc ∧ Ir w2 G y ea ec ∧ w2.heap[w.heap.size]? = some (.cells #[.int .i64 x.tk, .int .i64 x.pt, .int .i64 x.kd, .int .i64 x.pr, .int .i64 x.ea, .int .i64 x.eb, .slice da x.d.length dc] 25) ∧ w2.heap[w.heap.size + 1]? = some (.cells #[.int .i64 y.tk, .int .i64 y.pt, .int .i64 y.kd, .int .i64 y.pr, .int .i64 y.ea, .int .i64 y.eb, .slice ea y.d.length ec] 25) := by
  refine ⟨_, rfl, ?_⟩
  have K1 : Kept No w ((w.alloc (.cells #[.int .i64 x.tk, .int .i64 x.pt, .int .i64 x.kd, .int .i64 x.pr, .int .i64 x.ea, .int .i64 x.eb, .slice da x.d.length dc] 25)).alloc (.cells #[.int .i64 y.tk, .int .i64 y.pt, .int .i64 y.kd, .int .i64 y.pr, .int .i64 y.ea, .int .i64 y.eb, .slice ea y.d.length ec] 25)) := ((Kept.refl No w).alloc _).alloc _
  refine ⟨K1, hx.keep K1, hy.keep K1, ((Kept.refl No _).alloc _).at' (alloc_new w _) (fun e => e), ?_⟩
  have := alloc_new (w.alloc (.cells #[.int .i64 x.tk, .int .i64 x.pt, .int .i64 x.kd, .int .i64 x.pr, .int .i64 x.ea, .int .i64 x.eb, .slice da x.d.length dc] 25)) (.cells #[.int .i64 y.tk, .int .i64 y.pt, .int .i64 y.kd, .int .i64 y.pr, .int .i64 y.ea, .int .i64 y.eb, .slice ea y.d.length ec] 25)
  rw [World.size_alloc] at this
  exact this
end Go.Proofs.YtjhhldgbllbbhaaGreatDoor
