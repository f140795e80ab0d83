/-
  Events in memory: lists that are read, lists that are made.
-/
import Derived.Test.YtjhhldgbllbbhaaGreatDoorIBase
import Derived.Test.YtjhhldgbllbbhaaGreatDoorVPl
namespace Go.Proofs.YtjhhldgbllbbhaaGreatDoor
open Go.RowKit
set_option linter.unusedVariables false
set_option linter.unusedSimpArgs false
set_option maxRecDepth 100000

def An : Nat → Prop := fun _ => True
def T6 (x : Int) : Prop := -9223372036854775808 ≤ x ∧ x ≤ 9223372036854775807
def Ev.val (x : Ev) (da : Option Addr) (dc : Nat) : Array Value := #[.int .i64 x.tk, .int .i64 x.pt, .int .i64 x.kd, .int .i64 x.pr, .int .i64 x.ea, .int .i64 x.eb, .slice da x.d.length dc]
theorem Ev.val_one (x : Ev) (da : Option Addr) (dc : Nat) : (x.val da dc).all (·.oneCell') = true := by simp [Ev.val, Value.oneCell']
/-- one that is read -/
structure Ir (w : World) (F : Nat → Prop) (x : Ev) (da : Option Addr) (dc : Nat) : Prop where
  zs : Zs w F da x.d.length dc x.d
  sm : x.d.length ≤ 17592186044416
  t6 : T6 x.tk
theorem Ir.kept {w w' : World} {F G : Nat → Prop} {x : Ev} {da : Option Addr} {dc : Nat} (h : Ir w F x da dc) (K : Kept G w w') (hd : ∀ b, F b → ¬ G b) : Ir w' F x da dc := ⟨h.zs.kept K hd, h.sm, h.t6⟩
theorem Ir.keep {w w' : World} {F : Nat → Prop} {x : Ev} {da : Option Addr} {dc : Nat} (h : Ir w F x da dc) (K : Kept No w w') : Ir w' F x da dc := h.kept K (fun _ _ e => e)
theorem Ir.mono {w : World} {F G : Nat → Prop} {x : Ev} {da : Option Addr} {dc : Nat} (h : Ir w F x da dc) (hF : ∀ k, F k → G k) : Ir w G x da dc := ⟨h.zs.mono hF, h.sm, h.t6⟩
theorem Ir.any {w : World} {F : Nat → Prop} {x : Ev} {da : Option Addr} {dc : Nat} (h : Ir w F x da dc) : Ir w An x da dc := h.mono (fun _ _ => trivial)
/-- a list that is read -/
structure Il (w : World) (F : Nat → Prop) (a : Option Addr) (n c : Nat) (xs : List Ev) : Prop where
  len : xs.length = n
  cap : n ≤ c
  max : c ≤ 9223372036854775807
  at' : ∀ i x, xs[i]? = some x → ∃ b o da dc, a = some ⟨b, o, none⟩ ∧ F b ∧ (∀ j v, (x.val da dc).toList[j]? = some v → w.cell? ⟨b, o + i * 7 + j, none⟩ = some v) ∧ Ir w F x da dc
theorem Il.kept {w w' : World} {F G : Nat → Prop} {a : Option Addr} {n c : Nat} {xs : List Ev} (h : Il w F a n c xs) (K : Kept G w w') (hd : ∀ b, F b → ¬ G b) : Il w' F a n c xs :=
  ⟨h.len, h.cap, h.max, fun i x hx => by obtain ⟨b, o, da, dc, e, hb, hc, hr⟩ := h.at' i x hx; exact ⟨b, o, da, dc, e, hb, fun j v hv => K.cell (hc j v hv) (hd b hb), hr.kept K hd⟩⟩
theorem Il.keep {w w' : World} {F : Nat → Prop} {a : Option Addr} {n c : Nat} {xs : List Ev} (h : Il w F a n c xs) (K : Kept No w w') : Il w' F a n c xs := h.kept K (fun _ _ e => e)
theorem Il.mono {w : World} {F G : Nat → Prop} {a : Option Addr} {n c : Nat} {xs : List Ev} (h : Il w F a n c xs) (hF : ∀ k, F k → G k) : Il w G a n c xs :=
  ⟨h.len, h.cap, h.max, fun i x hx => by obtain ⟨b, o, da, dc, e, hb, hc, hr⟩ := h.at' i x hx; exact ⟨b, o, da, dc, e, hF b hb, hc, hr.mono hF⟩⟩
theorem Il.any {w : World} {F : Nat → Prop} {a : Option Addr} {n c : Nat} {xs : List Ev} (h : Il w F a n c xs) : Il w An a n c xs := h.mono (fun _ _ => trivial)
theorem Il.nil (w : World) (F : Nat → Prop) (a : Option Addr) {c : Nat} (h : c ≤ 9223372036854775807) : Il w F a 0 c [] := ⟨rfl, Nat.zero_le _, h, fun i x hx => by cases hx⟩
theorem Zs.low {w : World} {F : Nat → Prop} {a : Option Addr} {n c : Nat} {xs : List Int} (h : Zs w F a n c xs) : Zs w (fun k => k < w.heap.size) a n c xs :=
  ⟨h.len, h.cap, h.max, h.nil, fun i hi => by obtain ⟨b, o, e, hb, hc⟩ := h.at' i hi; exact ⟨b, o, e, cell_lt hc, hc⟩⟩
theorem Il.low {w : World} {F : Nat → Prop} {a : Option Addr} {n c : Nat} {xs : List Ev} (h : Il w F a n c xs) : Il w (fun k => k < w.heap.size) a n c xs :=
  ⟨h.len, h.cap, h.max, fun i x hx => by obtain ⟨b, o, da, dc, e, hb, hc, hr⟩ := h.at' i x hx; exact ⟨b, o, da, dc, e, cell_lt (hc 0 _ rfl), hc, hr.zs.low, hr.sm, hr.t6⟩⟩
theorem Il.t6 {w : World} {F : Nat → Prop} {a : Option Addr} {n c : Nat} {xs : List Ev} (h : Il w F a n c xs) : ∀ x ∈ xs, T6 x.tk := fun x hx => by
  obtain ⟨i, hi⟩ := List.getElem?_of_mem hx
  obtain ⟨b, o, da, dc, _, _, _, hr⟩ := h.at' i x hi
  exact hr.t6
/-- the first one -/
theorem Il.head {w : World} {F : Nat → Prop} {a : Option Addr} {n c : Nat} {x : Ev} {xs : List Ev} (h : Il w F a n c (x :: xs)) : ∃ b o da dc, a = some ⟨b, o, none⟩ ∧ F b ∧ (∀ j v, (x.val da dc).toList[j]? = some v → w.cell? ⟨b, o + j, none⟩ = some v) ∧ Ir w F x da dc := by
  obtain ⟨b, o, da, dc, e, hb, hc, hr⟩ := h.at' 0 x rfl
  refine ⟨b, o, da, dc, e, hb, fun j v hv => ?_, hr⟩
  have := hc j v hv
  rw [Nat.zero_mul, Nat.add_zero] at this
  exact this
/-- without the first -/
theorem Il.tail {w : World} {F : Nat → Prop} {b o n c : Nat} {x : Ev} {xs : List Ev} (h : Il w F (some ⟨b, o, none⟩) n c (x :: xs)) : Il w F (some ⟨b, if c = 1 then o else o + 7, none⟩) (n - 1) (c - 1) xs := by
  have hl := h.len
  have hc := h.cap
  have hm := h.max
  rw [List.length_cons] at hl
  refine ⟨by omega, by omega, by omega, fun i y hy => ?_⟩
  obtain ⟨b', o', da, dc, e, hb, hk, hr⟩ := h.at' (i + 1) y (by simpa using hy)
  injection e with e
  injection e with e1 e2 _
  subst e1 e2
  have hi := (List.getElem?_eq_some_iff.1 hy).1
  refine ⟨b, _, da, dc, rfl, hb, fun j v hv => ?_, hr⟩
  rw [if_neg (by omega), show o + 7 + i * 7 + j = o + (i + 1) * 7 + j by omega]
  exact hk j v hv
/-- old, or words -/
def Fd (w : World) (B k : Nat) : Prop := k < B ∨ ∃ cs fr, w.heap[k]? = some (.cells cs 2 fr)
theorem Fd.kept {w w' : World} {B k : Nat} {G : Nat → Prop} (h : Fd w B k) (K : Kept G w w') (hG : ¬ G k) : Fd w' B k := by
  rcases h with h | ⟨cs, fr, h⟩
  · exact .inl h
  · exact .inr ⟨cs, fr, K.at' h hG⟩
def Z7 : Array Value := #[.int .i64 0, .int .i64 0, .int .i64 0, .int .i64 0, .int .i64 0, .int .i64 0, .slice none 0 0]
/-- a list that is made -/
structure Gj (w : World) (B : Nat) (v : Value) (n : Nat) (xs : List Ev) (As : Nat → Array Value) : Prop where
  len : xs.length = n
  own : w.ownsRow B 25 7 v n (cat (fun i => (As i).toList) n)
  sz : ∀ i, (As i).size = 7
  el : ∀ i x, xs[i]? = some x → ∃ da dc, As i = x.val da dc ∧ Ir w (Fd w B) x da dc
def Gi (w : World) (B : Nat) (v : Value) (n : Nat) (xs : List Ev) : Prop := ∃ As, Gj w B v n xs As
theorem Gi.nil (w : World) (B : Nat) : Gi w B (.slice none 0 0) 0 [] := ⟨fun _ => Z7, rfl, World.ownsRow_nil _ _ _ _, fun _ => rfl, fun i x hx => by cases hx⟩
theorem Gj.nb {w : World} {B : Nat} {v : Value} {n : Nat} {xs : List Ev} {As : Nat → Array Value} (h : Gj w B v n xs As) : ∀ k, Fd w B k → ¬ v.ownBlock = some k := fun k hk e => by
  obtain ⟨q1, cs, q2⟩ := owns_blk h.own e
  rcases hk with hk | ⟨cs', fr, hk⟩
  · omega
  · exact absurd (two_tags q2 hk) (by decide)
theorem Gj.keep {w w' : World} {B : Nat} {v : Value} {n : Nat} {xs : List Ev} {As : Nat → Array Value} (h : Gj w B v n xs As) (K : Kept No w w') : Gj w' B v n xs As :=
  ⟨h.len, K.owns h.own (fun _ _ e => e), h.sz, fun i x hx => by obtain ⟨da, dc, e, hr⟩ := h.el i x hx; exact ⟨da, dc, e, (hr.keep K).mono (fun k hk => hk.kept K (fun e => e))⟩⟩
theorem Gi.keep {w w' : World} {B : Nat} {v : Value} {n : Nat} {xs : List Ev} (h : Gi w B v n xs) (K : Kept No w w') : Gi w' B v n xs := by
  obtain ⟨As, h⟩ := h
  exact ⟨As, h.keep K⟩
theorem Gi.shape {w : World} {B : Nat} {v : Value} {n : Nat} {xs : List Ev} (h : Gi w B v n xs) : ∃ a c, v = .slice a n c ∧ n ≤ c ∧ c ≤ 9223372036854775807 := by
  obtain ⟨As, h⟩ := h
  have h2 := h.own
  rcases h2.2 with ⟨h5, h6⟩ | ⟨g, cap, cur, h5, _⟩
  · exact ⟨none, 0, by rw [h5, h6], by omega, by omega⟩
  · rw [h5] at h2
    have := own_cap h2
    exact ⟨_, _, h5, this.1, this.2⟩
theorem Gj.more {w w' : World} {B : Nat} {v v' : Value} {n : Nat} {xs : List Ev} {x : Ev} {da : Option Addr} {dc : Nat} {As : Nat → Array Value} (h : Gj w B v n xs As) (hx : Ir w (Fd w B) x da dc)
    (K : Kept (fun k => v.ownBlock = some k) w w') (own : w'.ownsRow B 25 7 v' (n + 1) (cat (fun i => (As i).toList) n ++ (x.val da dc).toList)) : Gi w' B v' (n + 1) (xs ++ [x]) := by
  have nb := h.nb
  have h1 := h.len
  have up : ∀ {y : Ev} {ya : Option Addr} {yc : Nat}, Ir w (Fd w B) y ya yc → Ir w' (Fd w' B) y ya yc := fun hr => (hr.kept K nb).mono (fun k hk => hk.kept K (nb k hk))
  refine ⟨upd As n (x.val da dc), by rw [List.length_append, h1]; rfl, ?_, fun i => ?_, fun i y hy => ?_⟩
  · rw [cat, upd_same, cat_congr (g := fun i => (As i).toList) n (fun i hi => by rw [upd_oth _ _ (by omega)])]
    exact own
  · by_cases e : i = n
    · subst e; rw [upd_same]; rfl
    · rw [upd_oth _ _ e]; exact h.sz i
  · by_cases hi : i < xs.length
    · rw [List.getElem?_append_left hi] at hy
      obtain ⟨ya, yc, e, hr⟩ := h.el i y hy
      exact ⟨ya, yc, by rw [upd_oth _ _ (by omega)]; exact e, up hr⟩
    · have hl := (List.getElem?_eq_some_iff.1 hy).1
      rw [List.length_append] at hl
      simp at hl
      obtain rfl : i = n := by omega
      rw [List.getElem?_append_right (by omega), h1, Nat.sub_self] at hy
      simp at hy
      subst hy
      exact ⟨da, dc, by rw [upd_same], up hx⟩
theorem Gj.low {w : World} {B : Nat} {v : Value} {n : Nat} {xs : List Ev} {As : Nat → Array Value} (h : Gj w B v n xs As) {k : Nat} (hk : v.ownBlock = some k) : B ≤ k := (owns_blk h.own hk).1
theorem Gi.il {w : World} {B : Nat} {a : Option Addr} {n c : Nat} {xs : List Ev} (h : Gi w B (.slice a n c) n xs) : Il w An a n c xs := by
  obtain ⟨As, h⟩ := h
  have h1 := h.len
  have h2 := h.own
  have hc := own_cap h2
  refine ⟨h1, hc.1, hc.2, fun i x hx => ?_⟩
  have hi : i < n := by rw [← h1]; exact (List.getElem?_eq_some_iff.1 hx).1
  obtain ⟨g, rfl, _⟩ := (own_some h2).2 (by omega)
  obtain ⟨da, dc, e, hr⟩ := h.el i x hx
  refine ⟨g, 0, da, dc, rfl, trivial, fun j v hv => ?_, hr.any⟩
  have hj : j < 7 := (List.getElem?_eq_some_iff.1 hv).1
  rw [Nat.zero_add]
  refine own_cell h2 ?_
  rw [cat_at (f := fun i => (As i).toList) (s := 7) (fun i => by rw [Array.length_toList]; exact h.sz i) n i j hi hj, e]
  exact hv
theorem Gi.il' {w : World} {B : Nat} {v : Value} {n : Nat} {xs : List Ev} (h : Gi w B v n xs) : ∃ a c, v = .slice a n c ∧ Il w An a n c xs := by
  obtain ⟨a, c, rfl, _⟩ := h.shape
  exact ⟨a, c, rfl, h.il⟩
theorem Tryz.infoW : (Tryz.prog.info? 2).map (fun i => (i.zero, i.size, i.bytes)) = some (some (.int .i64 0), 1, 8) := by kernel_rfl
theorem Tryz.infoI : (Tryz.prog.info? 25).map (fun i => (i.zero, i.size, i.bytes)) = some (some (.agg Z7), 7, 72) := by kernel_rfl
theorem Tryz.infoI4 : (Tryz.prog.info? 25).map (·.size) = some 7 := by kernel_rfl
theorem fill_I (x : Ev) (da : Option Addr) (dc : Nat) : Instr.fill (fun i => some (i * 7, 7)) ((Array.range (1 * 7)).map ((Value.agg Z7).cells[· % (Value.agg Z7).cells.size]!)) [(0, .agg (x.val da dc))] = some (x.val da dc) := by kernel_rfl
theorem ldI {w : World} {b o : Nat} {x : Ev} {da : Option Addr} {dc : Nat} (h : ∀ j v, (x.val da dc).toList[j]? = some v → w.cell? ⟨b, o + j, none⟩ = some v) : (Instr.loadAt 25 (.pointer (some ⟨b, o, none⟩))).run Tryz.prog w = .ok (.agg (x.val da dc)) w := ldSt 25 _ _ h Tryz.underlying25 rfl Tryz.infoI4
section
variable {w : World} {a : Act} {o : Oper}
theorem er_alI (ho : o.op = .alloc 25) : (execOp a.eval o).run Tryz.prog w = .ok (.value (.pointer (some ⟨w.heap.size, 0, none⟩))) (w.alloc (.cells Z7 25)) := by
  simp only [execOp, ho]
  simp [go_sem]
  rfl
theorem er_stI (x y : Operand) (ho : o.op = .store 25 x y) (g : Nat) (A old : Array Value) (hx : a.eval x = .pointer (some ⟨g, 0, none⟩)) (hy : a.eval y = .agg A) (hg : w.heap[g]? = some (.cells old 25 (0, 0))) (hA : A.size = 7) (h5 : old.size = 7) (h1 : A.all (·.oneCell') = true) : (execOp a.eval o).run Tryz.prog w = .ok .skip (w.setRow g A) := by
  simp only [execOp, ho, hx, hy, Instr.storeAt, Instr.sureAddr, Sem.run_bind, Sem.run_pure, Result.andThen_ok, run_storeVar_row (P := Tryz.prog) w g 25 25 old A hg (by rw [hA]; kernel_rfl) (by rw [hA, h5]) h1]
theorem er_ixN (x y : Operand) (ho : o.op = .indexAddr 22 x y) (g q i n c : Nat) (hx : a.eval x = .slice (some ⟨g, q, none⟩) n c) (hy : a.eval y = .int .i64 (i : Int)) (hi : i < n) : (execOp a.eval o).run Tryz.prog w = .ok (.value (.pointer (some ⟨g, q + i * 7, none⟩))) w := by
  simp only [execOp, ho, hx, hy]
  simp [go_sem, add_none, hi]
theorem er_ix0 (x : Operand) (ho : o.op = .indexAddr 22 x (.const (.int .i64 0))) (g q n c : Nat) (hx : a.eval x = .slice (some ⟨g, q, none⟩) n c) (hi : 0 < n) : (execOp a.eval o).run Tryz.prog w = .ok (.value (.pointer (some ⟨g, q, none⟩))) w := by
  simp only [execOp, ho, hx]
  simp [go_sem, add_none, hi]
theorem er_fT (x : Operand) (ho : o.op = .fieldAddr 25 x 0) (g off : Nat) (hx : a.eval x = .pointer (some ⟨g, off, none⟩)) : (execOp a.eval o).run Tryz.prog w = .ok (.value (.pointer (some ⟨g, off, none⟩))) w := by simp only [execOp, ho, hx]; simp [go_sem, add_none]
theorem er_tl (x : Operand) (ho : o.op = .slice 22 x (some (.const (.int .i64 1))) none none) (g q n c : Nat) (hx : a.eval x = .slice (some ⟨g, q, none⟩) n c) (hn : 1 ≤ n) (hc : n ≤ c) : (execOp a.eval o).run Tryz.prog w = .ok (.value (.slice (some ⟨g, if c = 1 then q else q + 7, none⟩) (n - 1) (c - 1))) w := by
  have h1 : (1 : Int) ≤ (n : Int) := by omega
  have h2 : (n : Int) ≤ (c : Int) := by omega
  simp only [execOp, ho, hx, Option.map_some, Option.map_none]
  by_cases e : c = 1
  · subst e
    simp [go_sem, h1, h2, hn, hc, add_none]
  · simp [go_sem, h1, h2, hn, hc, e, add_none]
theorem er_leq (x y : Operand) (ho : o.op = .binOp .leq 3 x y 3) (u v : Int) (c : Bool) (hx : a.eval x = .int .i64 u) (hy : a.eval y = .int .i64 v) (hc : decide (u ≤ v) = c) : (execOp a.eval o).run Tryz.prog w = .ok (.value (.bool c)) w := by
  subst hc
  simp only [execOp, ho, hx, hy]; simp [go_sem]
theorem er_appI (s x : Operand) (ho : o.op = .call { callee := .builtin .append, args := #[s, x], argTypes := #[22, 22] }) (v u : Value) (hs : a.eval s = v) (hx : a.eval x = u) (v' : Value) (w' : World) (hty : o.type = 22) (hr : (Builtin.append_ #[22, 22] 22 #[v, u]).run Tryz.prog w = .ok v' w') : (execOp a.eval o).run Tryz.prog w = .ok (.value v') w' := by
  unfold execOp
  simp only [ho, hty, resolve, invoke, builtin, Sem.run_bind, Sem.run_pure, Result.andThen_ok, List.map_toArray, List.map_cons, List.map_nil, hs, hx, hr]
end
end Go.Proofs.YtjhhldgbllbbhaaGreatDoor
