/-
  The law's partition.
-/
import Derived.Test.YtledndpcceejpaaDoorHVer
import Derived.Test.YtledndpcceejpaaDoorHHeld
import Derived.Great.BuildSlice
import Derived.Maps.AppendAt
import Derived.Deep.MidRow
import Derived.Deep.CutBlock
namespace Go.Proofs.YtledndpcceejpaaDoor
open Go.RowKit
set_option linter.unusedVariables false
set_option maxRecDepth 100000

/-- a case, as it is handed in -/
def csA (n h : Int) (t : Nat → Int) (k p : Int) (busy : Bool) : Array Value := #[.int .i64 n, .int .i64 h, .int .i64 (t 0), .int .i64 (t 1), .int .i64 (t 2), .int .i64 (t 3), .int .i64 (t 4), .int .i64 (t 5), .int .i64 (t 6), .int .i64 (t 7), .int .i64 k, .int .i64 p, .bool busy]
/-- a partition with these lists -/
def pnA (i c p : Value) (h : Int) (t : Nat → Int) : Array Value := #[.int .i64 0, .int .i64 0, .int .i64 0, .int .i64 0, .int .i64 0, .int .i64 0, i, c, p, .int .i64 h, .int .i64 (t 0), .int .i64 (t 1), .int .i64 (t 2), .int .i64 (t 3), .int .i64 (t 4), .int .i64 (t 5), .int .i64 (t 6), .int .i64 (t 7), .slice none 0 0, .slice none 0 0, .slice none 0 0]
def nOf (n : Int) : Nat := if n < 0 then 3 else if 40 < n then 3 else n.toNat
def Z21 : Array Value := #[.int .i64 0, .int .i64 0, .int .i64 0, .int .i64 0, .int .i64 0, .int .i64 0, .slice none 0 0, .slice none 0 0, .slice none 0 0, .int .i64 0, .int .i64 0, .int .i64 0, .int .i64 0, .int .i64 0, .int .i64 0, .int .i64 0, .int .i64 0, .int .i64 0, .slice none 0 0, .slice none 0 0, .slice none 0 0]
theorem built_pn (h : Int) (t : Nat → Int) : Tryd.prog.built 36 [(6, .int .i64 h), (7, .agg #[.int .i64 (t 0), .int .i64 (t 1), .int .i64 (t 2), .int .i64 (t 3), .int .i64 (t 4), .int .i64 (t 5), .int .i64 (t 6), .int .i64 (t 7)])] = some (pnA (.slice none 0 0) (.slice none 0 0) (.slice none 0 0) h t) := by kernel_rfl

theorem info_parts {P : Program} {t : TypeId} {z : Option Value} {s b : Nat} (h : (P.info? t).map (fun i => (i.zero, i.size, i.bytes)) = some (z, s, b)) : ∃ i, P.info? t = some i ∧ i.zero = z ∧ i.size = s ∧ i.bytes = b := by
  cases hi : P.info? t with
  | none => rw [hi] at h; cases h
  | some i => rw [hi] at h; simp at h; exact ⟨i, rfl, h.1, h.2.1, h.2.2⟩
theorem new_cells {w : World} {A : Array Value} {t : TypeId} : ∀ j u, A.toList[j]? = some u → (w.alloc (.cells A t)).cell? ((⟨w.heap.size, 0, none⟩ : Addr).add j) = some u := by
  intro j u hu
  rw [add_none, Nat.zero_add]
  simp at hu
  unfold World.cell?
  rw [heap_alloc_new]
  exact hu
theorem Kept.setRow {F : Nat → Prop} {a w : World} (h : Kept F a w) {g : Nat} (hg : F g ∨ a.heap.size ≤ g) (cs : Array Value) : Kept F a (w.setRow g cs) :=
  ⟨h.os, h.tape, h.output, by rw [size_setRow]; exact h.size, fun k hk hF => by
    rw [setRow_other w g k cs (fun e => by subst e; rcases hg with h1 | h1; exact hF h1; omega)]
    exact h.block k hk hF⟩
theorem setC {w : World} {g : Nat} {cur : Array Value} {t : TypeId} (o : Nat) (v : Value) (h : w.heap[g]? = some (.cells cur t (0, 0))) : (w.setCell ⟨g, o, none⟩ v).heap[g]? = some (.cells (cur.setIfInBounds o v) t (0, 0)) := by
  simp only [World.setCell, Array.getElem?_modify, if_pos, h]
  rfl
theorem fzc {w : World} {q : Nat} {c : Array Value} {t : TypeId} (h : w.heap[q]? = some (.cells c t (0, 0))) (j : Nat) : w.frozen? ⟨q, j, none⟩ = false := by
  simp [World.frozen?, h]
theorem cell_row {w : World} {g : Nat} {cs : Array Value} {t : TypeId} {fr : Nat × Nat} {v : Value} (h : w.heap[g]? = some (.cells cs t fr)) {k : Nat} (hv : cs[k]? = some v) : w.cell? ⟨g, k, none⟩ = some v := by
  simp [World.cell?, h, hv]
theorem list_build {ops : Array Oper} {rest : List Oper} {o : Oper} {a : Act} {w : World} {Q : Exit → Act → World → Prop} (hg : o.guard = none) (t : TypeId) (parts : Array (Nat × Operand)) (ho : o.op = .build t parts) (l : List (Nat × Value)) (hl : (parts.map fun (i, x) => (i, a.eval x)).toList = l) (A : Array Value) (hb : Tryd.prog.built t l = some A) (h : wpList Tryd.prog ops Q rest (a.put o.dst (.agg A)) w) : wpList Tryd.prog ops Q (o :: rest) a w :=
  wg_val (by simp [Region.wanted, hg]) (er_build t parts ho l hl A hb) h
theorem list_make {P : Program} {ops : Array Oper} {rest : List Oper} {o : Oper} {a : Act} {w : World} {Q : Exit → Act → World → Prop} (hg : o.guard = none) (k : Nat) {v : Value} {w' : World} (hd : o.dst = some k) (hr : (execOp a.eval o).run P w = .ok (.value v) w') (h : wpList P ops Q rest (a.put (some k) v) w') : wpList P ops Q (o :: rest) a w :=
  wg_val (by simp [Region.wanted, hg]) hr (by rw [hd]; exact h)
theorem er_allocP {w : World} {a : Act} {o : Oper} (ho : o.op = .alloc 36) : (execOp a.eval o).run Tryd.prog w = .ok (.value (.pointer (some ⟨w.heap.size, 0, none⟩))) (w.alloc (.cells Z21 36)) := by
  simp only [execOp, ho]
  simp [go_sem]
  rfl

theorem er_app {w : World} {a : Act} {o : Oper} (s x : Operand) (ho : o.op = .call { callee := .builtin .append, args := #[s, x], argTypes := #[31, 31] }) (v u : Value) (hs : a.eval s = v) (hx : a.eval x = u) (v' : Value) (w' : World) (hty : o.type = 31) (hr : (Builtin.append_ #[31, 31] 31 #[v, u]).run Tryd.prog w = .ok v' w') : (execOp a.eval o).run Tryd.prog w = .ok (.value v') w' := by
  unfold execOp
  simp only [ho, hty, resolve, invoke, builtin, Sem.run_bind, Sem.run_pure, Result.andThen_ok, List.map_toArray, List.map_cons, List.map_nil, hs, hx, hr]

theorem pn_one (ia ca pa : Option Addr) (im ic cm cc pm pc : Nat) (h : Int) (t : Nat → Int) : (pnA (.slice ia im ic) (.slice ca cm cc) (.slice pa pm pc) h t).all (·.oneCell') = true := by simp [pnA, Value.oneCell']
theorem er_f1 {w : World} {a : Act} {o : Oper} (x : Operand) (ho : o.op = .fieldAddr 24 x 1) (g : Nat) (hx : a.eval x = .pointer (some ⟨g, 0, none⟩)) : (execOp a.eval o).run Tryd.prog w = .ok (.value (.pointer (some ⟨g, 1, none⟩))) w := by simp only [execOp, ho, hx]; simp [go_sem, add_none]
theorem er_f2 {w : World} {a : Act} {o : Oper} (x : Operand) (ho : o.op = .fieldAddr 24 x 2) (g : Nat) (hx : a.eval x = .pointer (some ⟨g, 0, none⟩)) : (execOp a.eval o).run Tryd.prog w = .ok (.value (.pointer (some ⟨g, 2, none⟩))) w := by simp only [execOp, ho, hx]; simp [go_sem, add_none]
theorem ld8 {w : World} {b o : Nat} (t : Nat → Int) (h : ∀ j, j < 8 → w.cell? ⟨b, o + j, none⟩ = some (.int .i64 (t j))) : (Instr.loadAt 22 (.pointer (some ⟨b, o, none⟩))).run Tryd.prog w = .ok (.agg #[.int .i64 (t 0), .int .i64 (t 1), .int .i64 (t 2), .int .i64 (t 3), .int .i64 (t 4), .int .i64 (t 5), .int .i64 (t 6), .int .i64 (t 7)]) w :=
  run_loadAt_mid w b o _ [.int .i64 (t 0), .int .i64 (t 1), .int .i64 (t 2), .int .i64 (t 3), .int .i64 (t 4), .int .i64 (t 5), .int .i64 (t 6), .int .i64 (t 7)] _ (fun j v hv => by
    match j, hv with
    | 0, hv => cases hv; exact h 0 (by decide)
    | 1, hv => cases hv; exact h 1 (by decide)
    | 2, hv => cases hv; exact h 2 (by decide)
    | 3, hv => cases hv; exact h 3 (by decide)
    | 4, hv => cases hv; exact h 4 (by decide)
    | 5, hv => cases hv; exact h 5 (by decide)
    | 6, hv => cases hv; exact h 6 (by decide)
    | 7, hv => cases hv; exact h 7 (by decide)
    | j + 8, hv => simp at hv) Tryd.underlying22 rfl (by kernel_rfl)
/-- the processes' cells -/
def prC (i : Nat) : List Value := [.int .i64 (100 + (i : Int)), .int .i64 0, .int .i64 0, .int .i64 0, .int .i64 0, .bool false]
def prL : Nat → List Value
  | 0 => []
  | i + 1 => prL i ++ prC i
theorem Tryd.infoP : (Tryd.prog.info? 52).map (fun i => (i.zero, i.size, i.bytes)) = some (some (.agg #[.int .i64 0, .int .i64 0, .int .i64 0, .int .i64 0, .int .i64 0, .bool false]), 6, 48) := by kernel_rfl
theorem own_slice' {w : World} {B : Nat} {t : TypeId} {sz : Nat} {v : Value} {n : Nat} {xs : List Value} (h : w.ownsRow B t sz v n xs) : ∃ a c, v = .slice a n c ∧ (n = 0 ∨ ∃ g, a = some ⟨g, 0, none⟩) := by
  rcases h.2 with ⟨h1, h2⟩ | ⟨g, cap, cur, hv, hb, hg, r⟩
  · exact ⟨none, 0, by rw [h1, h2], .inl h2⟩
  · exact ⟨_, cap, hv, .inr ⟨g, rfl⟩⟩

/-- while the processes are laid down -/
structure Lp (w W : World) (i : Nat) (v : Value) (h : Int) (t : Nat → Int) : Prop where
  r1 : W.heap[w.heap.size + 1]? = some (.cells Z21 36)
  r2 : W.heap[w.heap.size + 2]? = some (.cells (pnA (.slice none 0 0) (.slice none 0 0) v h t) 36)
  own : W.ownsRow (w.heap.size + 3) 52 6 v i (prL i)
  hk : Kept No w W
theorem app_pr {w W : World} {i : Nat} {va : Option Addr} {vc : Nat} {h : Int} {t : Nat → Int} (L : Lp w W i (.slice va i vc) h t) (hi : i ≤ 40) :
    ∃ ya yc wa, (Builtin.append_ #[31, 31] 31 #[.slice va i vc, .slice (some ⟨W.heap.size, 0, none⟩) 1 1]).run Tryd.prog (W.alloc (.cells #[.int .i64 (100 + (i : Int)), .int .i64 0, .int .i64 0, .int .i64 0, .int .i64 0, .bool false] 52)) = .ok (.slice ya (i + 1) yc) wa ∧ wa.cell? ⟨w.heap.size + 2, 8, none⟩ = some (.slice va i vc) ∧ wa.frozen? ⟨w.heap.size + 2, 8, none⟩ = false ∧ Lp w (wa.setCell ⟨w.heap.size + 2, 8, none⟩ (.slice ya (i + 1) yc)) (i + 1) (.slice ya (i + 1) yc) h t := by
  obtain ⟨i0, hi0, hz0, hz1, hz2⟩ := info_parts Tryd.infoP
  have hlow := heap_lt L.r2
  obtain ⟨v1, wa, h1, h2, h3, _, h5⟩ := run_append_own_at (P := Tryd.prog) (W.alloc (.cells #[.int .i64 (100 + (i : Int)), .int .i64 0, .int .i64 0, .int .i64 0, .int .i64 0, .bool false] 52)) (w.heap.size + 3) 31 31 52 i0 _ 6 48 Tryd.underlying31 hi0 hz0 hz1 hz2 rfl (by decide) (.slice va i vc) i (prL i) (L.own.alloc _) ⟨W.heap.size, 0, none⟩ 1 1 (prC i) rfl new_cells (by simp [prC, Value.oneCell']) (by unfold maxLen; omega) (by omega) (by rw [World.size_alloc]; omega)
  obtain ⟨ya, yc, rfl, _⟩ := own_slice' h2
  have ka : Kept (fun j => (Value.slice va i vc).ownBlock = some j) W wa := ((Kept.refl _ W).alloc _).grown h3 (fun j e => .inl e)
  have lo := L.own.lt
  have n1 : ¬ (Value.slice va i vc).ownBlock = some (w.heap.size + 1) := fun e => by have := lo _ e; omega
  have n2 : ¬ (Value.slice va i vc).ownBlock = some (w.heap.size + 2) := fun e => by have := lo _ e; omega
  have b1 := ka.at' L.r1 n1
  have b2 := ka.at' L.r2 n2
  have ks : Kept (fun j => j = w.heap.size + 2) wa (wa.setCell ⟨w.heap.size + 2, 8, none⟩ (.slice ya (i + 1) yc)) := (Kept.refl (fun j => j = w.heap.size + 2) wa).setCell (p := ⟨w.heap.size + 2, 8, none⟩) (.inl rfl) _
  refine ⟨ya, yc, wa, h1, cell_row b2 rfl, fzc b2 8, ⟨ks.at' b1 (by omega), setC 8 _ b2, ks.owns h2 (fun j hj e => by have := h2.lt j hj; omega), ?_⟩⟩
  exact (L.hk.trans ka (fun j e => .inr (by have := lo _ e; omega))).setCell (.inr (by simp)) _

/-- behind the loop: the lists that stand -/
structure Lq (w W : World) (N : Nat) (i c : Value) (g cap : Nat) (h : Int) (t : Nat → Int) : Prop where
  r1 : W.heap[w.heap.size + 1]? = some (.cells Z21 36)
  r2 : W.heap[w.heap.size + 2]? = some (.cells (pnA i c (.slice (some ⟨g, 0, none⟩) N cap) h t) 36)
  own : W.ownsRow (w.heap.size + 3) 52 6 (.slice (some ⟨g, 0, none⟩) (N + 1) cap) (N + 1) (prL (N + 1))
  hk : Kept No w W
theorem Lp.toLq {w W : World} {i : Nat} {g cap : Nat} {h : Int} {t : Nat → Int} (L : Lp w W i (.slice (some ⟨g, 0, none⟩) i cap) h t) (N : Nat) (e : i = N + 1) : Lq w (W.setCell ⟨w.heap.size + 2, 8, none⟩ (.slice (some ⟨g, 0, none⟩) N cap)) N (.slice none 0 0) (.slice none 0 0) g cap h t := by
  subst e
  have ks : Kept (fun j => j = w.heap.size + 2) W (W.setCell ⟨w.heap.size + 2, 8, none⟩ (.slice (some ⟨g, 0, none⟩) N cap)) := (Kept.refl (fun j => j = w.heap.size + 2) W).setCell (p := ⟨w.heap.size + 2, 8, none⟩) (.inl rfl) _
  have lo := L.own.lt
  exact ⟨ks.at' L.r1 (by omega), setC 8 _ L.r2, ks.owns L.own (fun j hj e => by have := lo j hj; omega), L.hk.setCell (.inr (by simp)) _⟩
namespace Lq
variable {w W : World} {N g cap : Nat} {i c : Value} {h : Int} {t : Nat → Int}
theorem al (L : Lq w W N i c g cap h t) (o : Obj) : Lq w (W.alloc o) N i c g cap h t :=
  have k := (Kept.refl No W).alloc o
  ⟨k.at' L.r1 (fun e => e), k.at' L.r2 (fun e => e), L.own.alloc _, L.hk.alloc _⟩
theorem fz (L : Lq w W N i c g cap h t) (o : Obj) (j : Nat) : (W.alloc o).frozen? ⟨w.heap.size + 2, j, none⟩ = false := fzc (L.al o).r2 j
theorem c7 (L : Lq w W N i c g cap h t) (o : Obj) : (W.alloc o).cell? ⟨w.heap.size + 2, 7, none⟩ = some c := cell_row (L.al o).r2 rfl
theorem c6 (L : Lq w W N i c g cap h t) (o : Obj) : (W.alloc o).cell? ⟨w.heap.size + 2, 6, none⟩ = some i := cell_row (L.al o).r2 rfl
theorem put (L : Lq w W N i c g cap h t) (j : Nat) (v : Value) {i' c' : Value} (e : (pnA i c (.slice (some ⟨g, 0, none⟩) N cap) h t).setIfInBounds j v = pnA i' c' (.slice (some ⟨g, 0, none⟩) N cap) h t) : Lq w (W.setCell ⟨w.heap.size + 2, j, none⟩ v) N i' c' g cap h t := by
  have ks : Kept (fun j => j = w.heap.size + 2) W (W.setCell ⟨w.heap.size + 2, j, none⟩ v) := (Kept.refl (fun j => j = w.heap.size + 2) W).setCell (p := ⟨w.heap.size + 2, j, none⟩) (.inl rfl) _
  have lo := L.own.lt
  exact ⟨ks.at' L.r1 (by omega), by rw [← e]; exact setC j _ L.r2, ks.owns L.own (fun j hj e => by have := lo j hj; omega), L.hk.setCell (.inr (by simp)) _⟩
theorem code (L : Lq w W N i c g cap h t) (o : Obj) : Lq w ((W.alloc o).setCell ⟨w.heap.size + 2, 7, none⟩ (.slice (some ⟨W.heap.size, 0, none⟩) 2 3)) N i (.slice (some ⟨W.heap.size, 0, none⟩) 2 3) g cap h t := (L.al o).put 7 _ rfl
theorem init (L : Lq w W N i c g cap h t) (o : Obj) : Lq w ((W.alloc o).setCell ⟨w.heap.size + 2, 6, none⟩ (.slice (some ⟨W.heap.size, 0, none⟩) 2 3)) N (.slice (some ⟨W.heap.size, 0, none⟩) 2 3) c g cap h t := (L.al o).put 6 _ rfl
theorem newj (L : Lq w W N i c g cap h t) (o : Obj) (j : Nat) (v : Value) : ((W.alloc o).setCell ⟨w.heap.size + 2, j, none⟩ v).heap[W.heap.size]? = some o := by
  have ks : Kept (fun j => j = w.heap.size + 2) (W.alloc o) ((W.alloc o).setCell ⟨w.heap.size + 2, j, none⟩ v) := (Kept.refl (fun j => j = w.heap.size + 2) _).setCell (p := ⟨w.heap.size + 2, j, none⟩) (.inl rfl) _
  exact ks.at' (heap_alloc_new W o) (fun e => by have := heap_lt L.r2; omega)
theorem new7 (L : Lq w W N i c g cap h t) (o : Obj) : ((W.alloc o).setCell ⟨w.heap.size + 2, 7, none⟩ (.slice (some ⟨W.heap.size, 0, none⟩) 2 3)).heap[W.heap.size]? = some o ∧ W.heap.size ≠ w.heap.size + 2 := ⟨L.newj o 7 _, fun e => by have := heap_lt L.r2; omega⟩
theorem new6 (L : Lq w W N i c g cap h t) (o : Obj) : ((W.alloc o).setCell ⟨w.heap.size + 2, 6, none⟩ (.slice (some ⟨W.heap.size, 0, none⟩) 2 3)).heap[W.heap.size]? = some o ∧ W.heap.size ≠ w.heap.size + 2 := ⟨L.newj o 6 _, fun e => by have := heap_lt L.r2; omega⟩
theorem keep6 (L : Lq w W N i c g cap h t) (o : Obj) {x : Nat} {q : Obj} (hx : W.heap[x]? = some q) (hn : x ≠ w.heap.size + 2) : ((W.alloc o).setCell ⟨w.heap.size + 2, 6, none⟩ (.slice (some ⟨W.heap.size, 0, none⟩) 2 3)).heap[x]? = some q :=
  (((Kept.refl (fun j => j = w.heap.size + 2) W).alloc o).setCell (p := ⟨w.heap.size + 2, 6, none⟩) (.inl rfl) _).at' hx hn
end Lq
theorem mono_base {w : World} {B B' : Nat} {e : TypeId} {size : Nat} {v : Value} {n : Nat} {xs : List Value} (h : w.ownsRow B e size v n xs) (hB : B' ≤ B) : w.ownsRow B' e size v n xs := by
  refine ⟨h.1, ?_⟩
  rcases h.2 with h1 | ⟨g, cap, cur, hv, hb, r⟩
  · exact .inl h1
  · exact .inr ⟨g, cap, cur, hv, Nat.le_trans hB hb, r⟩
/-- the partition's lists where they lie -/
structure Pm (W : World) (B : Nat) (gi gc g N cap : Nat) : Prop where
  ci : W.heap[gi]? = some (.cells #[.int .i64 5, .int .i64 6, .int .i64 7] 2)
  cc : W.heap[gc]? = some (.cells #[.int .u8 7, .int .u8 0, .int .u8 0, .int .u8 0, .int .i32 0, .int .u8 8, .int .u8 0, .int .u8 0, .int .u8 0, .int .i32 0, .int .u8 9, .int .u8 0, .int .u8 0, .int .u8 0, .int .i32 0] 54)
  own : W.ownsRow B 52 6 (.slice (some ⟨g, 0, none⟩) (N + 1) cap) (N + 1) (prL (N + 1))
  lo : B ≤ gi ∧ B ≤ gc
theorem Pm.keep {W W' : World} {B gi gc g N cap : Nat} (h : Pm W B gi gc g N cap) (k : Kept No W W') : Pm W' B gi gc g N cap :=
  ⟨k.at' h.ci (fun e => e), k.at' h.cc (fun e => e), k.owns h.own (fun _ _ e => e), h.lo⟩
def pnL (gi gc g N cap : Nat) (h : Int) (t : Nat → Int) : List Value := (pnA (.slice (some ⟨gi, 0, none⟩) 2 3) (.slice (some ⟨gc, 0, none⟩) 2 3) (.slice (some ⟨g, 0, none⟩) N cap) h t).toList
theorem nOf_le (n : Int) : nOf n ≤ 40 := by unfold nOf; split; omega; split; omega; omega

set_option maxHeartbeats 4000000 in
theorem part_any (n h : Int) (t : Nat → Int) (k p : Int) (busy : Bool) (w : World) : Calls Tryd.prog 4 #[.agg (csA n h t k p busy)] w fun e w' => ∃ gi gc g cap, e = .returned (.agg (pnL gi gc g (nOf n) cap h t).toArray) ∧ Pm w' w.heap.size gi gc g (nOf n) cap ∧ Kept No w w' := by
  have hN := nOf_le n
  obtain ⟨N, eN⟩ : ∃ N, nOf n = N := ⟨_, rfl⟩
  simp only [eN] at hN ⊢
  have EN := hid eN
  clear eN
  obtain ⟨w0, e0⟩ : ∃ w0, w0 = (w.alloc (.cells (csA n h t k p busy) 24)).alloc (.cells Z21 36) := ⟨_, rfl⟩
  have K0 : Hid (Kept No w w0) := by rw [e0]; exact ((Kept.refl No w).alloc _).alloc _
  have s0 : Hid (w0.heap.size = w.heap.size + 2) := by rw [e0]; simp [Hid]
  have B0 : Hid (w0.heap[w.heap.size]? = some (.cells (csA n h t k p busy) 24)) := by rw [e0]; exact (heap_alloc_old (w.alloc _) _ (by simp)).trans (heap_alloc_new w _)
  have B1 : Hid (w0.heap[w.heap.size + 1]? = some (.cells Z21 36)) := by rw [e0]; exact heap_alloc2_new w _ _
  have c1 : w0.cell? ⟨w.heap.size, 1, none⟩ = some (.int .i64 h) := cell_row B0.out rfl
  have c2 : w0.cell? ⟨w.heap.size, 2, none⟩ = some (.int .i64 (t 0)) := cell_row B0.out rfl
  have c3 : w0.cell? ⟨w.heap.size, 3, none⟩ = some (.int .i64 (t 1)) := cell_row B0.out rfl
  have c4 : w0.cell? ⟨w.heap.size, 4, none⟩ = some (.int .i64 (t 2)) := cell_row B0.out rfl
  have c5 : w0.cell? ⟨w.heap.size, 5, none⟩ = some (.int .i64 (t 3)) := cell_row B0.out rfl
  have c6 : w0.cell? ⟨w.heap.size, 6, none⟩ = some (.int .i64 (t 4)) := cell_row B0.out rfl
  have c7 : w0.cell? ⟨w.heap.size, 7, none⟩ = some (.int .i64 (t 5)) := cell_row B0.out rfl
  have c8 : w0.cell? ⟨w.heap.size, 8, none⟩ = some (.int .i64 (t 6)) := cell_row B0.out rfl
  have c9 : w0.cell? ⟨w.heap.size, 9, none⟩ = some (.int .i64 (t 7)) := cell_row B0.out rfl
  have c0 : w0.cell? ⟨w.heap.size, 0, none⟩ = some (.int .i64 n) := cell_row B0.out rfl
  go_enter Tryd.func4, Tryd.ntmps4
  go_upto_region 1 with fail
  have ez : ∀ W : World, W.alloc (.cells #[.int .i64 0, .int .i64 0, .int .i64 0, .int .i64 0, .int .i64 0, .int .i64 0, .slice none 0 0, .slice none 0 0, .slice none 0 0, .int .i64 0, .int .i64 0, .int .i64 0, .int .i64 0, .int .i64 0, .int .i64 0, .int .i64 0, .int .i64 0, .int .i64 0, .slice none 0 0, .slice none 0 0, .slice none 0 0] 36) = W.alloc (.cells Z21 36) := fun _ => rfl
  rw [ez, ← e0]
  clear e0 ez
  obtain ⟨B, hB⟩ : ∃ B : Bool, B = (decide (n < 0) || decide (40 < n)) := ⟨_, rfl⟩
  have HB := hid hB
  clear hB
  go_upto_region 2 with fail
  go_cut [13] (fun x wc => x = .bool B ∧ wc = w0)
  case first =>
    by_cases h1 : n < 0
    · have := HB.out
      rw [decide_eq_true h1, Bool.true_or] at this
      subst this
      go_wp2
      go_meet
      exact ⟨rfl, rfl⟩
    · by_cases h2 : 40 < n
      · have := HB.out
        rw [decide_eq_true h2, Bool.or_true] at this
        subst this
        go_wp2
        go_meet
        exact ⟨rfl, rfl⟩
      · have := HB.out
        rw [decide_eq_false h1, decide_eq_false h2] at this
        subst this
        go_wp2
        go_meet
        exact ⟨rfl, rfl⟩
  case rest =>
  obtain ⟨rfl, hw⟩ := hcut
  obtain rfl := hw.symm
  clear hw
  go_upto_if 13 with fail
  go_cut [3] (fun x wc => x = .int .i64 (N : Int) ∧ wc = w0)
  case first =>
    cases hc : B
    · have e1 : n = (N : Nat) := by
        rw [← EN.out]
        have := HB.out
        rw [hc] at this
        simp at this
        unfold nOf
        rw [if_neg (by omega), if_neg (by omega)]
        omega
      go_wp2
      go_meet
      exact ⟨by rw [← e1], rfl⟩
    · have e1 : N = 3 := by
        rw [← EN.out]
        have := HB.out
        rw [hc] at this
        simp at this
        unfold nOf
        by_cases hn : n < 0
        · rw [if_pos hn]
        · rw [if_neg hn, if_pos (by omega)]
      go_wp2
      go_meet
      exact ⟨by rw [e1]; rfl, rfl⟩
  case rest =>
  obtain ⟨rfl, hw⟩ := hcut
  obtain rfl := hw.symm
  clear hw
  clear c0 HB EN
  go_upto_region 4 with fail
  go_cut [4] (fun v wc => v = .pointer (some ⟨w.heap.size + 2, 0, none⟩) ∧ Lp w wc 0 (.slice none 0 0) h t)
  case first =>
    have b5 := hid (alloc_new w0 (.cells Z21 36))
    have fin : Hid (Lp w ((w0.alloc (.cells Z21 36)).setRow w0.heap.size (pnA (.slice none 0 0) (.slice none 0 0) (.slice none 0 0) h t)) 0 (.slice none 0 0) h t) := by
      have k1 : Kept (fun j => j = w0.heap.size) w0 ((w0.alloc (.cells Z21 36)).setRow w0.heap.size (pnA (.slice none 0 0) (.slice none 0 0) (.slice none 0 0) h t)) := ((Kept.refl (fun j => j = w0.heap.size) w0).alloc _).setRow (.inl rfl) _
      have hs := s0.out
      refine ⟨k1.at' B1.out (by omega), ?_, World.ownsRow_nil _ _ _ _, K0.out.trans k1 (fun j e => .inr (by omega))⟩
      rw [← hs]
      exact setRow_heap _ _ Z21 _ _ (0, 0) b5.out
    have HLD1 := hid (show (Instr.loadAt 3 (.pointer (some ⟨w.heap.size, 1, none⟩))).run Tryd.prog w0 = .ok (.int .i64 h) w0 by simp [go_sem, c1])
    have HLD2 := hid (ld8 (w := w0) (b := w.heap.size) (o := 2) t (fun j hj => by
      match j, hj with
      | 0, _ => exact c2
      | 1, _ => exact c3
      | 2, _ => exact c4
      | 3, _ => exact c5
      | 4, _ => exact c6
      | 5, _ => exact c7
      | 6, _ => exact c8
      | 7, _ => exact c9))
    clear c1 c2 c3 c4 c5 c6 c7 c8 c9
    refine wp_region_lit ?_
    refine l_take 14 rfl rfl (er_f1 _ rfl w.heap.size rfl) ?_
    simp only [Act.put, List.setIfInBounds_toArray, List.set_cons_zero, List.set_cons_succ]
    refine l_take 15 rfl rfl (er_ld _ _ rfl _ (.int .i64 h) rfl HLD1.out) ?_
    simp only [Act.put, List.setIfInBounds_toArray, List.set_cons_zero, List.set_cons_succ]
    refine l_take 16 rfl rfl (er_f2 _ rfl w.heap.size rfl) ?_
    simp only [Act.put, List.setIfInBounds_toArray, List.set_cons_zero, List.set_cons_succ]
    refine l_take 17 rfl rfl (er_ld _ _ rfl _ (.agg #[.int .i64 (t 0), .int .i64 (t 1), .int .i64 (t 2), .int .i64 (t 3), .int .i64 (t 4), .int .i64 (t 5), .int .i64 (t 6), .int .i64 (t 7)]) rfl HLD2.out) ?_
    simp only [Act.put, List.setIfInBounds_toArray, List.set_cons_zero, List.set_cons_succ]
    refine list_build rfl 36 _ rfl [(6, .int .i64 h), (7, .agg #[.int .i64 (t 0), .int .i64 (t 1), .int .i64 (t 2), .int .i64 (t 3), .int .i64 (t 4), .int .i64 (t 5), .int .i64 (t 6), .int .i64 (t 7)])] (by kernel_rfl) _ (built_pn h t) ?_
    simp only [Act.put, List.setIfInBounds_toArray, List.set_cons_zero, List.set_cons_succ]
    refine list_make rfl 4 rfl (er_allocP rfl) ?_
    simp only [Act.put, List.setIfInBounds_toArray, List.set_cons_zero, List.set_cons_succ]
    refine wpList_store_row rfl 36 (.tmp 4) (.tmp 18) rfl w0.heap.size (pnA (.slice none 0 0) (.slice none 0 0) (.slice none 0 0) h t) rfl rfl _ Z21 b5.out Tryd.info21 rfl (pn_one _ _ _ _ _ _ _ _ _ h t) ?_
    simp only [Act.put]
    go_wp2
    go_meet
    exact ⟨by rw [s0.out], fin.out⟩
  case rest =>
  obtain ⟨rfl, L0⟩ := hcut
  have L := hid L0
  clear L0 B0 B1 K0 s0 c1 c2 c3 c4 c5 c6 c7 c8 c9
  go_wp2
  go_loopw [5] (fun x wr => ∃ (i : Nat) (va : Option Addr) (vc : Nat), i ≤ N + 1 ∧ x = .int .i64 i ∧ Lp w wr i (.slice va i vc) h t) (fun x _ => N + 1 - (intOf x).toNat)
  case atStart => exact ⟨0, none, 0, Nat.zero_le _, rfl, L.out⟩
  case round =>
    clear L
    obtain ⟨i, va, vc, hi, rfl, L⟩ := hrel
    by_cases hle : i ≤ N
    · have hlez : (i : Int) ≤ (N : Int) := by omega
      obtain ⟨ya, yc, wa, hap, ca, fa, L2⟩ := app_pr L (by omega)
      have c8 : wr.cell? ⟨w.heap.size + 2, 8, none⟩ = some (.slice va i vc) := cell_row L.r2 rfl
      have c8' := ((Kept.refl No wr).alloc (.cells #[.int .i64 (100 + (i : Int)), .int .i64 0, .int .i64 0, .int .i64 0, .int .i64 0, .bool false] 52)).cell c8 (fun h => h)
      have HAP := hid hap
      have L2' := hid L2
      clear L hap L2
      go_wp2_with (first
        | (at_builtin; go_loud (refine l_make 30 rfl rfl (er_app (.tmp 25) (.tmp 29) rfl _ _ rfl rfl _ _ rfl HAP.out) ?_)))
      refine ⟨⟨i + 1, ya, yc, by omega, by go_num, L2'.out⟩, ?_⟩
      simp [intOf]; omega
    · have hlez : ¬ (i : Int) ≤ (N : Int) := by omega
      obtain rfl : i = N + 1 := by omega
      obtain ⟨g, rfl⟩ : ∃ g, va = some ⟨g, 0, none⟩ := by
        obtain ⟨a', c', e, h | ⟨g, rfl⟩⟩ := own_slice' L.own
        · omega
        · injection e with e1 _ _; exact ⟨g, e1⟩
      have c8 : wr.cell? ⟨w.heap.size + 2, 8, none⟩ = some (.slice (some ⟨g, 0, none⟩) (N + 1) vc) := cell_row L.r2 rfl
      have hcap : N + 1 ≤ vc := by
        rcases L.own.2 with ⟨e, _⟩ | ⟨g', cap, cur, e, _, _, h1, _⟩
        · cases e
        · injection e with _ _ e3; omega
      have hcapz : (N : Int) ≤ (vc : Int) := by omega
      have f8 := fzc L.r2 8
      have LH := hid L
      clear L
      go_upto_region 10 with fail
      have Q1 := hid (LH.out.toLq N rfl)
      generalize wr.setCell ⟨w.heap.size + 2, 8, none⟩ (.slice (some ⟨g, 0, none⟩) N vc) = wq at *
      clear LH c8 f8
      have c7 := Q1.out.c7 (.cells #[.int .u8 7, .int .u8 0, .int .u8 0, .int .u8 0, .int .i32 0, .int .u8 8, .int .u8 0, .int .u8 0, .int .u8 0, .int .i32 0, .int .u8 9, .int .u8 0, .int .u8 0, .int .u8 0, .int .i32 0] 54)
      have f7 := Q1.out.fz (.cells #[.int .u8 7, .int .u8 0, .int .u8 0, .int .u8 0, .int .i32 0, .int .u8 8, .int .u8 0, .int .u8 0, .int .u8 0, .int .i32 0, .int .u8 9, .int .u8 0, .int .u8 0, .int .u8 0, .int .i32 0] 54) 7
      go_upto_region 11 with fail
      have Q2 := hid (Q1.out.code (.cells #[.int .u8 7, .int .u8 0, .int .u8 0, .int .u8 0, .int .i32 0, .int .u8 8, .int .u8 0, .int .u8 0, .int .u8 0, .int .i32 0, .int .u8 9, .int .u8 0, .int .u8 0, .int .u8 0, .int .i32 0] 54))
      have HC := hid ((Q1.out.new7 (.cells #[.int .u8 7, .int .u8 0, .int .u8 0, .int .u8 0, .int .i32 0, .int .u8 8, .int .u8 0, .int .u8 0, .int .u8 0, .int .i32 0, .int .u8 9, .int .u8 0, .int .u8 0, .int .u8 0, .int .i32 0] 54)))
      have HGC : Hid (w.heap.size ≤ wq.heap.size) := Q1.out.hk.size
      clear Q1 c7 f7
      generalize (wq.alloc (.cells #[.int .u8 7, .int .u8 0, .int .u8 0, .int .u8 0, .int .i32 0, .int .u8 8, .int .u8 0, .int .u8 0, .int .u8 0, .int .i32 0, .int .u8 9, .int .u8 0, .int .u8 0, .int .u8 0, .int .i32 0] 54)).setCell ⟨w.heap.size + 2, 7, none⟩ (.slice (some ⟨wq.heap.size, 0, none⟩) 2 3) = wp at *
      generalize wq.heap.size = gc at *
      have c6 := Q2.out.c6 (.cells #[.int .i64 5, .int .i64 6, .int .i64 7] 2)
      have f6 := Q2.out.fz (.cells #[.int .i64 5, .int .i64 6, .int .i64 7] 2) 6
      go_upto_region 12 with fail
      have Q3 := hid (Q2.out.init (.cells #[.int .i64 5, .int .i64 6, .int .i64 7] 2))
      have HI := hid ((Q2.out.new6 (.cells #[.int .i64 5, .int .i64 6, .int .i64 7] 2)))
      have HC3 := hid (Q2.out.keep6 (.cells #[.int .i64 5, .int .i64 6, .int .i64 7] 2) HC.out.1 HC.out.2)
      have HGI : Hid (w.heap.size ≤ wp.heap.size) := Q2.out.hk.size
      generalize (wp.alloc (.cells #[.int .i64 5, .int .i64 6, .int .i64 7] 2)).setCell ⟨w.heap.size + 2, 6, none⟩ (.slice (some ⟨wp.heap.size, 0, none⟩) 2 3) = wo at *
      generalize wp.heap.size = gi at *
      clear Q2 c6 f6 HC
      refine wp_region_lit ?_
      refine wpList_load_row rfl 36 (.tmp 4) rfl (w.heap.size + 2) rfl _ _ (0, 0) _ Q3.out.r2 Tryd.underlying36 rfl Tryd.info21 ?_
      simp only [Act.put, List.setIfInBounds_toArray, List.set_cons_zero, List.set_cons_succ]
      refine wpList_store_row rfl 36 (.tmp 2) (.tmp 46) rfl (w.heap.size + 1) _ rfl rfl _ Z21 Q3.out.r1 Tryd.info21 rfl (pn_one _ _ _ _ _ _ _ _ _ h t) ?_
      simp only [Act.put]
      go_wp2
      refine bodyPost_ret (results_cell_row rfl _ _ (w.heap.size + 1) 36 _ _ _ rfl (setRow_heap _ _ Z21 _ _ (0, 0) Q3.out.r1) Tryd.underlying36 rfl Tryd.info21) rfl ?_
      have kr : Kept (fun j => j = w.heap.size + 1) wo (wo.setRow (w.heap.size + 1) (pnA (.slice (some ⟨gi, 0, none⟩) 2 3) (.slice (some ⟨gc, 0, none⟩) 2 3) (.slice (some ⟨g, 0, none⟩) N vc) h t)) := (Kept.refl (fun j => j = w.heap.size + 1) wo).setRow (.inl rfl) _
      have n1 : gi ≠ w.heap.size + 1 := fun e => by have := HI.out.1; subst e; rw [Q3.out.r1] at this; cases this
      have n2 : gc ≠ w.heap.size + 1 := fun e => by have := HC3.out; subst e; rw [Q3.out.r1] at this; cases this
      have n3 := Q3.out.own.lt
      have ow := kr.owns Q3.out.own (fun j hj e => by have := n3 j hj; omega)
      refine ⟨gi, gc, g, vc, rfl, ⟨kr.at' HI.out.1 n1, kr.at' HC3.out n2, mono_base ow (Nat.le_add_right _ 3), HGI.out, HGC.out⟩, ?_⟩
      exact (Q3.out.hk.mono (fun _ e => e)).setRow (.inr (by omega)) _
end Go.Proofs.YtledndpcceejpaaDoor
