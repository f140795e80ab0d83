/-
  roomy: a state with a mark behind each of its lists, and each message.
-/
import Derived.Test.YtggkajopfbokjaaOSpoil
import Derived.Test.YtggkajopfbokjaaOSameS
namespace Go.Proofs.Ytggkajopfbokjaa
open Go.RowKit
set_option linter.unusedVariables false
set_option maxRecDepth 100000

section
variable {w : World} {a : Act} {o : Oper}
theorem er_zI (ho : o.op = .buildSlice 52 0 #[]) : (execOp a.eval o).run Try.prog w = .ok (.value (.slice (some ⟨w.heap.size, 0, none⟩) 0 0)) (w.alloc (.cells #[] 3)) := by
  simp only [execOp, ho]
  simp [go_sem, Instr.fill]
theorem er_aI (s x : Operand) (ho : o.op = .call { callee := .builtin .append, args := #[s, x], argTypes := #[52, 52] }) (v u : Value) (hs : a.eval s = v) (hx : a.eval x = u) (v' : Value) (w' : World) (hty : o.type = 52) (hr : (Builtin.append_ #[52, 52] 52 #[v, u]).run Try.prog w = .ok v' w') : (execOp a.eval o).run Try.prog w = .ok (.value v') w' := by
  unfold execOp
  simp only [ho, hty, resolve, invoke, builtin, Sem.run_bind, Sem.run_pure, Result.andThen_ok, List.map_toArray, List.map_cons, List.map_nil, hs, hx, hr]
theorem er_nI (x : Operand) (ho : o.op = .call { callee := .builtin .len, args := #[x], argTypes := #[52] }) (b : Option Addr) (n c : Nat) (hx : a.eval x = .slice b n c) : (execOp a.eval o).run Try.prog w = .ok (.value (.int .i64 (n : Int))) w := by
  have hr : (Builtin.len_ #[52] o.type #[.slice b n c]).run Try.prog w = .ok (.int .i64 (n : Int)) w := by simp [Builtin.len_, go_sem]
  unfold execOp
  simp only [ho, resolve, invoke, builtin, Sem.run_bind, Sem.run_pure, Result.andThen_ok, List.map_toArray, List.map_cons, List.map_nil, hx, hr]
theorem er_sI (x y : Operand) (ho : o.op = .slice 52 x none (some y) none) (g n c : Nat) (hx : a.eval x = .slice (some ⟨g, 0, none⟩) (n + 1) c) (hy : a.eval y = .int .i64 (n : Int)) (hc : n + 1 ≤ c) : (execOp a.eval o).run Try.prog w = .ok (.value (.slice (some ⟨g, 0, none⟩) n c)) w := by
  have h1 : (n : Int) ≤ (c : Int) := by omega
  have h2 : ¬ c = 0 := by omega
  simp only [execOp, ho, Option.map_some, Option.map_none, hx, hy]; simp [go_sem, h1, h2]
theorem er_lI (x : Operand) (ho : o.op = .load 52 x) (g off : Nat) (v : Value) (hx : a.eval x = .pointer (some ⟨g, off, none⟩)) (hr : w.cell? ⟨g, off, none⟩ = some v) : (execOp a.eval o).run Try.prog w = .ok (.value v) w := by
  simp only [execOp, ho, hx]; simp [go_sem, hr]
theorem er_wI (x y : Operand) (ho : o.op = .store 52 x y) (g off : Nat) (u : Value) (va : Option Addr) (vn vc : Nat) (hx : a.eval x = .pointer (some ⟨g, off, none⟩)) (hy : a.eval y = .slice va vn vc) (hr : w.cell? ⟨g, off, none⟩ = some u) (hf : w.frozen? ⟨g, off, none⟩ = false) : (execOp a.eval o).run Try.prog w = .ok .skip (w.setCell ⟨g, off, none⟩ (.slice va vn vc)) := by
  simp only [execOp, ho, hx, hy]
  simp [go_sem, hr, hf]
theorem er_zW (ho : o.op = .buildSlice 31 0 #[]) : (execOp a.eval o).run Try.prog w = .ok (.value (.slice (some ⟨w.heap.size, 0, none⟩) 0 0)) (w.alloc (.cells #[] 2)) := by
  simp only [execOp, ho]
  simp [go_sem, Instr.fill]
theorem er_aW (s x : Operand) (ho : o.op = .call { callee := .builtin .append, args := #[s, x], argTypes := #[31, 31] }) (v u : Value) (hs : a.eval s = v) (hx : a.eval x = u) (v' : Value) (w' : World) (hty : o.type = 31) (hr : (Builtin.append_ #[31, 31] 31 #[v, u]).run Try.prog w = .ok v' w') : (execOp a.eval o).run Try.prog w = .ok (.value v') w' := by
  unfold execOp
  simp only [ho, hty, resolve, invoke, builtin, Sem.run_bind, Sem.run_pure, Result.andThen_ok, List.map_toArray, List.map_cons, List.map_nil, hs, hx, hr]
theorem er_nW (x : Operand) (ho : o.op = .call { callee := .builtin .len, args := #[x], argTypes := #[31] }) (b : Option Addr) (n c : Nat) (hx : a.eval x = .slice b n c) : (execOp a.eval o).run Try.prog w = .ok (.value (.int .i64 (n : Int))) w := by
  have hr : (Builtin.len_ #[31] o.type #[.slice b n c]).run Try.prog w = .ok (.int .i64 (n : Int)) w := by simp [Builtin.len_, go_sem]
  unfold execOp
  simp only [ho, resolve, invoke, builtin, Sem.run_bind, Sem.run_pure, Result.andThen_ok, List.map_toArray, List.map_cons, List.map_nil, hx, hr]
theorem er_sW (x y : Operand) (ho : o.op = .slice 31 x none (some y) none) (g n c : Nat) (hx : a.eval x = .slice (some ⟨g, 0, none⟩) (n + 1) c) (hy : a.eval y = .int .i64 (n : Int)) (hc : n + 1 ≤ c) : (execOp a.eval o).run Try.prog w = .ok (.value (.slice (some ⟨g, 0, none⟩) n c)) w := by
  have h1 : (n : Int) ≤ (c : Int) := by omega
  have h2 : ¬ c = 0 := by omega
  simp only [execOp, ho, Option.map_some, Option.map_none, hx, hy]; simp [go_sem, h1, h2]
theorem er_lW (x : Operand) (ho : o.op = .load 31 x) (g off : Nat) (v : Value) (hx : a.eval x = .pointer (some ⟨g, off, none⟩)) (hr : w.cell? ⟨g, off, none⟩ = some v) : (execOp a.eval o).run Try.prog w = .ok (.value v) w := by
  simp only [execOp, ho, hx]; simp [go_sem, hr]
theorem er_wW (x y : Operand) (ho : o.op = .store 31 x y) (g off : Nat) (u : Value) (va : Option Addr) (vn vc : Nat) (hx : a.eval x = .pointer (some ⟨g, off, none⟩)) (hy : a.eval y = .slice va vn vc) (hr : w.cell? ⟨g, off, none⟩ = some u) (hf : w.frozen? ⟨g, off, none⟩ = false) : (execOp a.eval o).run Try.prog w = .ok .skip (w.setCell ⟨g, off, none⟩ (.slice va vn vc)) := by
  simp only [execOp, ho, hx, hy]
  simp [go_sem, hr, hf]
theorem er_zK (ho : o.op = .buildSlice 40 0 #[]) : (execOp a.eval o).run Try.prog w = .ok (.value (.slice (some ⟨w.heap.size, 0, none⟩) 0 0)) (w.alloc (.cells #[] 31)) := by
  simp only [execOp, ho]
  simp [go_sem, Instr.fill]
theorem er_aK (s x : Operand) (ho : o.op = .call { callee := .builtin .append, args := #[s, x], argTypes := #[40, 40] }) (v u : Value) (hs : a.eval s = v) (hx : a.eval x = u) (v' : Value) (w' : World) (hty : o.type = 40) (hr : (Builtin.append_ #[40, 40] 40 #[v, u]).run Try.prog w = .ok v' w') : (execOp a.eval o).run Try.prog w = .ok (.value v') w' := by
  unfold execOp
  simp only [ho, hty, resolve, invoke, builtin, Sem.run_bind, Sem.run_pure, Result.andThen_ok, List.map_toArray, List.map_cons, List.map_nil, hs, hx, hr]
theorem er_nK (x : Operand) (ho : o.op = .call { callee := .builtin .len, args := #[x], argTypes := #[40] }) (b : Option Addr) (n c : Nat) (hx : a.eval x = .slice b n c) : (execOp a.eval o).run Try.prog w = .ok (.value (.int .i64 (n : Int))) w := by
  have hr : (Builtin.len_ #[40] o.type #[.slice b n c]).run Try.prog w = .ok (.int .i64 (n : Int)) w := by simp [Builtin.len_, go_sem]
  unfold execOp
  simp only [ho, resolve, invoke, builtin, Sem.run_bind, Sem.run_pure, Result.andThen_ok, List.map_toArray, List.map_cons, List.map_nil, hx, hr]
theorem er_sK (x y : Operand) (ho : o.op = .slice 40 x none (some y) none) (g n c : Nat) (hx : a.eval x = .slice (some ⟨g, 0, none⟩) (n + 1) c) (hy : a.eval y = .int .i64 (n : Int)) (hc : n + 1 ≤ c) : (execOp a.eval o).run Try.prog w = .ok (.value (.slice (some ⟨g, 0, none⟩) n c)) w := by
  have h1 : (n : Int) ≤ (c : Int) := by omega
  have h2 : ¬ c = 0 := by omega
  simp only [execOp, ho, Option.map_some, Option.map_none, hx, hy]; simp [go_sem, h1, h2]
theorem er_lK (x : Operand) (ho : o.op = .load 40 x) (g off : Nat) (v : Value) (hx : a.eval x = .pointer (some ⟨g, off, none⟩)) (hr : w.cell? ⟨g, off, none⟩ = some v) : (execOp a.eval o).run Try.prog w = .ok (.value v) w := by
  simp only [execOp, ho, hx]; simp [go_sem, hr]
theorem er_wK (x y : Operand) (ho : o.op = .store 40 x y) (g off : Nat) (u : Value) (va : Option Addr) (vn vc : Nat) (hx : a.eval x = .pointer (some ⟨g, off, none⟩)) (hy : a.eval y = .slice va vn vc) (hr : w.cell? ⟨g, off, none⟩ = some u) (hf : w.frozen? ⟨g, off, none⟩ = false) : (execOp a.eval o).run Try.prog w = .ok .skip (w.setCell ⟨g, off, none⟩ (.slice va vn vc)) := by
  simp only [execOp, ho, hx, hy]
  simp [go_sem, hr, hf]
theorem er_zU (ho : o.op = .buildSlice 53 0 #[]) : (execOp a.eval o).run Try.prog w = .ok (.value (.slice (some ⟨w.heap.size, 0, none⟩) 0 0)) (w.alloc (.cells #[] 40)) := by
  simp only [execOp, ho]
  simp [go_sem, Instr.fill]
theorem er_aU (s x : Operand) (ho : o.op = .call { callee := .builtin .append, args := #[s, x], argTypes := #[53, 53] }) (v u : Value) (hs : a.eval s = v) (hx : a.eval x = u) (v' : Value) (w' : World) (hty : o.type = 53) (hr : (Builtin.append_ #[53, 53] 53 #[v, u]).run Try.prog w = .ok v' w') : (execOp a.eval o).run Try.prog w = .ok (.value v') w' := by
  unfold execOp
  simp only [ho, hty, resolve, invoke, builtin, Sem.run_bind, Sem.run_pure, Result.andThen_ok, List.map_toArray, List.map_cons, List.map_nil, hs, hx, hr]
theorem er_nU (x : Operand) (ho : o.op = .call { callee := .builtin .len, args := #[x], argTypes := #[53] }) (b : Option Addr) (n c : Nat) (hx : a.eval x = .slice b n c) : (execOp a.eval o).run Try.prog w = .ok (.value (.int .i64 (n : Int))) w := by
  have hr : (Builtin.len_ #[53] o.type #[.slice b n c]).run Try.prog w = .ok (.int .i64 (n : Int)) w := by simp [Builtin.len_, go_sem]
  unfold execOp
  simp only [ho, resolve, invoke, builtin, Sem.run_bind, Sem.run_pure, Result.andThen_ok, List.map_toArray, List.map_cons, List.map_nil, hx, hr]
theorem er_sU (x y : Operand) (ho : o.op = .slice 53 x none (some y) none) (g n c : Nat) (hx : a.eval x = .slice (some ⟨g, 0, none⟩) (n + 1) c) (hy : a.eval y = .int .i64 (n : Int)) (hc : n + 1 ≤ c) : (execOp a.eval o).run Try.prog w = .ok (.value (.slice (some ⟨g, 0, none⟩) n c)) w := by
  have h1 : (n : Int) ≤ (c : Int) := by omega
  have h2 : ¬ c = 0 := by omega
  simp only [execOp, ho, Option.map_some, Option.map_none, hx, hy]; simp [go_sem, h1, h2]
theorem er_lU (x : Operand) (ho : o.op = .load 53 x) (g off : Nat) (v : Value) (hx : a.eval x = .pointer (some ⟨g, off, none⟩)) (hr : w.cell? ⟨g, off, none⟩ = some v) : (execOp a.eval o).run Try.prog w = .ok (.value v) w := by
  simp only [execOp, ho, hx]; simp [go_sem, hr]
theorem er_wU (x y : Operand) (ho : o.op = .store 53 x y) (g off : Nat) (u : Value) (va : Option Addr) (vn vc : Nat) (hx : a.eval x = .pointer (some ⟨g, off, none⟩)) (hy : a.eval y = .slice va vn vc) (hr : w.cell? ⟨g, off, none⟩ = some u) (hf : w.frozen? ⟨g, off, none⟩ = false) : (execOp a.eval o).run Try.prog w = .ok .skip (w.setCell ⟨g, off, none⟩ (.slice va vn vc)) := by
  simp only [execOp, ho, hx, hy]
  simp [go_sem, hr, hf]
theorem er_mI (ho : o.op = .buildSlice 52 1 #[(0, .const (.int .i64 (-77)))]) : (execOp a.eval o).run Try.prog w = .ok (.value (.slice (some ⟨w.heap.size, 0, none⟩) 1 1)) (w.alloc (.cells #[.int .i64 (-77)] 3)) := by
  obtain ⟨i0, hi, hz0, hz1, hz2⟩ := info_parts Try.infoI
  have e := run_buildSlice (P := Try.prog) w 52 3 1 #[(0, .int .i64 (-77))] #[.int .i64 (-77)] i0 (.int .i64 0) Try.underlying52 hi hz0 (by rw [hz1]; decide) (by rw [hz1]; decide) (by rw [hz1]; kernel_rfl)
  unfold execOp
  simp only [ho, Sem.run_bind, List.map_toArray, List.map_cons, List.map_nil, Act.eval, e, Result.andThen_ok]
  rfl
theorem er_mW (ho : o.op = .buildSlice 31 1 #[(0, .const (.int .i64 (-77)))]) : (execOp a.eval o).run Try.prog w = .ok (.value (.slice (some ⟨w.heap.size, 0, none⟩) 1 1)) (w.alloc (.cells #[.int .i64 (-77)] 2)) := by
  obtain ⟨i0, hi, hz0, hz1, hz2⟩ := info_parts Try.infoW
  have e := run_buildSlice (P := Try.prog) w 31 2 1 #[(0, .int .i64 (-77))] #[.int .i64 (-77)] i0 (.int .i64 0) Try.underlying31 hi hz0 (by rw [hz1]; decide) (by rw [hz1]; decide) (by rw [hz1]; kernel_rfl)
  unfold execOp
  simp only [ho, Sem.run_bind, List.map_toArray, List.map_cons, List.map_nil, Act.eval, e, Result.andThen_ok]
  rfl
theorem er_bK (x : Operand) (ho : o.op = .buildSlice 40 1 #[(0, x)]) (b : Option Addr) (n c : Nat) (hx : a.eval x = .slice b n c) : (execOp a.eval o).run Try.prog w = .ok (.value (.slice (some ⟨w.heap.size, 0, none⟩) 1 1)) (w.alloc (.cells #[.slice b n c] 31)) := by
  obtain ⟨i0, hi, hz0, hz1, hz2⟩ := info_parts Try.infoL
  have e := run_buildSlice (P := Try.prog) w 40 31 1 #[(0, .slice b n c)] #[.slice b n c] i0 (.slice none 0 0) Try.underlying40 hi hz0 (by rw [hz1]; decide) (by rw [hz1]; decide) (by rw [hz1]; kernel_rfl)
  unfold execOp
  simp only [ho, Sem.run_bind, List.map_toArray, List.map_cons, List.map_nil, hx, e, Result.andThen_ok]
  rfl
theorem er_bU (x : Operand) (ho : o.op = .buildSlice 53 1 #[(0, x)]) (b : Option Addr) (n c : Nat) (hx : a.eval x = .slice b n c) : (execOp a.eval o).run Try.prog w = .ok (.value (.slice (some ⟨w.heap.size, 0, none⟩) 1 1)) (w.alloc (.cells #[.slice b n c] 40)) := by
  obtain ⟨i0, hi, hz0, hz1, hz2⟩ := info_parts Try.infoLL
  have e := run_buildSlice (P := Try.prog) w 53 40 1 #[(0, .slice b n c)] #[.slice b n c] i0 (.slice none 0 0) Try.underlying53 hi hz0 (by rw [hz1]; decide) (by rw [hz1]; decide) (by rw [hz1]; kernel_rfl)
  unfold execOp
  simp only [ho, Sem.run_bind, List.map_toArray, List.map_cons, List.map_nil, hx, e, Result.andThen_ok]
  rfl
theorem er_fO0 (x : Operand) (ho : o.op = .fieldAddr 55 x 0) (g : Nat) (hx : a.eval x = .pointer (some ⟨g, 0, none⟩)) : (execOp a.eval o).run Try.prog w = .ok (.value (.pointer (some ⟨g, 0, none⟩))) w := by simp only [execOp, ho, hx]; simp [go_sem, add_none]
end
/-- a list of messages, each with a mark behind it, and a mark behind them all -/
structure Lr (w : World) (B : Nat) (lv : Value) (ms : List Value) (xs : List (List Int)) : Prop where
  own : ∃ h, Rw w B 31 1 lv ms.length ms [.slice (some ⟨h, 0, none⟩) 1 1] ∧ w.heap[h]? = some (.cells #[.int .i64 (-77)] 2)
  len : xs.length = ms.length
  msg : ∀ (j : Nat) (v : Value) (x : List Int), ms[j]? = some v → xs[j]? = some x → Rw w B 2 1 v x.length (x.map iv) [.int .i64 (-77)]
theorem Lr.kept {w w' : World} {B : Nat} {lv : Value} {ms : List Value} {xs : List (List Int)} {G : Nat → Prop} (h : Lr w B lv ms xs) (K : Kept G w w') (hG : ∀ k cs t, w.heap[k]? = some (.cells cs t) → t = 31 ∨ t = 2 → ¬ G k) : Lr w' B lv ms xs := by
  obtain ⟨hh, h1, h2⟩ := h.own
  refine ⟨⟨hh, h1.kept K (fun g hg => by obtain ⟨_, cs, hb⟩ := h1.blk hg; exact hG g cs _ hb (.inl rfl)), K.at' h2 (hG hh _ _ h2 (.inr rfl))⟩, h.len, fun j v x hv hx => ?_⟩
  have hr := h.msg j v x hv hx
  exact hr.kept K (fun g hg => by obtain ⟨_, cs, hb⟩ := hr.blk hg; exact hG g cs _ hb (.inr rfl))
theorem Rw.base {w : World} {B B' : Nat} {t : TypeId} {k : Nat} {v : Value} {n : Nat} {xs mk : List Value} (h : Rw w B t k v n xs mk) (hB : B' ≤ B) : Rw w B' t k v n xs mk := by
  obtain ⟨g, c, e, h1, h2, h3⟩ := h
  exact ⟨g, c, e, h1, h2, owns_base h3 hB⟩
theorem Lr.base {w : World} {B B' : Nat} {lv : Value} {ms : List Value} {xs : List (List Int)} (h : Lr w B lv ms xs) (hB : B' ≤ B) : Lr w B' lv ms xs := by
  obtain ⟨hh, h1, h2⟩ := h.own
  exact ⟨⟨hh, h1.base hB, h2⟩, h.len, fun j v x hv hx => (h.msg j v x hv hx).base hB⟩
/-- what roomy keeps -/
structure Ry (w wr : World) (src : Array Value) (r s t : Nat) (ts te tb : Value) : Prop where
  res : wr.heap[r]? = some (.cells #[.slice none 0 0, .slice none 0 0, .slice none 0 0] 55)
  box : wr.heap[s]? = some (.cells src 55)
  told : wr.heap[t]? = some (.cells #[ts, te, tb] 55)
  kept : Kept No w wr
  ge : w.heap.size ≤ t
  ne : r ≠ t
  ne2 : s ≠ t
namespace Ry
variable {w wr wr' : World} {src : Array Value} {r s t : Nat} {ts te tb : Value}
theorem keep (h : Ry w wr src r s t ts te tb) (K : Kept No wr wr') : Ry w wr' src r s t ts te tb := ⟨K.at' h.res (fun e => e), K.at' h.box (fun e => e), K.at' h.told (fun e => e), h.kept.trans K (fun _ e => e.elim), h.ge, h.ne, h.ne2⟩
theorem kset (h : Ry w wr src r s t ts te tb) (f : Nat) (v : Value) : Kept (fun j => j = t) wr (wr.setCell ⟨t, f, none⟩ v) := (Kept.refl (fun j => j = t) wr).setCell (p := ⟨t, f, none⟩) (.inl rfl) _
theorem set (h : Ry w wr src r s t ts te tb) (f : Nat) (v : Value) {a b c : Value} (e : #[ts, te, tb].setIfInBounds f v = #[a, b, c]) : Ry w (wr.setCell ⟨t, f, none⟩ v) src r s t a b c := by
  have kb := h.kset f v
  have hb := set_blk h.told f v
  rw [e] at hb
  exact ⟨kb.at' h.res h.ne, kb.at' h.box h.ne2, hb, h.kept.trans kb (fun j ej => .inr (by rw [ej]; exact h.ge)), h.ge, h.ne, h.ne2⟩
theorem rw_set (h : Ry w wr src r s t ts te tb) {B : Nat} {t' : TypeId} {k : Nat} {v u : Value} {n f : Nat} {xs mk : List Value} (hr : Rw wr B t' k v n xs mk) (ht : t' ≠ 55) : Rw (wr.setCell ⟨t, f, none⟩ u) B t' k v n xs mk :=
  hr.kept (h.kset f u) (fun g hg e => by
    obtain ⟨_, cs, h1⟩ := hr.blk hg
    subst e
    exact ht (two_tags h1 h.told))
end Ry
/-- a list of marked messages, growing -/
structure Lm (w : World) (B : Nat) (lv : Value) (ms : List Value) (xs : List (List Int)) : Prop where
  own : w.ownsRow B 31 1 lv ms.length ms
  len : xs.length = ms.length
  msg : ∀ (j : Nat) (v : Value) (x : List Int), ms[j]? = some v → xs[j]? = some x → Rw w B 2 1 v x.length (x.map iv) [.int .i64 (-77)]
theorem Lm.none (w : World) (B : Nat) : Lm w B (.slice none 0 0) [] [] := ⟨World.ownsRow_nil _ _ _ _, rfl, fun j v x h => (by cases h)⟩
theorem Lm.keep {w w' : World} {B : Nat} {lv : Value} {ms : List Value} {xs : List (List Int)} (h : Lm w B lv ms xs) (K : Kept No w w') : Lm w' B lv ms xs := ⟨K.owns h.own (fun _ _ e => e), h.len, fun j v x hv hx => (h.msg j v x hv hx).kept K (fun _ _ e => e)⟩
theorem Lm.tag {w w' : World} {B : Nat} {lv u : Value} {ms : List Value} {xs : List (List Int)} {n : Nat} {ys mk : List Value} (h : Lm w B lv ms xs) (hr : Rw w B 2 1 u n ys mk) (K : Kept (fun k => lv.ownBlock = some k) w w') : Rw w' B 2 1 u n ys mk :=
  hr.kept K (fun g hg e => by
    obtain ⟨_, cs, h1⟩ := hr.blk hg
    obtain ⟨_, cs', h2⟩ := owns_blk h.own e
    exact absurd (two_tags h1 h2) (by decide))
/-- append of one thing onto a list of lists -/
theorem app_run {X : World} {B n : Nat} {v u : Value} {us : List Value} (own : X.ownsRow B 31 1 v n us) (hB : B ≤ X.heap.size) (h1 : u.oneCell' = true) (hn : n ≤ 1099511627776) :
    ∃ ya yc wa, (Builtin.append_ #[40, 40] 40 #[v, .slice (some ⟨X.heap.size, 0, none⟩) 1 1]).run Try.prog (X.alloc (.cells #[u] 31)) = .ok (.slice ya (n + 1) yc) wa ∧ wa.ownsRow B 31 1 (.slice ya (n + 1) yc) (n + 1) (us ++ [u]) ∧ Kept (fun k => v.ownBlock = some k) X wa := by
  obtain ⟨i0, hi, hz0, hz1, hz2⟩ := info_parts Try.infoL
  obtain ⟨v1, wa, hr, ho, hg, _, _⟩ := run_append_own_at (P := Try.prog) (X.alloc (.cells #[u] 31)) B 40 40 31 i0 (.slice none 0 0) 1 24 Try.underlying40 hi hz0 hz1 hz2 rfl (by decide) v n us (own.alloc _) ⟨X.heap.size, 0, none⟩ 1 1 [u] rfl (fun j y hy => new_cells (A := #[u]) j y hy) (by simpa using h1) (by unfold maxLen; omega) (by omega) (by rw [World.size_alloc]; omega)
  obtain ⟨ya, yn, yc, rfl⟩ := own_slice ho
  have hyn : yn = n + 1 := by
    obtain ⟨_, ⟨_, h2⟩ | ⟨g, cap, cur, h2, _⟩⟩ := ho
    · omega
    · injection h2
  subst hyn
  exact ⟨ya, yc, wa, hr, ho, ((Kept.refl (fun k => v.ownBlock = some k) X).alloc _).grown hg (fun k e => .inl e)⟩
theorem Lm.more {w X wa : World} {B : Nat} {lv lv' v : Value} {ms : List Value} {xs : List (List Int)} {x : List Int} (h : Lm w B lv ms xs) (K : Kept No w X) (hr : Rw X B 2 1 v x.length (x.map iv) [.int .i64 (-77)]) (own1 : wa.ownsRow B 31 1 lv' (ms.length + 1) (ms ++ [v])) (ka : Kept (fun k => lv.ownBlock = some k) X wa) : Lm wa B lv' (ms ++ [v]) (xs ++ [x]) := by
  have hX := h.keep K
  refine ⟨by rw [List.length_append]; exact own1, by rw [List.length_append, List.length_append, h.len]; rfl, fun j u y hu hy => ?_⟩
  rcases get_snoc hu with ⟨h2, h3⟩ | ⟨h2, rfl⟩
  · rw [List.getElem?_append_left (by rw [h.len]; exact h3)] at hy
    exact hX.tag (hX.msg j u y h2 hy) ka
  · rcases get_snoc hy with ⟨_, h4⟩ | ⟨_, rfl⟩
    · have := h.len; omega
    · exact hX.tag hr ka
/-- what the loop over the buffers keeps -/
structure Rz (w wr : World) (src : Array Value) (r s t : Nat) (v1 v2 tb : Value) (cs : List Int) (us : List Value) (xss : List (List (List Int))) (m : Nat) (lv' : List Value) (ms' : List (List Value)) : Prop where
  ry : Ry w wr src r s t v1 v2 tb
  r1 : Rw wr w.heap.size 3 1 v1 cs.length (cs.map iv) [.int .i64 (-77)]
  r2 : Rw wr w.heap.size 4 1 v2 us.length us [.bool true]
  own : wr.ownsRow w.heap.size 40 1 tb m lv'
  len : lv'.length = m
  len2 : ms'.length = m
  ent : ∀ (i : Nat) (lv : Value) (ms : List Value) (xs : List (List Int)), lv'[i]? = some lv → ms'[i]? = some ms → xss[i]? = some xs → Lr wr w.heap.size lv ms xs
theorem Rz.keep {w wr wr' : World} {src : Array Value} {r s t : Nat} {v1 v2 tb : Value} {cs : List Int} {us : List Value} {xss : List (List (List Int))} {m : Nat} {lv' : List Value} {ms' : List (List Value)} (h : Rz w wr src r s t v1 v2 tb cs us xss m lv' ms') (K : Kept No wr wr') : Rz w wr' src r s t v1 v2 tb cs us xss m lv' ms' :=
  ⟨h.ry.keep K, h.r1.kept K (fun _ _ e => e), h.r2.kept K (fun _ _ e => e), K.owns h.own (fun _ _ e => e), h.len, h.len2, fun i lv ms xs a b c => (h.ent i lv ms xs a b c).kept K (fun _ _ _ _ _ e => e)⟩
theorem Rz.buf {w wr w1 wa : World} {src : Array Value} {r s t : Nat} {v1 v2 tb lv tb' : Value} {cs : List Int} {us : List Value} {xss : List (List (List Int))} {m : Nat} {lv' : List Value} {ms' : List (List Value)} {ms : List Value} {xs : List (List Int)} {o : Obj} (h : Rz w wr src r s t v1 v2 tb cs us xss m lv' ms') (hx : xss[m]? = some xs) (K : Kept No wr w1) (L : Lr w1 w.heap.size lv ms xs) (own1 : wa.ownsRow w.heap.size 40 1 tb' (m + 1) (lv' ++ [lv])) (gr : (w1.alloc o).grownBy wa tb.ownBlock) :
    wa.cell? ⟨t, 2, none⟩ = some tb ∧ wa.frozen? ⟨t, 2, none⟩ = false ∧ Rz w (wa.setCell ⟨t, 2, none⟩ tb') src r s t v1 v2 tb' cs us xss (m + 1) (lv' ++ [lv]) (ms' ++ [ms]) := by
  have h1 := h.keep K
  have ka : Kept (fun k => tb.ownBlock = some k) w1 wa := ((Kept.refl (fun k => tb.ownBlock = some k) w1).alloc o).grown gr (fun k e => .inl e)
  have tag : ∀ k cs t', w1.heap[k]? = some (.cells cs t') → t' ≠ 40 → ¬ tb.ownBlock = some k := fun k cs t' a b c => by
    obtain ⟨_, cs', d⟩ := owns_blk h1.own c
    exact b (two_tags a d)
  have hry : Ry w wa src r s t v1 v2 tb := ⟨ka.at' h1.ry.res (tag _ _ _ h1.ry.res (by decide)), ka.at' h1.ry.box (tag _ _ _ h1.ry.box (by decide)), ka.at' h1.ry.told (tag _ _ _ h1.ry.told (by decide)), h1.ry.kept.trans ka (fun k e => .inr (owns_blk h1.own e).1), h1.ry.ge, h1.ry.ne, h1.ry.ne2⟩
  have rwk : ∀ {t' k n : Nat} {v : Value} {ys mk : List Value}, Rw w1 w.heap.size t' k v n ys mk → t' ≠ 40 → Rw wa w.heap.size t' k v n ys mk := fun hr ht => hr.kept ka (fun g hg => by obtain ⟨_, c0, hb⟩ := hr.blk hg; exact tag g c0 _ hb ht)
  have kb := hry.kset 2 tb'
  have lrk : ∀ {lv : Value} {ms : List Value} {xs : List (List Int)}, Lr w1 w.heap.size lv ms xs → Lr (wa.setCell ⟨t, 2, none⟩ tb') w.heap.size lv ms xs := fun hL => (hL.kept ka (fun k c0 t' hk ht => tag k c0 t' hk (by rcases ht with rfl | rfl <;> decide))).kept kb (fun k c0 t' hk ht e => by
    subst e
    have := two_tags hk hry.told
    rcases ht with rfl | rfl <;> exact absurd this (by decide))
  refine ⟨(cell_blk hry.told 2).trans rfl, fz_blk hry.told _, ⟨hry.set 2 tb' (by rfl), hry.rw_set (rwk h1.r1 (by decide)) (by decide), hry.rw_set (rwk h1.r2 (by decide)) (by decide), kb.owns own1 (fun k hk e => ?_), by rw [List.length_append, h.len]; rfl, by rw [List.length_append, h.len2]; rfl, fun i lv0 ms0 xs0 a b c => ?_⟩⟩
  · obtain ⟨_, cs', hb⟩ := owns_blk own1 hk
    subst e
    exact absurd (two_tags hb hry.told) (by decide)
  · rcases get_snoc a with ⟨a1, a2⟩ | ⟨a1, rfl⟩
    · rw [List.getElem?_append_left (by rw [h.len2, ← h.len]; exact a2)] at b
      exact lrk (h1.ent i lv0 ms0 xs0 a1 b c)
    · rcases get_snoc b with ⟨_, b2⟩ | ⟨_, rfl⟩
      · have := h.len; have := h.len2; omega
      · rw [a1, h.len, hx] at c
        injection c with c
        subst c
        exact lrk L
theorem Rz.last {w wr w1 wa : World} {src : Array Value} {r s t : Nat} {v1 v2 tb v3 : Value} {cs : List Int} {us mk : List Value} {xss : List (List (List Int))} {m : Nat} {lv' : List Value} {ms' : List (List Value)} (h : Rz w wr src r s t v1 v2 tb cs us xss m lv' ms') (K : Kept No wr w1) (ka : Kept (fun k => tb.ownBlock = some k) w1 wa) (R : Rw wa w.heap.size 40 1 v3 m lv' mk) :
    wa.heap[s]? = some (.cells src 55) ∧ wa.cell? ⟨t, 2, none⟩ = some tb ∧ wa.frozen? ⟨t, 2, none⟩ = false ∧ Ry w (wa.setCell ⟨t, 2, none⟩ v3) src r s t v1 v2 v3 ∧ Rw (wa.setCell ⟨t, 2, none⟩ v3) w.heap.size 3 1 v1 cs.length (cs.map iv) [.int .i64 (-77)] ∧ Rw (wa.setCell ⟨t, 2, none⟩ v3) w.heap.size 4 1 v2 us.length us [.bool true] ∧ Rw (wa.setCell ⟨t, 2, none⟩ v3) w.heap.size 40 1 v3 m lv' mk ∧ ∀ (i : Nat) (lv : Value) (ms : List Value) (xs : List (List Int)), lv'[i]? = some lv → ms'[i]? = some ms → xss[i]? = some xs → Lr (wa.setCell ⟨t, 2, none⟩ v3) w.heap.size lv ms xs := by
  have h1 := h.keep K
  have tag : ∀ k cs t', w1.heap[k]? = some (.cells cs t') → t' ≠ 40 → ¬ tb.ownBlock = some k := fun k cs t' a b c => by
    obtain ⟨_, cs', d⟩ := owns_blk h1.own c
    exact b (two_tags a d)
  have hry : Ry w wa src r s t v1 v2 tb := ⟨ka.at' h1.ry.res (tag _ _ _ h1.ry.res (by decide)), ka.at' h1.ry.box (tag _ _ _ h1.ry.box (by decide)), ka.at' h1.ry.told (tag _ _ _ h1.ry.told (by decide)), h1.ry.kept.trans ka (fun k e => .inr (owns_blk h1.own e).1), h1.ry.ge, h1.ry.ne, h1.ry.ne2⟩
  have rwk : ∀ {t' k n : Nat} {v : Value} {ys mk : List Value}, Rw w1 w.heap.size t' k v n ys mk → t' ≠ 40 → Rw wa w.heap.size t' k v n ys mk := fun hr ht => hr.kept ka (fun g hg => by obtain ⟨_, c0, hb⟩ := hr.blk hg; exact tag g c0 _ hb ht)
  have kb := hry.kset 2 v3
  have lrk : ∀ {lv : Value} {ms : List Value} {xs : List (List Int)}, Lr w1 w.heap.size lv ms xs → Lr (wa.setCell ⟨t, 2, none⟩ v3) w.heap.size lv ms xs := fun hL => (hL.kept ka (fun k c0 t' hk ht => tag k c0 t' hk (by rcases ht with rfl | rfl <;> decide))).kept kb (fun k c0 t' hk ht e => by
    subst e
    have := two_tags hk hry.told
    rcases ht with rfl | rfl <;> exact absurd this (by decide))
  exact ⟨hry.box, (cell_blk hry.told 2).trans rfl, fz_blk hry.told _, hry.set 2 v3 (by rfl), hry.rw_set (rwk h1.r1 (by decide)) (by decide), hry.rw_set (rwk h1.r2 (by decide)) (by decide), hry.rw_set R (by decide), fun i lv0 ms0 xs0 a b c => lrk (h1.ent i lv0 ms0 xs0 a b c)⟩
set_option maxHeartbeats 16000000 in
theorem roomy_any {F : Nat → Prop} {ts te tb : Value} {cs : List Int} {us lvs : List Value} {mss : List (List Value)} {xss : List (List (List Int))} (w : World) (ho : Or w F ts te tb cs us lvs mss xss) (hc : cs.length ≤ 4095) (hu : us.length ≤ 4095) (hl : lvs.length ≤ 4095) (h1 : ∀ u ∈ us, u.oneCell' = true) (hx : ∀ xs ∈ xss, xs.length ≤ 1099511627775 ∧ ∀ x ∈ xs, x.length ≤ 1099511627775) :
    Calls Try.prog 16 #[.agg #[ts, te, tb]] w fun e w' => ∃ (ts' te' tb' : Value) (lv' : List Value) (ms' : List (List Value)) (hb : Nat), e = .returned (.agg #[ts', te', tb']) ∧ Rw w' w.heap.size 3 1 ts' cs.length (cs.map iv) [.int .i64 (-77)] ∧ Rw w' w.heap.size 4 1 te' us.length us [.bool true] ∧ Rw w' w.heap.size 40 1 tb' lvs.length lv' [.slice (some ⟨hb, 0, none⟩) 1 1] ∧ lv'.length = lvs.length ∧ (∀ (i : Nat) (lv : Value) (ms : List Value) (xs : List (List Int)), lv'[i]? = some lv → ms'[i]? = some ms → xss[i]? = some xs → Lr w' w.heap.size lv ms xs) ∧ ms'.length = lvs.length ∧ Kept No w w' := by
  obtain ⟨ta, tc, rfl, hts⟩ := ho.sems
  obtain ⟨va, vc, rfl, hvs⟩ := ho.evs
  obtain ⟨la, lc, rfl, hls⟩ := ho.bufs
  have hlc := hls.cap
  have hlm := hls.max
  have HO : Hid (Or w F (.slice ta cs.length tc) (.slice va us.length vc) (.slice la lvs.length lc) cs us lvs mss xss ∧ (∀ xs ∈ xss, xs.length ≤ 1099511627775 ∧ ∀ x ∈ xs, x.length ≤ 1099511627775)) := ⟨ho, hx⟩
  have HV : Hid (Vk w F ta cs.length tc 1 (cs.map iv) ∧ Vk w F va us.length vc 1 us ∧ ∀ u ∈ us, u.oneCell' = true) := ⟨hts.vs.vk, hvs.vk, h1⟩
  clear ho hx hts hvs hls h1
  go_enter Try.func16, Try.ntmps16
  go_upto_region 2 with fail
  have HG : Hid (Ry w (((w.alloc (.cells #[.slice ta cs.length tc, .slice va us.length vc, .slice la lvs.length lc] 55)).alloc (.cells #[.slice none 0 0, .slice none 0 0, .slice none 0 0] 55)).alloc (.cells #[.slice none 0 0, .slice none 0 0, .slice none 0 0] 55)) #[.slice ta cs.length tc, .slice va us.length vc, .slice la lvs.length lc] (w.heap.size + 1) w.heap.size (w.heap.size + 2) (.slice none 0 0) (.slice none 0 0) (.slice none 0 0)) := by
    refine ⟨?_, (((Kept.refl No _).alloc _).alloc _).at' (alloc_new w _) (fun e => e), ?_, (((Kept.refl No w).alloc _).alloc _).alloc _, by omega, by omega, by omega⟩
    · have h5 := alloc_new (w.alloc (.cells #[.slice ta cs.length tc, .slice va us.length vc, .slice la lvs.length lc] 55)) (.cells #[.slice none 0 0, .slice none 0 0, .slice none 0 0] 55)
      rw [World.size_alloc] at h5
      exact ((Kept.refl No _).alloc _).at' h5 (fun e => e)
    · have h5 := alloc_new ((w.alloc (.cells #[.slice ta cs.length tc, .slice va us.length vc, .slice la lvs.length lc] 55)).alloc (.cells #[.slice none 0 0, .slice none 0 0, .slice none 0 0] 55)) (.cells #[.slice none 0 0, .slice none 0 0, .slice none 0 0] 55)
      rw [World.size_alloc, World.size_alloc] at h5
      exact h5
  generalize (((w.alloc (.cells #[.slice ta cs.length tc, .slice va us.length vc, .slice la lvs.length lc] 55)).alloc (.cells #[.slice none 0 0, .slice none 0 0, .slice none 0 0] 55)).alloc (.cells #[.slice none 0 0, .slice none 0 0, .slice none 0 0] 55)) = wz at *
  obtain ⟨r, hs1⟩ : ∃ r, w.heap.size + 1 = r := ⟨_, rfl⟩
  obtain ⟨t, hs2⟩ : ∃ t, w.heap.size + 2 = t := ⟨_, rfl⟩
  rw [hs1, hs2] at HG
  rw [show w.heap.size + 1 + 1 = t from hs2, hs1]
  have HR : Hid (w.heap.size ≤ r) := (show w.heap.size ≤ r by omega)
  clear hs1 hs2
  go_cut [] (fun wx => ∃ v1, Ry w wx #[.slice ta cs.length tc, .slice va us.length vc, .slice la lvs.length lc] r w.heap.size t v1 (.slice none 0 0) (.slice none 0 0) ∧ Rw wx w.heap.size 3 1 v1 cs.length (cs.map iv) [.int .i64 (-77)])
  case first =>
    obtain ⟨⟨v8a, X2a, ga, ca, X4a, r8a, k2a, r11a, fa⟩, ⟨v8b, X3b, gb, cb, X4b, r8b, k3b, r11b, fb⟩, v8c, X3c, gc, cc, X4c, r8c, k3c, r11c, fc⟩ := ord3 (P := Try.prog) (B := w.heap.size) wz.drew 52 52 3 (.int .i64 0) 1 8 Try.underlying52 Try.infoI rfl (by decide) (HV.out.1.kept (HG.out.kept.drew) (fun _ _ e => e)) (iv_one cs) (by omega) (by unfold maxLen; omega) (HG.out.kept.drew.size) (mk := #[.int .i64 (-77)]) rfl (by simp [Value.oneCell'])
    have SZ : Hid (∀ W, Kept No wz.drew W → W.cell? ⟨w.heap.size, 0, none⟩ = some (.slice ta cs.length tc)) := fun W k => (cell_blk ((HG.out.keep ((Kept.refl No wz).drew)).keep k).box 0).trans rfl
    have hSd := SZ.out _ (Kept.refl No _)
    refine wp_region_held_drew (S := fun w' => w'.cell? ⟨w.heap.size, 0, none⟩ = some (.slice ta cs.length tc)) (by kernel_rfl) hSd (fun hS => ?_)
    clear hSd
    refine d_take 1 8 rfl rfl (by kernel_rfl) (by kernel_rfl) (by kernel_rfl) (fun _ _ _ h => h) rfl (fun w' hw' => er_fO0 _ rfl w.heap.size rfl) hS ?_
    simp only [Act.put, List.setIfInBounds_toArray, List.set_cons_zero, List.set_cons_succ]
    refine d_take 2 9 rfl rfl (by kernel_rfl) (by kernel_rfl) (by kernel_rfl) (fun _ _ _ h => h) rfl (fun w' hw' => er_lI _ rfl w.heap.size 0 _ rfl hw') hS ?_
    simp only [Act.put, List.setIfInBounds_toArray, List.set_cons_zero, List.set_cons_succ]
    refine d_take 6 13 rfl rfl (by kernel_rfl) (by kernel_rfl) (by kernel_rfl) (fun _ _ _ h => h) rfl (fun w' hw' => er_fO0 _ rfl w.heap.size rfl) hS ?_
    simp only [Act.put, List.setIfInBounds_toArray, List.set_cons_zero, List.set_cons_succ]
    refine d_take 7 14 rfl rfl (by kernel_rfl) (by kernel_rfl) (by kernel_rfl) (fun _ _ _ h => h) rfl (fun w' hw' => er_lI _ rfl w.heap.size 0 _ rfl hw') hS ?_
    simp only [Act.put, List.setIfInBounds_toArray, List.set_cons_zero, List.set_cons_succ]
    refine d_take 8 15 rfl rfl (by kernel_rfl) (by kernel_rfl) (by kernel_rfl) (fun _ _ _ h => h) rfl (fun w' hw' => er_nI _ rfl ta cs.length tc rfl) hS ?_
    simp only [Act.put, List.setIfInBounds_toArray, List.set_cons_zero, List.set_cons_succ]
    refine d_pair 0 7 4 11 (by kernel_rfl) rfl rfl rfl rfl rfl rfl (er_zI rfl) (er_mI rfl) (SZ.out _ ((Kept.refl No _).alloc _)) (SZ.out _ ((Kept.refl No _).alloc _)) ?_ ?_
    · simp only [Act.put, List.setIfInBounds_toArray, List.set_cons_zero, List.set_cons_succ]
      refine d_pair 3 10 4 11 (by kernel_rfl) rfl rfl rfl rfl rfl rfl (er_aI (.tmp 7) (.tmp 9) rfl _ _ rfl rfl v8a X2a rfl r8a) (er_mI rfl) (SZ.out _ k2a) (SZ.out _ (((Kept.refl No _).alloc _).alloc _)) ?_ ?_
      · simp only [Act.put, List.setIfInBounds_toArray, List.set_cons_zero, List.set_cons_succ]
        refine d_make 4 11 (by kernel_rfl) rfl rfl rfl (er_mI rfl) (SZ.out _ (k2a.alloc _)) ?_
        simp only [Act.put, List.setIfInBounds_toArray, List.set_cons_zero, List.set_cons_succ]
        refine d_make 5 12 (by kernel_rfl) rfl rfl rfl (er_aI (.tmp 10) (.tmp 11) rfl _ _ rfl rfl (.slice (some ⟨ga, 0, none⟩) (cs.length + 1) ca) X4a rfl r11a) (SZ.out _ fa.2.1) ?_
        simp only [Act.put, List.setIfInBounds_toArray, List.set_cons_zero, List.set_cons_succ]
        have hS := SZ.out _ fa.2.1
        refine d_take 9 16 rfl rfl (by kernel_rfl) (by kernel_rfl) (by kernel_rfl) (fun _ _ _ h => h) rfl (fun w' hw' => er_sI _ _ rfl ga cs.length ca rfl rfl fa.2.2.1) hS ?_
        simp only [Act.put, List.setIfInBounds_toArray, List.set_cons_zero, List.set_cons_succ]
        refine d_take 10 17 rfl rfl (by kernel_rfl) (by kernel_rfl) (by kernel_rfl) (fun _ _ _ h => h) rfl (fun w' hw' => er_fO0 _ rfl t rfl) hS ?_
        simp only [Act.put, List.setIfInBounds_toArray, List.set_cons_zero, List.set_cons_succ]
        have HQ := hid (HG.out.keep ((((Kept.refl No wz).drew)).trans fa.2.1 (fun _ e => e.elim)))
        have HS := HQ.out.set 0 (.slice (some ⟨ga, 0, none⟩) cs.length ca) (by rfl)
        refine d_turn 11 (by kernel_rfl) rfl rfl rfl (er_wI _ _ rfl t 0 _ (some ⟨ga, 0, none⟩) cs.length ca rfl rfl ((cell_blk HQ.out.told 0).trans rfl) (fz_blk HQ.out.told _)) ((cell_blk HS.box 0).trans rfl) ?_
        refine wpAnyH_done (by kernel_rfl) ?_ _
        clear hS
        go_wp2
        go_meet
        case rel => exact ⟨_, HS, HQ.out.rw_set fa.1 (by decide)⟩
      · simp only [Act.put, List.setIfInBounds_toArray, List.set_cons_zero, List.set_cons_succ]
        refine d_make 3 10 (by kernel_rfl) rfl rfl rfl (er_aI (.tmp 7) (.tmp 9) rfl _ _ rfl rfl v8b X3b rfl r8b) (SZ.out _ k3b) ?_
        simp only [Act.put, List.setIfInBounds_toArray, List.set_cons_zero, List.set_cons_succ]
        refine d_make 5 12 (by kernel_rfl) rfl rfl rfl (er_aI (.tmp 10) (.tmp 11) rfl _ _ rfl rfl (.slice (some ⟨gb, 0, none⟩) (cs.length + 1) cb) X4b rfl r11b) (SZ.out _ fb.2.1) ?_
        simp only [Act.put, List.setIfInBounds_toArray, List.set_cons_zero, List.set_cons_succ]
        have hS := SZ.out _ fb.2.1
        refine d_take 9 16 rfl rfl (by kernel_rfl) (by kernel_rfl) (by kernel_rfl) (fun _ _ _ h => h) rfl (fun w' hw' => er_sI _ _ rfl gb cs.length cb rfl rfl fb.2.2.1) hS ?_
        simp only [Act.put, List.setIfInBounds_toArray, List.set_cons_zero, List.set_cons_succ]
        refine d_take 10 17 rfl rfl (by kernel_rfl) (by kernel_rfl) (by kernel_rfl) (fun _ _ _ h => h) rfl (fun w' hw' => er_fO0 _ rfl t rfl) hS ?_
        simp only [Act.put, List.setIfInBounds_toArray, List.set_cons_zero, List.set_cons_succ]
        have HQ := hid (HG.out.keep ((((Kept.refl No wz).drew)).trans fb.2.1 (fun _ e => e.elim)))
        have HS := HQ.out.set 0 (.slice (some ⟨gb, 0, none⟩) cs.length cb) (by rfl)
        refine d_turn 11 (by kernel_rfl) rfl rfl rfl (er_wI _ _ rfl t 0 _ (some ⟨gb, 0, none⟩) cs.length cb rfl rfl ((cell_blk HQ.out.told 0).trans rfl) (fz_blk HQ.out.told _)) ((cell_blk HS.box 0).trans rfl) ?_
        refine wpAnyH_done (by kernel_rfl) ?_ _
        clear hS
        go_wp2
        go_meet
        case rel => exact ⟨_, HS, HQ.out.rw_set fb.1 (by decide)⟩
    · simp only [Act.put, List.setIfInBounds_toArray, List.set_cons_zero, List.set_cons_succ]
      refine d_make 0 7 (by kernel_rfl) rfl rfl rfl (er_zI rfl) (SZ.out _ (((Kept.refl No _).alloc _).alloc _)) ?_
      simp only [Act.put, List.setIfInBounds_toArray, List.set_cons_zero, List.set_cons_succ]
      refine d_make 3 10 (by kernel_rfl) rfl rfl rfl (er_aI (.tmp 7) (.tmp 9) rfl _ _ rfl rfl v8c X3c rfl r8c) (SZ.out _ k3c) ?_
      simp only [Act.put, List.setIfInBounds_toArray, List.set_cons_zero, List.set_cons_succ]
      refine d_make 5 12 (by kernel_rfl) rfl rfl rfl (er_aI (.tmp 10) (.tmp 11) rfl _ _ rfl rfl (.slice (some ⟨gc, 0, none⟩) (cs.length + 1) cc) X4c rfl r11c) (SZ.out _ fc.2.1) ?_
      simp only [Act.put, List.setIfInBounds_toArray, List.set_cons_zero, List.set_cons_succ]
      have hS := SZ.out _ fc.2.1
      refine d_take 9 16 rfl rfl (by kernel_rfl) (by kernel_rfl) (by kernel_rfl) (fun _ _ _ h => h) rfl (fun w' hw' => er_sI _ _ rfl gc cs.length cc rfl rfl fc.2.2.1) hS ?_
      simp only [Act.put, List.setIfInBounds_toArray, List.set_cons_zero, List.set_cons_succ]
      refine d_take 10 17 rfl rfl (by kernel_rfl) (by kernel_rfl) (by kernel_rfl) (fun _ _ _ h => h) rfl (fun w' hw' => er_fO0 _ rfl t rfl) hS ?_
      simp only [Act.put, List.setIfInBounds_toArray, List.set_cons_zero, List.set_cons_succ]
      have HQ := hid (HG.out.keep ((((Kept.refl No wz).drew)).trans fc.2.1 (fun _ e => e.elim)))
      have HS := HQ.out.set 0 (.slice (some ⟨gc, 0, none⟩) cs.length cc) (by rfl)
      refine d_turn 11 (by kernel_rfl) rfl rfl rfl (er_wI _ _ rfl t 0 _ (some ⟨gc, 0, none⟩) cs.length cc rfl rfl ((cell_blk HQ.out.told 0).trans rfl) (fz_blk HQ.out.told _)) ((cell_blk HS.box 0).trans rfl) ?_
      refine wpAnyH_done (by kernel_rfl) ?_ _
      clear hS
      go_wp2
      go_meet
      case rel => exact ⟨_, HS, HQ.out.rw_set fc.1 (by decide)⟩
  case rest =>
    clear HG
    obtain ⟨v1, hg, r1⟩ := hcut
    have HG := hid hg
    have R1 := hid r1
    clear hg r1
    generalize wc = wz at *
    go_upto_region 3 with fail
    go_cut [] (fun wx => ∃ v2, Ry w wx #[.slice ta cs.length tc, .slice va us.length vc, .slice la lvs.length lc] r w.heap.size t v1 v2 (.slice none 0 0) ∧ Rw wx w.heap.size 3 1 v1 cs.length (cs.map iv) [.int .i64 (-77)] ∧ Rw wx w.heap.size 4 1 v2 us.length us [.bool true])
    case first =>
      obtain ⟨⟨v8a, X2a, ga, ca, X4a, r8a, k2a, r11a, fa⟩, ⟨v8b, X3b, gb, cb, X4b, r8b, k3b, r11b, fb⟩, v8c, X3c, gc, cc, X4c, r8c, k3c, r11c, fc⟩ := ord3 (P := Try.prog) (B := w.heap.size) wz.drew 35 35 4 (.bool false) 1 1 Try.underlying35 Try.infoB rfl (by decide) (HV.out.2.1.kept (HG.out.kept.drew) (fun _ _ e => e)) (HV.out.2.2) (by omega) (by unfold maxLen; omega) (HG.out.kept.drew.size) (mk := #[.bool true]) rfl (by simp [Value.oneCell'])
      have SZ : Hid (∀ W, Kept No wz.drew W → W.cell? ⟨w.heap.size, 1, none⟩ = some (.slice va us.length vc)) := fun W k => (cell_blk ((HG.out.keep ((Kept.refl No wz).drew)).keep k).box 1).trans rfl
      have hSd := SZ.out _ (Kept.refl No _)
      refine wp_region_held_drew (S := fun w' => w'.cell? ⟨w.heap.size, 1, none⟩ = some (.slice va us.length vc)) (by kernel_rfl) hSd (fun hS => ?_)
      clear hSd
      refine d_take 1 19 rfl rfl (by kernel_rfl) (by kernel_rfl) (by kernel_rfl) (fun _ _ _ h => h) rfl (fun w' hw' => er_fO1 _ rfl w.heap.size rfl) hS ?_
      simp only [Act.put, List.setIfInBounds_toArray, List.set_cons_zero, List.set_cons_succ]
      refine d_take 2 20 rfl rfl (by kernel_rfl) (by kernel_rfl) (by kernel_rfl) (fun _ _ _ h => h) rfl (fun w' hw' => er_lE _ rfl w.heap.size 1 _ rfl hw') hS ?_
      simp only [Act.put, List.setIfInBounds_toArray, List.set_cons_zero, List.set_cons_succ]
      refine d_take 6 24 rfl rfl (by kernel_rfl) (by kernel_rfl) (by kernel_rfl) (fun _ _ _ h => h) rfl (fun w' hw' => er_fO1 _ rfl w.heap.size rfl) hS ?_
      simp only [Act.put, List.setIfInBounds_toArray, List.set_cons_zero, List.set_cons_succ]
      refine d_take 7 25 rfl rfl (by kernel_rfl) (by kernel_rfl) (by kernel_rfl) (fun _ _ _ h => h) rfl (fun w' hw' => er_lE _ rfl w.heap.size 1 _ rfl hw') hS ?_
      simp only [Act.put, List.setIfInBounds_toArray, List.set_cons_zero, List.set_cons_succ]
      refine d_take 8 26 rfl rfl (by kernel_rfl) (by kernel_rfl) (by kernel_rfl) (fun _ _ _ h => h) rfl (fun w' hw' => er_nE _ rfl va us.length vc rfl) hS ?_
      simp only [Act.put, List.setIfInBounds_toArray, List.set_cons_zero, List.set_cons_succ]
      refine d_pair 0 18 4 22 (by kernel_rfl) rfl rfl rfl rfl rfl rfl (er_zE rfl) (er_mE rfl) (SZ.out _ ((Kept.refl No _).alloc _)) (SZ.out _ ((Kept.refl No _).alloc _)) ?_ ?_
      · simp only [Act.put, List.setIfInBounds_toArray, List.set_cons_zero, List.set_cons_succ]
        refine d_pair 3 21 4 22 (by kernel_rfl) rfl rfl rfl rfl rfl rfl (er_aE (.tmp 18) (.tmp 20) rfl _ _ rfl rfl v8a X2a rfl r8a) (er_mE rfl) (SZ.out _ k2a) (SZ.out _ (((Kept.refl No _).alloc _).alloc _)) ?_ ?_
        · simp only [Act.put, List.setIfInBounds_toArray, List.set_cons_zero, List.set_cons_succ]
          refine d_make 4 22 (by kernel_rfl) rfl rfl rfl (er_mE rfl) (SZ.out _ (k2a.alloc _)) ?_
          simp only [Act.put, List.setIfInBounds_toArray, List.set_cons_zero, List.set_cons_succ]
          refine d_make 5 23 (by kernel_rfl) rfl rfl rfl (er_aE (.tmp 21) (.tmp 22) rfl _ _ rfl rfl (.slice (some ⟨ga, 0, none⟩) (us.length + 1) ca) X4a rfl r11a) (SZ.out _ fa.2.1) ?_
          simp only [Act.put, List.setIfInBounds_toArray, List.set_cons_zero, List.set_cons_succ]
          have hS := SZ.out _ fa.2.1
          refine d_take 9 27 rfl rfl (by kernel_rfl) (by kernel_rfl) (by kernel_rfl) (fun _ _ _ h => h) rfl (fun w' hw' => er_sE _ _ rfl ga us.length ca rfl rfl fa.2.2.1) hS ?_
          simp only [Act.put, List.setIfInBounds_toArray, List.set_cons_zero, List.set_cons_succ]
          refine d_take 10 28 rfl rfl (by kernel_rfl) (by kernel_rfl) (by kernel_rfl) (fun _ _ _ h => h) rfl (fun w' hw' => er_fO1 _ rfl t rfl) hS ?_
          simp only [Act.put, List.setIfInBounds_toArray, List.set_cons_zero, List.set_cons_succ]
          have HQ := hid (HG.out.keep ((((Kept.refl No wz).drew)).trans fa.2.1 (fun _ e => e.elim)))
          have HS := HQ.out.set 1 (.slice (some ⟨ga, 0, none⟩) us.length ca) (by rfl)
          refine d_turn 11 (by kernel_rfl) rfl rfl rfl (er_wE _ _ rfl t 1 _ (some ⟨ga, 0, none⟩) us.length ca rfl rfl ((cell_blk HQ.out.told 1).trans rfl) (fz_blk HQ.out.told _)) ((cell_blk HS.box 1).trans rfl) ?_
          refine wpAnyH_done (by kernel_rfl) ?_ _
          clear hS
          go_wp2
          go_meet
          case rel => exact ⟨_, HS, HQ.out.rw_set (R1.out.kept ((((Kept.refl No wz).drew)).trans fa.2.1 (fun _ e => e.elim)) (fun _ _ e => e)) (by decide), HQ.out.rw_set fa.1 (by decide)⟩
        · simp only [Act.put, List.setIfInBounds_toArray, List.set_cons_zero, List.set_cons_succ]
          refine d_make 3 21 (by kernel_rfl) rfl rfl rfl (er_aE (.tmp 18) (.tmp 20) rfl _ _ rfl rfl v8b X3b rfl r8b) (SZ.out _ k3b) ?_
          simp only [Act.put, List.setIfInBounds_toArray, List.set_cons_zero, List.set_cons_succ]
          refine d_make 5 23 (by kernel_rfl) rfl rfl rfl (er_aE (.tmp 21) (.tmp 22) rfl _ _ rfl rfl (.slice (some ⟨gb, 0, none⟩) (us.length + 1) cb) X4b rfl r11b) (SZ.out _ fb.2.1) ?_
          simp only [Act.put, List.setIfInBounds_toArray, List.set_cons_zero, List.set_cons_succ]
          have hS := SZ.out _ fb.2.1
          refine d_take 9 27 rfl rfl (by kernel_rfl) (by kernel_rfl) (by kernel_rfl) (fun _ _ _ h => h) rfl (fun w' hw' => er_sE _ _ rfl gb us.length cb rfl rfl fb.2.2.1) hS ?_
          simp only [Act.put, List.setIfInBounds_toArray, List.set_cons_zero, List.set_cons_succ]
          refine d_take 10 28 rfl rfl (by kernel_rfl) (by kernel_rfl) (by kernel_rfl) (fun _ _ _ h => h) rfl (fun w' hw' => er_fO1 _ rfl t rfl) hS ?_
          simp only [Act.put, List.setIfInBounds_toArray, List.set_cons_zero, List.set_cons_succ]
          have HQ := hid (HG.out.keep ((((Kept.refl No wz).drew)).trans fb.2.1 (fun _ e => e.elim)))
          have HS := HQ.out.set 1 (.slice (some ⟨gb, 0, none⟩) us.length cb) (by rfl)
          refine d_turn 11 (by kernel_rfl) rfl rfl rfl (er_wE _ _ rfl t 1 _ (some ⟨gb, 0, none⟩) us.length cb rfl rfl ((cell_blk HQ.out.told 1).trans rfl) (fz_blk HQ.out.told _)) ((cell_blk HS.box 1).trans rfl) ?_
          refine wpAnyH_done (by kernel_rfl) ?_ _
          clear hS
          go_wp2
          go_meet
          case rel => exact ⟨_, HS, HQ.out.rw_set (R1.out.kept ((((Kept.refl No wz).drew)).trans fb.2.1 (fun _ e => e.elim)) (fun _ _ e => e)) (by decide), HQ.out.rw_set fb.1 (by decide)⟩
      · simp only [Act.put, List.setIfInBounds_toArray, List.set_cons_zero, List.set_cons_succ]
        refine d_make 0 18 (by kernel_rfl) rfl rfl rfl (er_zE rfl) (SZ.out _ (((Kept.refl No _).alloc _).alloc _)) ?_
        simp only [Act.put, List.setIfInBounds_toArray, List.set_cons_zero, List.set_cons_succ]
        refine d_make 3 21 (by kernel_rfl) rfl rfl rfl (er_aE (.tmp 18) (.tmp 20) rfl _ _ rfl rfl v8c X3c rfl r8c) (SZ.out _ k3c) ?_
        simp only [Act.put, List.setIfInBounds_toArray, List.set_cons_zero, List.set_cons_succ]
        refine d_make 5 23 (by kernel_rfl) rfl rfl rfl (er_aE (.tmp 21) (.tmp 22) rfl _ _ rfl rfl (.slice (some ⟨gc, 0, none⟩) (us.length + 1) cc) X4c rfl r11c) (SZ.out _ fc.2.1) ?_
        simp only [Act.put, List.setIfInBounds_toArray, List.set_cons_zero, List.set_cons_succ]
        have hS := SZ.out _ fc.2.1
        refine d_take 9 27 rfl rfl (by kernel_rfl) (by kernel_rfl) (by kernel_rfl) (fun _ _ _ h => h) rfl (fun w' hw' => er_sE _ _ rfl gc us.length cc rfl rfl fc.2.2.1) hS ?_
        simp only [Act.put, List.setIfInBounds_toArray, List.set_cons_zero, List.set_cons_succ]
        refine d_take 10 28 rfl rfl (by kernel_rfl) (by kernel_rfl) (by kernel_rfl) (fun _ _ _ h => h) rfl (fun w' hw' => er_fO1 _ rfl t rfl) hS ?_
        simp only [Act.put, List.setIfInBounds_toArray, List.set_cons_zero, List.set_cons_succ]
        have HQ := hid (HG.out.keep ((((Kept.refl No wz).drew)).trans fc.2.1 (fun _ e => e.elim)))
        have HS := HQ.out.set 1 (.slice (some ⟨gc, 0, none⟩) us.length cc) (by rfl)
        refine d_turn 11 (by kernel_rfl) rfl rfl rfl (er_wE _ _ rfl t 1 _ (some ⟨gc, 0, none⟩) us.length cc rfl rfl ((cell_blk HQ.out.told 1).trans rfl) (fz_blk HQ.out.told _)) ((cell_blk HS.box 1).trans rfl) ?_
        refine wpAnyH_done (by kernel_rfl) ?_ _
        clear hS
        go_wp2
        go_meet
        case rel => exact ⟨_, HS, HQ.out.rw_set (R1.out.kept ((((Kept.refl No wz).drew)).trans fc.2.1 (fun _ e => e.elim)) (fun _ _ e => e)) (by decide), HQ.out.rw_set fc.1 (by decide)⟩
    case rest =>
      clear HG R1
      obtain ⟨v2, hg, r1, r2⟩ := hcut
      have HZ0 : Hid (Rz w wc #[.slice ta cs.length tc, .slice va us.length vc, .slice la lvs.length lc] r w.heap.size t v1 v2 (.slice none 0 0) cs us xss 0 [] []) := ⟨hg, r1, r2, World.ownsRow_nil _ _ _ _, rfl, rfl, fun i lv ms xs a => (by cases a)⟩
      clear hg r1 r2 HV
      go_upto_region 5 with fail
      go_loopw [4] (fun x wr => ∃ (m : Nat) (tb : Value) (lv' : List Value) (ms' : List (List Value)), m ≤ lvs.length ∧ x = .int .i64 m ∧ Rz w wr #[.slice ta cs.length tc, .slice va us.length vc, .slice la lvs.length lc] r w.heap.size t v1 v2 tb cs us xss m lv' ms') (fun x _ => lvs.length - (intOf x).toNat)
      case atStart => exact ⟨0, .slice none 0 0, [], [], Nat.zero_le _, rfl, HZ0.out⟩
      case round =>
        clear HZ0
        obtain ⟨m, tb, lv', ms', hm, rfl, hrz⟩ := hrel
        have HT := hid hrz
        have s2 : wr.cell? ⟨w.heap.size, 2, none⟩ = some (.slice la lvs.length lc) := (cell_blk hrz.ry.box 2).trans rfl
        clear hrz
        by_cases hlt : m < lvs.length
        · have hltz : (m : Int) < (lvs.length : Int) := by omega
          obtain ⟨_, _, hzv, hzs⟩ := HO.out.1.bufs
          injection hzv with e1 _ e2
          subst e1 e2
          have g1 : lvs[m]? = some lvs[m] := List.getElem?_eq_getElem hlt
          have hl1 : m < mss.length := by rw [HO.out.1.len1]; exact hlt
          have hl2 : m < xss.length := by rw [HO.out.1.len2]; exact hlt
          have g2 : mss[m]? = some mss[m] := List.getElem?_eq_getElem hl1
          have g3 : xss[m]? = some xss[m] := List.getElem?_eq_getElem hl2
          obtain ⟨⟨na, nc, hlv, hns⟩, hxl, hmsg⟩ := HO.out.1.ent m _ _ _ g1 g2 g3
          obtain ⟨zb, zo, rfl, _, ez⟩ := hzs.at' m _ g1
          rw [hlv] at ez
          have hbx := HO.out.2 _ (List.mem_of_getElem? g3)
          generalize mss[m] = ns at *
          generalize xss[m] = xs at *
          have hnc := hns.cap
          have hnm := hns.max
          have HE : Hid (Vs w F na ns.length nc ns ∧ xs.length = ns.length ∧ (∀ (j : Nat) (v : Value) (x : List Int), ns[j]? = some v → xs[j]? = some x → ∃ a c, v = .slice a x.length c ∧ Zs w F a x.length c x) ∧ (∀ x ∈ xs, x.length ≤ 1099511627775) ∧ xss[m]? = some xs ∧ w.cell? ⟨zb, zo + m, none⟩ = some (.slice na ns.length nc)) := ⟨hns, hxl, hmsg, hbx.2, g3, ez⟩
          have hnl : ns.length ≤ 1099511627775 := by rw [← hxl]; exact hbx.1
          clear g1 g2 g3 hns hxl hmsg hbx hlv hzs hl1 hl2 ez
          go_upto_region 9 with fail
          clear s2
          obtain ⟨w0, hw0⟩ : ∃ w0, w0 = wr := ⟨_, rfl⟩
          subst hw0
          go_loopw [5, 6] (fun u x wi => ∃ (j : Nat) (ps : List Value), j ≤ ns.length ∧ x = .int .i64 j ∧ Lm wi w0.heap.size u ps (xs.take j) ∧ ps.length = j ∧ Kept No w0 wi) (fun u x _ => ns.length - (intOf x).toNat)
          case atStart => exact ⟨0, [], Nat.zero_le _, rfl, Lm.none _ _, rfl, Kept.refl No _⟩
          case round =>
            obtain ⟨j, ps, hj, rfl, hll, hpl, hki⟩ := hrel
            obtain ⟨pa, pn, pc, rfl⟩ := own_slice hll.own
            have HL : Hid (Lm wr w0.heap.size (.slice pa pn pc) ps (xs.take j) ∧ Kept No w0 wr ∧ ps.length = j) := ⟨hll, hki, hpl⟩
            have hkw := HT.out.ry.kept.trans hki (fun _ e => e.elim)
            have s2 : wr.cell? ⟨w.heap.size, 2, none⟩ = some (.slice (some ⟨zb, zo, none⟩) lvs.length lc) := (cell_blk (hki.at' HT.out.ry.box (fun e => e)) 2).trans rfl
            have ez : wr.cell? ⟨zb, zo + m, none⟩ = some (.slice na ns.length nc) := hkw.cell HE.out.2.2.2.2.2 (fun e => e)
            clear hll hki hpl
            by_cases hlt3 : j < ns.length
            · have hltz3 : (j : Int) < (ns.length : Int) := by omega
              have hjx : j < xs.length := by rw [HE.out.2.1]; exact hlt3
              have g1 : ns[j]? = some ns[j] := List.getElem?_eq_getElem hlt3
              have g2 : xs[j]? = some xs[j] := List.getElem?_eq_getElem hjx
              obtain ⟨xa, xc, hv, hzx⟩ := HE.out.2.2.1 j _ _ g1 g2
              obtain ⟨nb', no, rfl, _, en⟩ := (HE.out.1.kept hkw (fun _ _ e => e)).at' j _ g1
              rw [hv] at en
              have hx17 := HE.out.2.2.2.1 _ (List.mem_of_getElem? g2)
              have HX : Hid (xs.take (j + 1) = xs.take j ++ [xs[j]]) := by
                show List.take (j + 1) xs = _
                rw [List.take_add_one, g2]
                rfl
              generalize xs[j] = x at *
              have VK := hid ((hzx.kept hkw (fun _ _ e => e)).vs.vk)
              clear g1 g2 hv hzx hkw
              go_upto_region 11 with fail
              obtain ⟨wz, hwz⟩ : ∃ wz, wz = wr := ⟨_, rfl⟩
              subst hwz
              have hSd0 : (wz.drew.cell? ⟨w.heap.size, 2, none⟩ = some (.slice (some ⟨zb, zo, none⟩) lvs.length lc) ∧ wz.drew.cell? ⟨zb, zo + m, none⟩ = some (.slice (some ⟨nb', no, none⟩) ns.length nc) ∧ wz.drew.cell? ⟨nb', no + j, none⟩ = some (.slice xa x.length xc)) := ⟨s2, ez, en⟩
              have HN2 : Hid (nb' < w0.heap.size) := (by have h9 := HE.out.1.at' j _ (List.getElem?_eq_getElem hlt3); obtain ⟨b9, o9, e9, _, c9⟩ := h9; injection e9 with e9; injection e9 with e9 _ _; subst e9; exact Nat.lt_of_lt_of_le (cell_lt c9) HT.out.ry.kept.size)
              clear s2 ez en
              obtain ⟨⟨v8a, X2a, ga, ca, X4a, r8a, k2a, r11a, fa⟩, ⟨v8b, X3b, gb, cb, X4b, r8b, k3b, r11b, fb⟩, v8c, X3c, gc, cc, X4c, r8c, k3c, r11c, fc⟩ := ord3 (P := Try.prog) (B := w0.heap.size) wz.drew 31 31 2 (.int .i64 0) 1 8 Try.underlying31 Try.infoW rfl (by decide) (VK.out.kept ((Kept.refl No wz).drew) (fun _ _ e => e)) (iv_one x) (by omega) (by unfold maxLen; omega) (HL.out.2.1.drew.size) (mk := #[.int .i64 (-77)]) rfl (by simp [Value.oneCell'])
              have SZ : Hid (∀ W, Kept No wz.drew W → (W.cell? ⟨w.heap.size, 2, none⟩ = some (.slice (some ⟨zb, zo, none⟩) lvs.length lc) ∧ W.cell? ⟨zb, zo + m, none⟩ = some (.slice (some ⟨nb', no, none⟩) ns.length nc) ∧ W.cell? ⟨nb', no + j, none⟩ = some (.slice xa x.length xc))) := fun W k => ⟨k.cell hSd0.1 (fun e => e), k.cell hSd0.2.1 (fun e => e), k.cell hSd0.2.2 (fun e => e)⟩
              have hSd := SZ.out _ (Kept.refl No _)
              refine wp_region_held_drew (S := fun w' => (w'.cell? ⟨w.heap.size, 2, none⟩ = some (.slice (some ⟨zb, zo, none⟩) lvs.length lc) ∧ w'.cell? ⟨zb, zo + m, none⟩ = some (.slice (some ⟨nb', no, none⟩) ns.length nc) ∧ w'.cell? ⟨nb', no + j, none⟩ = some (.slice xa x.length xc))) (by kernel_rfl) hSd (fun hS => ?_)
              clear hSd
              refine d_take 0 46 rfl rfl (by kernel_rfl) (by kernel_rfl) (by kernel_rfl) (fun _ _ _ h => h) rfl (fun w' hw' => er_mv _ rfl (.slice pa pn pc) rfl) hS ?_
              simp only [Act.put, List.setIfInBounds_toArray, List.set_cons_zero, List.set_cons_succ]
              refine d_take 2 48 rfl rfl (by kernel_rfl) (by kernel_rfl) (by kernel_rfl) (fun _ _ _ h => h) rfl (fun w' hw' => er_fO2 _ rfl w.heap.size rfl) hS ?_
              simp only [Act.put, List.setIfInBounds_toArray, List.set_cons_zero, List.set_cons_succ]
              refine d_take 3 49 rfl rfl (by kernel_rfl) (by kernel_rfl) (by kernel_rfl) (fun _ _ _ h => h) rfl (fun w' hw' => er_ldBB _ rfl w.heap.size 2 _ rfl hw'.1) hS ?_
              simp only [Act.put, List.setIfInBounds_toArray, List.set_cons_zero, List.set_cons_succ]
              refine d_take 4 50 rfl rfl (by kernel_rfl) (by kernel_rfl) (by kernel_rfl) (fun _ _ _ h => h) rfl (fun w' hw' => er_mv _ rfl (.int .i64 (m : Int)) rfl) hS ?_
              simp only [Act.put, List.setIfInBounds_toArray, List.set_cons_zero, List.set_cons_succ]
              refine d_take 5 51 rfl rfl (by kernel_rfl) (by kernel_rfl) (by kernel_rfl) (fun _ _ _ h => h) rfl (fun w' hw' => er_ixBB _ _ rfl zb zo m lvs.length lc rfl rfl hlt) hS ?_
              simp only [Act.put, List.setIfInBounds_toArray, List.set_cons_zero, List.set_cons_succ]
              refine d_take 6 52 rfl rfl (by kernel_rfl) (by kernel_rfl) (by kernel_rfl) (fun _ _ _ h => h) rfl (fun w' hw' => er_ldLL _ rfl zb (zo + m) _ rfl hw'.2.1) hS ?_
              simp only [Act.put, List.setIfInBounds_toArray, List.set_cons_zero, List.set_cons_succ]
              refine d_take 7 53 rfl rfl (by kernel_rfl) (by kernel_rfl) (by kernel_rfl) (fun _ _ _ h => h) rfl (fun w' hw' => er_mv _ rfl (.int .i64 (j : Int)) rfl) hS ?_
              simp only [Act.put, List.setIfInBounds_toArray, List.set_cons_zero, List.set_cons_succ]
              refine d_take 8 54 rfl rfl (by kernel_rfl) (by kernel_rfl) (by kernel_rfl) (fun _ _ _ h => h) rfl (fun w' hw' => er_ixLL _ _ rfl nb' no j ns.length nc rfl rfl hlt3) hS ?_
              simp only [Act.put, List.setIfInBounds_toArray, List.set_cons_zero, List.set_cons_succ]
              refine d_take 9 55 rfl rfl (by kernel_rfl) (by kernel_rfl) (by kernel_rfl) (fun _ _ _ h => h) rfl (fun w' hw' => er_ldL _ rfl nb' (no + j) _ rfl hw'.2.2) hS ?_
              simp only [Act.put, List.setIfInBounds_toArray, List.set_cons_zero, List.set_cons_succ]
              refine d_take 13 59 rfl rfl (by kernel_rfl) (by kernel_rfl) (by kernel_rfl) (fun _ _ _ h => h) rfl (fun w' hw' => er_fO2 _ rfl w.heap.size rfl) hS ?_
              simp only [Act.put, List.setIfInBounds_toArray, List.set_cons_zero, List.set_cons_succ]
              refine d_take 14 60 rfl rfl (by kernel_rfl) (by kernel_rfl) (by kernel_rfl) (fun _ _ _ h => h) rfl (fun w' hw' => er_ldBB _ rfl w.heap.size 2 _ rfl hw'.1) hS ?_
              simp only [Act.put, List.setIfInBounds_toArray, List.set_cons_zero, List.set_cons_succ]
              refine d_take 15 61 rfl rfl (by kernel_rfl) (by kernel_rfl) (by kernel_rfl) (fun _ _ _ h => h) rfl (fun w' hw' => er_mv _ rfl (.int .i64 (m : Int)) rfl) hS ?_
              simp only [Act.put, List.setIfInBounds_toArray, List.set_cons_zero, List.set_cons_succ]
              refine d_take 16 62 rfl rfl (by kernel_rfl) (by kernel_rfl) (by kernel_rfl) (fun _ _ _ h => h) rfl (fun w' hw' => er_ixBB _ _ rfl zb zo m lvs.length lc rfl rfl hlt) hS ?_
              simp only [Act.put, List.setIfInBounds_toArray, List.set_cons_zero, List.set_cons_succ]
              refine d_take 17 63 rfl rfl (by kernel_rfl) (by kernel_rfl) (by kernel_rfl) (fun _ _ _ h => h) rfl (fun w' hw' => er_ldLL _ rfl zb (zo + m) _ rfl hw'.2.1) hS ?_
              simp only [Act.put, List.setIfInBounds_toArray, List.set_cons_zero, List.set_cons_succ]
              refine d_take 18 64 rfl rfl (by kernel_rfl) (by kernel_rfl) (by kernel_rfl) (fun _ _ _ h => h) rfl (fun w' hw' => er_mv _ rfl (.int .i64 (j : Int)) rfl) hS ?_
              simp only [Act.put, List.setIfInBounds_toArray, List.set_cons_zero, List.set_cons_succ]
              refine d_take 19 65 rfl rfl (by kernel_rfl) (by kernel_rfl) (by kernel_rfl) (fun _ _ _ h => h) rfl (fun w' hw' => er_ixLL _ _ rfl nb' no j ns.length nc rfl rfl hlt3) hS ?_
              simp only [Act.put, List.setIfInBounds_toArray, List.set_cons_zero, List.set_cons_succ]
              refine d_take 20 66 rfl rfl (by kernel_rfl) (by kernel_rfl) (by kernel_rfl) (fun _ _ _ h => h) rfl (fun w' hw' => er_ldL _ rfl nb' (no + j) _ rfl hw'.2.2) hS ?_
              simp only [Act.put, List.setIfInBounds_toArray, List.set_cons_zero, List.set_cons_succ]
              refine d_take 21 67 rfl rfl (by kernel_rfl) (by kernel_rfl) (by kernel_rfl) (fun _ _ _ h => h) rfl (fun w' hw' => er_nW _ rfl xa x.length xc rfl) hS ?_
              simp only [Act.put, List.setIfInBounds_toArray, List.set_cons_zero, List.set_cons_succ]
              refine d_pair 1 47 11 57 (by kernel_rfl) rfl rfl rfl rfl rfl rfl (er_zW rfl) (er_mW rfl) (SZ.out _ ((Kept.refl No _).alloc _)) (SZ.out _ ((Kept.refl No _).alloc _)) ?_ ?_
              · simp only [Act.put, List.setIfInBounds_toArray, List.set_cons_zero, List.set_cons_succ]
                refine d_pair 10 56 11 57 (by kernel_rfl) rfl rfl rfl rfl rfl rfl (er_aW (.tmp 47) (.tmp 55) rfl _ _ rfl rfl v8a X2a rfl r8a) (er_mW rfl) (SZ.out _ k2a) (SZ.out _ (((Kept.refl No _).alloc _).alloc _)) ?_ ?_
                · simp only [Act.put, List.setIfInBounds_toArray, List.set_cons_zero, List.set_cons_succ]
                  refine d_make 11 57 (by kernel_rfl) rfl rfl rfl (er_mW rfl) (SZ.out _ (k2a.alloc _)) ?_
                  simp only [Act.put, List.setIfInBounds_toArray, List.set_cons_zero, List.set_cons_succ]
                  refine d_make 12 58 (by kernel_rfl) rfl rfl rfl (er_aW (.tmp 56) (.tmp 57) rfl _ _ rfl rfl (.slice (some ⟨ga, 0, none⟩) (x.length + 1) ca) X4a rfl r11a) (SZ.out _ fa.2.1) ?_
                  simp only [Act.put, List.setIfInBounds_toArray, List.set_cons_zero, List.set_cons_succ]
                  have hS := SZ.out _ fa.2.1
                  refine d_take 22 68 rfl rfl (by kernel_rfl) (by kernel_rfl) (by kernel_rfl) (fun _ _ _ h => h) rfl (fun w' hw' => er_sW _ _ rfl ga x.length ca rfl rfl fa.2.2.1) hS ?_
                  simp only [Act.put, List.setIfInBounds_toArray, List.set_cons_zero, List.set_cons_succ]
                  have KX : Kept No wz X4a := (((Kept.refl No wz).drew)).trans fa.2.1 (fun _ e => e.elim)
                  obtain ⟨ya, yc, wa, ra, oa, ka⟩ := app_run (X := X4a) (u := .slice (some ⟨ga, 0, none⟩) x.length ca) (KX.owns HL.out.1.own (fun _ _ e => e)) (by have := HL.out.2.1.size; have := KX.size; omega) rfl (by rw [HL.out.2.2]; omega)
                  refine d_make 23 69 (by kernel_rfl) rfl rfl rfl (er_bK _ rfl (some ⟨ga, 0, none⟩) x.length ca rfl) (SZ.out _ (fa.2.1.alloc _)) ?_
                  simp only [Act.put, List.setIfInBounds_toArray, List.set_cons_zero, List.set_cons_succ]
                  have kfin : Kept No w0 wa := (HL.out.2.1.trans KX (fun _ e => e.elim)).trans ka (fun k e => .inr (owns_at (KX.owns HL.out.1.own (fun _ _ e => e)) e).1)
                  have hSw : (wa.cell? ⟨w.heap.size, 2, none⟩ = some (.slice (some ⟨zb, zo, none⟩) lvs.length lc) ∧ wa.cell? ⟨zb, zo + m, none⟩ = some (.slice (some ⟨nb', no, none⟩) ns.length nc) ∧ wa.cell? ⟨nb', no + j, none⟩ = some (.slice xa x.length xc)) := by
                    have fr : ∀ k, (Value.slice pa pn pc).ownBlock = some k → w0.heap.size ≤ k := fun k e => (owns_at HL.out.1.own e).1
                    have lt0 := heap_lt HT.out.ry.box
                    refine ⟨ka.cell hS.1 (fun e => ?_), ka.cell hS.2.1 (fun e => ?_), ka.cell hS.2.2 (fun e => ?_)⟩
                    · have h8 : w0.heap.size ≤ w.heap.size := fr _ e
                      omega
                    · have h8 : w0.heap.size ≤ zb := fr _ e
                      have h9 : zb < w.heap.size := cell_lt HE.out.2.2.2.2.2
                      have := HT.out.ry.kept.size
                      omega
                    · have h8 : w0.heap.size ≤ nb' := fr _ e
                      have := HN2.out
                      omega
                  refine d_make 24 70 (by kernel_rfl) rfl rfl rfl (er_aK (.tmp 46) (.tmp 69) rfl _ _ rfl rfl (.slice ya (ps.length + 1) yc) wa rfl ra) hSw ?_
                  simp only [Act.put, List.setIfInBounds_toArray, List.set_cons_zero, List.set_cons_succ]
                  have hS := hSw
                  refine d_take 25 5 rfl rfl (by kernel_rfl) (by kernel_rfl) (by kernel_rfl) (fun _ _ _ h => h) rfl (fun w' hw' => er_as _ rfl (.slice ya (ps.length + 1) yc) rfl) hS ?_
                  simp only [Act.put, List.setIfInBounds_toArray, List.set_cons_zero, List.set_cons_succ]
                  refine wpAnyH_done (by kernel_rfl) ?_ _
                  have HF : Hid (Lm wa w0.heap.size (.slice ya (ps.length + 1) yc) (ps ++ [.slice (some ⟨ga, 0, none⟩) x.length ca]) (xs.take (j + 1)) ∧ Kept No w0 wa) := ⟨by rw [HX.out]; exact HL.out.1.more KX fa.1 oa ka, kfin⟩
                  have HP := hid HL.out.2.2
                  clear hS hSw ra oa ka kfin KX
                  go_wp2
                  go_roundw
                  case rel =>
                    refine ⟨j + 1, ps ++ [.slice (some ⟨ga, 0, none⟩) x.length ca], by omega, by go_num, ?_, ?_, HF.out.2⟩
                    · exact HF.out.1
                    · have h7 := HP.out
                      rw [List.length_append, List.length_singleton]
                      omega
                  case measure => simp [intOf]; omega
                · simp only [Act.put, List.setIfInBounds_toArray, List.set_cons_zero, List.set_cons_succ]
                  refine d_make 10 56 (by kernel_rfl) rfl rfl rfl (er_aW (.tmp 47) (.tmp 55) rfl _ _ rfl rfl v8b X3b rfl r8b) (SZ.out _ k3b) ?_
                  simp only [Act.put, List.setIfInBounds_toArray, List.set_cons_zero, List.set_cons_succ]
                  refine d_make 12 58 (by kernel_rfl) rfl rfl rfl (er_aW (.tmp 56) (.tmp 57) rfl _ _ rfl rfl (.slice (some ⟨gb, 0, none⟩) (x.length + 1) cb) X4b rfl r11b) (SZ.out _ fb.2.1) ?_
                  simp only [Act.put, List.setIfInBounds_toArray, List.set_cons_zero, List.set_cons_succ]
                  have hS := SZ.out _ fb.2.1
                  refine d_take 22 68 rfl rfl (by kernel_rfl) (by kernel_rfl) (by kernel_rfl) (fun _ _ _ h => h) rfl (fun w' hw' => er_sW _ _ rfl gb x.length cb rfl rfl fb.2.2.1) hS ?_
                  simp only [Act.put, List.setIfInBounds_toArray, List.set_cons_zero, List.set_cons_succ]
                  have KX : Kept No wz X4b := (((Kept.refl No wz).drew)).trans fb.2.1 (fun _ e => e.elim)
                  obtain ⟨ya, yc, wa, ra, oa, ka⟩ := app_run (X := X4b) (u := .slice (some ⟨gb, 0, none⟩) x.length cb) (KX.owns HL.out.1.own (fun _ _ e => e)) (by have := HL.out.2.1.size; have := KX.size; omega) rfl (by rw [HL.out.2.2]; omega)
                  refine d_make 23 69 (by kernel_rfl) rfl rfl rfl (er_bK _ rfl (some ⟨gb, 0, none⟩) x.length cb rfl) (SZ.out _ (fb.2.1.alloc _)) ?_
                  simp only [Act.put, List.setIfInBounds_toArray, List.set_cons_zero, List.set_cons_succ]
                  have kfin : Kept No w0 wa := (HL.out.2.1.trans KX (fun _ e => e.elim)).trans ka (fun k e => .inr (owns_at (KX.owns HL.out.1.own (fun _ _ e => e)) e).1)
                  have hSw : (wa.cell? ⟨w.heap.size, 2, none⟩ = some (.slice (some ⟨zb, zo, none⟩) lvs.length lc) ∧ wa.cell? ⟨zb, zo + m, none⟩ = some (.slice (some ⟨nb', no, none⟩) ns.length nc) ∧ wa.cell? ⟨nb', no + j, none⟩ = some (.slice xa x.length xc)) := by
                    have fr : ∀ k, (Value.slice pa pn pc).ownBlock = some k → w0.heap.size ≤ k := fun k e => (owns_at HL.out.1.own e).1
                    have lt0 := heap_lt HT.out.ry.box
                    refine ⟨ka.cell hS.1 (fun e => ?_), ka.cell hS.2.1 (fun e => ?_), ka.cell hS.2.2 (fun e => ?_)⟩
                    · have h8 : w0.heap.size ≤ w.heap.size := fr _ e
                      omega
                    · have h8 : w0.heap.size ≤ zb := fr _ e
                      have h9 : zb < w.heap.size := cell_lt HE.out.2.2.2.2.2
                      have := HT.out.ry.kept.size
                      omega
                    · have h8 : w0.heap.size ≤ nb' := fr _ e
                      have := HN2.out
                      omega
                  refine d_make 24 70 (by kernel_rfl) rfl rfl rfl (er_aK (.tmp 46) (.tmp 69) rfl _ _ rfl rfl (.slice ya (ps.length + 1) yc) wa rfl ra) hSw ?_
                  simp only [Act.put, List.setIfInBounds_toArray, List.set_cons_zero, List.set_cons_succ]
                  have hS := hSw
                  refine d_take 25 5 rfl rfl (by kernel_rfl) (by kernel_rfl) (by kernel_rfl) (fun _ _ _ h => h) rfl (fun w' hw' => er_as _ rfl (.slice ya (ps.length + 1) yc) rfl) hS ?_
                  simp only [Act.put, List.setIfInBounds_toArray, List.set_cons_zero, List.set_cons_succ]
                  refine wpAnyH_done (by kernel_rfl) ?_ _
                  have HF : Hid (Lm wa w0.heap.size (.slice ya (ps.length + 1) yc) (ps ++ [.slice (some ⟨gb, 0, none⟩) x.length cb]) (xs.take (j + 1)) ∧ Kept No w0 wa) := ⟨by rw [HX.out]; exact HL.out.1.more KX fb.1 oa ka, kfin⟩
                  have HP := hid HL.out.2.2
                  clear hS hSw ra oa ka kfin KX
                  go_wp2
                  go_roundw
                  case rel =>
                    refine ⟨j + 1, ps ++ [.slice (some ⟨gb, 0, none⟩) x.length cb], by omega, by go_num, ?_, ?_, HF.out.2⟩
                    · exact HF.out.1
                    · have h7 := HP.out
                      rw [List.length_append, List.length_singleton]
                      omega
                  case measure => simp [intOf]; omega
              · simp only [Act.put, List.setIfInBounds_toArray, List.set_cons_zero, List.set_cons_succ]
                refine d_make 1 47 (by kernel_rfl) rfl rfl rfl (er_zW rfl) (SZ.out _ (((Kept.refl No _).alloc _).alloc _)) ?_
                simp only [Act.put, List.setIfInBounds_toArray, List.set_cons_zero, List.set_cons_succ]
                refine d_make 10 56 (by kernel_rfl) rfl rfl rfl (er_aW (.tmp 47) (.tmp 55) rfl _ _ rfl rfl v8c X3c rfl r8c) (SZ.out _ k3c) ?_
                simp only [Act.put, List.setIfInBounds_toArray, List.set_cons_zero, List.set_cons_succ]
                refine d_make 12 58 (by kernel_rfl) rfl rfl rfl (er_aW (.tmp 56) (.tmp 57) rfl _ _ rfl rfl (.slice (some ⟨gc, 0, none⟩) (x.length + 1) cc) X4c rfl r11c) (SZ.out _ fc.2.1) ?_
                simp only [Act.put, List.setIfInBounds_toArray, List.set_cons_zero, List.set_cons_succ]
                have hS := SZ.out _ fc.2.1
                refine d_take 22 68 rfl rfl (by kernel_rfl) (by kernel_rfl) (by kernel_rfl) (fun _ _ _ h => h) rfl (fun w' hw' => er_sW _ _ rfl gc x.length cc rfl rfl fc.2.2.1) hS ?_
                simp only [Act.put, List.setIfInBounds_toArray, List.set_cons_zero, List.set_cons_succ]
                have KX : Kept No wz X4c := (((Kept.refl No wz).drew)).trans fc.2.1 (fun _ e => e.elim)
                obtain ⟨ya, yc, wa, ra, oa, ka⟩ := app_run (X := X4c) (u := .slice (some ⟨gc, 0, none⟩) x.length cc) (KX.owns HL.out.1.own (fun _ _ e => e)) (by have := HL.out.2.1.size; have := KX.size; omega) rfl (by rw [HL.out.2.2]; omega)
                refine d_make 23 69 (by kernel_rfl) rfl rfl rfl (er_bK _ rfl (some ⟨gc, 0, none⟩) x.length cc rfl) (SZ.out _ (fc.2.1.alloc _)) ?_
                simp only [Act.put, List.setIfInBounds_toArray, List.set_cons_zero, List.set_cons_succ]
                have kfin : Kept No w0 wa := (HL.out.2.1.trans KX (fun _ e => e.elim)).trans ka (fun k e => .inr (owns_at (KX.owns HL.out.1.own (fun _ _ e => e)) e).1)
                have hSw : (wa.cell? ⟨w.heap.size, 2, none⟩ = some (.slice (some ⟨zb, zo, none⟩) lvs.length lc) ∧ wa.cell? ⟨zb, zo + m, none⟩ = some (.slice (some ⟨nb', no, none⟩) ns.length nc) ∧ wa.cell? ⟨nb', no + j, none⟩ = some (.slice xa x.length xc)) := by
                  have fr : ∀ k, (Value.slice pa pn pc).ownBlock = some k → w0.heap.size ≤ k := fun k e => (owns_at HL.out.1.own e).1
                  have lt0 := heap_lt HT.out.ry.box
                  refine ⟨ka.cell hS.1 (fun e => ?_), ka.cell hS.2.1 (fun e => ?_), ka.cell hS.2.2 (fun e => ?_)⟩
                  · have h8 : w0.heap.size ≤ w.heap.size := fr _ e
                    omega
                  · have h8 : w0.heap.size ≤ zb := fr _ e
                    have h9 : zb < w.heap.size := cell_lt HE.out.2.2.2.2.2
                    have := HT.out.ry.kept.size
                    omega
                  · have h8 : w0.heap.size ≤ nb' := fr _ e
                    have := HN2.out
                    omega
                refine d_make 24 70 (by kernel_rfl) rfl rfl rfl (er_aK (.tmp 46) (.tmp 69) rfl _ _ rfl rfl (.slice ya (ps.length + 1) yc) wa rfl ra) hSw ?_
                simp only [Act.put, List.setIfInBounds_toArray, List.set_cons_zero, List.set_cons_succ]
                have hS := hSw
                refine d_take 25 5 rfl rfl (by kernel_rfl) (by kernel_rfl) (by kernel_rfl) (fun _ _ _ h => h) rfl (fun w' hw' => er_as _ rfl (.slice ya (ps.length + 1) yc) rfl) hS ?_
                simp only [Act.put, List.setIfInBounds_toArray, List.set_cons_zero, List.set_cons_succ]
                refine wpAnyH_done (by kernel_rfl) ?_ _
                have HF : Hid (Lm wa w0.heap.size (.slice ya (ps.length + 1) yc) (ps ++ [.slice (some ⟨gc, 0, none⟩) x.length cc]) (xs.take (j + 1)) ∧ Kept No w0 wa) := ⟨by rw [HX.out]; exact HL.out.1.more KX fc.1 oa ka, kfin⟩
                have HP := hid HL.out.2.2
                clear hS hSw ra oa ka kfin KX
                go_wp2
                go_roundw
                case rel =>
                  refine ⟨j + 1, ps ++ [.slice (some ⟨gc, 0, none⟩) x.length cc], by omega, by go_num, ?_, ?_, HF.out.2⟩
                  · exact HF.out.1
                  · have h7 := HP.out
                    rw [List.length_append, List.length_singleton]
                    omega
                case measure => simp [intOf]; omega
            · have hltz3 : ¬ (j : Int) < (ns.length : Int) := by omega
              have hjn : j = ns.length := by omega
              have HX : Hid (xs.take j = xs) := by
                show List.take j xs = xs
                rw [hjn, ← HE.out.2.1, List.take_length]
              have hpn : ps.length = ns.length := by rw [HL.out.2.2]; exact hjn
              clear hjn hkw
              go_upto_region 12 with fail
              obtain ⟨wz, hwz⟩ : ∃ wz, wz = wr := ⟨_, rfl⟩
              subst hwz
              have hS0 : (wz.drew.cell? ⟨w.heap.size, 2, none⟩ = some (.slice (some ⟨zb, zo, none⟩) lvs.length lc) ∧ wz.drew.cell? ⟨zb, zo + m, none⟩ = some (.slice na ns.length nc)) := ⟨s2, ez⟩
              obtain ⟨g, c, X3, r3, rw3, k3, s3, s4⟩ := ap2 (P := Try.prog) (w := ((wz.drew.alloc (.cells #[.int .i64 (-77)] 2)).alloc (.cells #[.slice (some ⟨wz.drew.heap.size, 0, none⟩) 1 1] 31))) (B := w0.heap.size) (h := (wz.drew.alloc (.cells #[.int .i64 (-77)] 2)).heap.size) (mk := #[.slice (some ⟨wz.drew.heap.size, 0, none⟩) 1 1]) (n := ns.length) (us := ps) 40 40 31 (.slice none 0 0) 1 24 Try.underlying40 Try.infoL rfl (by decide) (v := .slice pa pn pc) (by have h5 := ((((Kept.refl No wz).drew).alloc (.cells #[.int .i64 (-77)] 2)).alloc (.cells #[.slice (some ⟨wz.drew.heap.size, 0, none⟩) 1 1] 31)).owns HL.out.1.own (fun _ _ e => e); rw [hpn] at h5; exact h5) (by have := HL.out.2.1.size; rw [World.size_alloc, World.size_alloc]; show w0.heap.size ≤ wz.heap.size + 1 + 1; omega) (alloc_new _ _) rfl (by simp [Value.oneCell']) (by unfold maxLen; omega) (by omega)
              have SK : Hid (∀ W, Kept No wz.drew W → (W.cell? ⟨w.heap.size, 2, none⟩ = some (.slice (some ⟨zb, zo, none⟩) lvs.length lc) ∧ W.cell? ⟨zb, zo + m, none⟩ = some (.slice na ns.length nc))) := fun W k => ⟨k.cell hS0.1 (fun e => e), k.cell hS0.2 (fun e => e)⟩
              have hSx : (X3.cell? ⟨w.heap.size, 2, none⟩ = some (.slice (some ⟨zb, zo, none⟩) lvs.length lc) ∧ X3.cell? ⟨zb, zo + m, none⟩ = some (.slice na ns.length nc)) := by
                have fr : ∀ k, (Value.slice pa pn pc).ownBlock = some k → w0.heap.size ≤ k := fun k e => (owns_at HL.out.1.own e).1
                have lt0 := heap_lt HT.out.ry.box
                have hk := SK.out _ (((Kept.refl No wz.drew).alloc (.cells #[.int .i64 (-77)] 2)).alloc (.cells #[.slice (some ⟨wz.drew.heap.size, 0, none⟩) 1 1] 31))
                refine ⟨k3.cell hk.1 (fun e => ?_), k3.cell hk.2 (fun e => ?_)⟩
                · have h8 : w0.heap.size ≤ w.heap.size := fr _ e
                  omega
                · have h8 : w0.heap.size ≤ zb := fr _ e
                  have h9 : zb < w.heap.size := cell_lt HE.out.2.2.2.2.2
                  have := HT.out.ry.kept.size
                  omega
              clear s2 ez
              refine wp_region_held_drew (S := fun w' => (w'.cell? ⟨w.heap.size, 2, none⟩ = some (.slice (some ⟨zb, zo, none⟩) lvs.length lc) ∧ w'.cell? ⟨zb, zo + m, none⟩ = some (.slice na ns.length nc))) (by kernel_rfl) hS0 (fun hS => ?_)
              refine d_take 0 71 rfl rfl (by kernel_rfl) (by kernel_rfl) (by kernel_rfl) (fun _ _ _ h => h) rfl (fun w' hw' => er_mv _ rfl (.slice pa pn pc) rfl) hS ?_
              simp only [Act.put, List.setIfInBounds_toArray, List.set_cons_zero, List.set_cons_succ]
              refine d_take 4 75 rfl rfl (by kernel_rfl) (by kernel_rfl) (by kernel_rfl) (fun _ _ _ h => h) rfl (fun w' hw' => er_fO2 _ rfl w.heap.size rfl) hS ?_
              simp only [Act.put, List.setIfInBounds_toArray, List.set_cons_zero, List.set_cons_succ]
              refine d_take 5 76 rfl rfl (by kernel_rfl) (by kernel_rfl) (by kernel_rfl) (fun _ _ _ h => h) rfl (fun w' hw' => er_ldBB _ rfl w.heap.size 2 _ rfl hw'.1) hS ?_
              simp only [Act.put, List.setIfInBounds_toArray, List.set_cons_zero, List.set_cons_succ]
              refine d_take 6 77 rfl rfl (by kernel_rfl) (by kernel_rfl) (by kernel_rfl) (fun _ _ _ h => h) rfl (fun w' hw' => er_mv _ rfl (.int .i64 (m : Int)) rfl) hS ?_
              simp only [Act.put, List.setIfInBounds_toArray, List.set_cons_zero, List.set_cons_succ]
              refine d_take 7 78 rfl rfl (by kernel_rfl) (by kernel_rfl) (by kernel_rfl) (fun _ _ _ h => h) rfl (fun w' hw' => er_ixBB _ _ rfl zb zo m lvs.length lc rfl rfl hlt) hS ?_
              simp only [Act.put, List.setIfInBounds_toArray, List.set_cons_zero, List.set_cons_succ]
              refine d_take 8 79 rfl rfl (by kernel_rfl) (by kernel_rfl) (by kernel_rfl) (fun _ _ _ h => h) rfl (fun w' hw' => er_ldLL _ rfl zb (zo + m) _ rfl hw'.2) hS ?_
              simp only [Act.put, List.setIfInBounds_toArray, List.set_cons_zero, List.set_cons_succ]
              refine d_take 9 80 rfl rfl (by kernel_rfl) (by kernel_rfl) (by kernel_rfl) (fun _ _ _ h => h) rfl (fun w' hw' => er_nK _ rfl na ns.length nc rfl) hS ?_
              simp only [Act.put, List.setIfInBounds_toArray, List.set_cons_zero, List.set_cons_succ]
              refine d_make 1 72 (by kernel_rfl) rfl rfl rfl (er_mW rfl) (SK.out _ ((Kept.refl No _).alloc _)) ?_
              simp only [Act.put, List.setIfInBounds_toArray, List.set_cons_zero, List.set_cons_succ]
              refine d_make 2 73 (by kernel_rfl) rfl rfl rfl (er_bK _ rfl (some ⟨wz.drew.heap.size, 0, none⟩) 1 1 rfl) (SK.out _ (((Kept.refl No _).alloc _).alloc _)) ?_
              simp only [Act.put, List.setIfInBounds_toArray, List.set_cons_zero, List.set_cons_succ]
              refine d_make 3 74 (by kernel_rfl) rfl rfl rfl (er_aK (.tmp 71) (.tmp 73) rfl _ _ rfl rfl (.slice (some ⟨g, 0, none⟩) (ns.length + 1) c) X3 rfl r3) hSx ?_
              simp only [Act.put, List.setIfInBounds_toArray, List.set_cons_zero, List.set_cons_succ]
              have hS := hSx
              refine d_take 10 81 rfl rfl (by kernel_rfl) (by kernel_rfl) (by kernel_rfl) (fun _ _ _ h => h) rfl (fun w' hw' => er_sK _ _ rfl g ns.length c rfl rfl s3) hS ?_
              simp only [Act.put, List.setIfInBounds_toArray, List.set_cons_zero, List.set_cons_succ]
              refine d_take 11 5 rfl rfl (by kernel_rfl) (by kernel_rfl) (by kernel_rfl) (fun _ _ _ h => h) rfl (fun w' hw' => er_as _ rfl (.slice (some ⟨g, 0, none⟩) ns.length c) rfl) hS ?_
              simp only [Act.put, List.setIfInBounds_toArray, List.set_cons_zero, List.set_cons_succ]
              refine wpAnyH_done (by kernel_rfl) ?_ _
              clear hS hSx SK hS0
              have L2 : Hid (Lr X3 w.heap.size (.slice (some ⟨g, 0, none⟩) ns.length c) ps xs ∧ Kept No w0 X3) := by
                have L := HL.out.1
                rw [HX.out] at L
                have kx : Kept No wz ((wz.drew.alloc (.cells #[.int .i64 (-77)] 2)).alloc (.cells #[.slice (some ⟨wz.drew.heap.size, 0, none⟩) 1 1] 31)) := (((Kept.refl No wz).drew).alloc _).alloc _
                have hB := HL.out.2.1.size
                have hB0 := HT.out.ry.kept.size
                have L' := L.keep kx
                have hb0 : ((wz.drew.alloc (.cells #[.int .i64 (-77)] 2)).alloc (.cells #[.slice (some ⟨wz.drew.heap.size, 0, none⟩) 1 1] 31)).heap[wz.drew.heap.size]? = some (.cells #[.int .i64 (-77)] 2) := ((Kept.refl No _).alloc _).at' (alloc_new wz.drew _) (fun e => e)
                have tg : ∀ k c0, ((wz.drew.alloc (.cells #[.int .i64 (-77)] 2)).alloc (.cells #[.slice (some ⟨wz.drew.heap.size, 0, none⟩) 1 1] 31)).heap[k]? = some (.cells c0 2) → ¬ (Value.slice pa pn pc).ownBlock = some k := fun k c0 hk e => by
                  obtain ⟨_, cs', h2⟩ := owns_blk L'.own e
                  exact absurd (two_tags hk h2) (by decide)
                refine ⟨⟨⟨wz.drew.heap.size, ?_, k3.at' hb0 (tg _ _ hb0)⟩, by rw [L.len], fun j v x hv hx => (L'.tag (L'.msg j v x hv hx) k3).base hB0⟩, (HL.out.2.1.trans kx (fun _ e => e.elim)).trans k3 (fun k e => .inr (owns_at L'.own e).1)⟩
                rw [hpn]
                exact rw3.base hB0
              clear k3 rw3 r3 s3 s4
              generalize X3 = wy at *
              have hz1 := HT.out.keep L2.out.2
              obtain ⟨ba', bn', bc', rfl⟩ := own_slice hz1.own
              have ct : wy.cell? ⟨t, 2, none⟩ = some (.slice ba' bn' bc') := (cell_blk hz1.ry.told 2).trans rfl
              have AP : Hid ((wy.alloc (.cells #[.slice (some ⟨g, 0, none⟩) ns.length c] 40)).ownsRow w.heap.size 40 1 (.slice ba' bn' bc') m lv' ∧ w.heap.size ≤ (wy.alloc (.cells #[.slice (some ⟨g, 0, none⟩) ns.length c] 40)).heap.size ∧ (wy.alloc (.cells #[.slice (some ⟨g, 0, none⟩) ns.length c] 40)).cell? ⟨wy.heap.size, 0, none⟩ = some (.slice (some ⟨g, 0, none⟩) ns.length c)) := ⟨hz1.own.alloc _, by have := hz1.ry.kept.size; rw [World.size_alloc]; omega, (cell_blk (alloc_new wy _) 0).trans rfl⟩
              have HM : Hid (∀ wa u1, wa.ownsRow w.heap.size 40 1 u1 (m + 1) (lv' ++ [.slice (some ⟨g, 0, none⟩) ns.length c]) → (wy.alloc (.cells #[.slice (some ⟨g, 0, none⟩) ns.length c] 40)).grownBy wa (Value.slice ba' bn' bc').ownBlock → wa.cell? ⟨t, 2, none⟩ = some (.slice ba' bn' bc') ∧ wa.frozen? ⟨t, 2, none⟩ = false ∧ Rz w (wa.setCell ⟨t, 2, none⟩ u1) #[.slice ta cs.length tc, .slice va us.length vc, .slice (some ⟨zb, zo, none⟩) lvs.length lc] r w.heap.size t v1 v2 u1 cs us xss (m + 1) (lv' ++ [.slice (some ⟨g, 0, none⟩) ns.length c]) (ms' ++ [ps])) := fun wa u1 o1 gr1 => HT.out.buf HE.out.2.2.2.2.1 L2.out.2 L2.out.1 o1 gr1
              clear hz1 HL HX hpn
              go_wp2_with (at_builtin; refine wpList_app1 rfl _ _ 53 40 rfl _ 24 Try.underlying53 Try.infoLL rfl w.heap.size (.slice ba' bn' bc') m lv' rfl AP.out.1 AP.out.2.1 ⟨wy.heap.size, 0, none⟩ 1 (.slice (some ⟨g, 0, none⟩) ns.length c) rfl AP.out.2.2 rfl (by omega) (by unfold maxLen; omega) ?_; intro va' vc' wa own1 gr1 lo1; obtain ⟨q1, q2, q3⟩ := HM.out _ _ own1.out gr1.out; have HF := hid q3; clear q3)
              go_roundw
              case rel => exact ⟨m + 1, _, _, _, by omega, by go_num, HF.out⟩
              case measure => simp [intOf]; omega
        · have hltz : ¬ (m : Int) < (lvs.length : Int) := by omega
          have hmn : m = lvs.length := by omega
          subst hmn
          go_upto_region 14 with fail
          go_cut [] (fun wx => ∃ (v3 : Value) (hb : Nat), Ry w wx #[.slice ta cs.length tc, .slice va us.length vc, .slice la lvs.length lc] r w.heap.size t v1 v2 v3 ∧ Rw wx w.heap.size 3 1 v1 cs.length (cs.map iv) [.int .i64 (-77)] ∧ Rw wx w.heap.size 4 1 v2 us.length us [.bool true] ∧ Rw wx w.heap.size 40 1 v3 lvs.length lv' [.slice (some ⟨hb, 0, none⟩) 1 1] ∧ ∀ (i : Nat) (lv : Value) (ms : List Value) (xs : List (List Int)), lv'[i]? = some lv → ms'[i]? = some ms → xss[i]? = some xs → Lr wx w.heap.size lv ms xs)
          case first =>
            obtain ⟨wz, hwz⟩ : ∃ wz, wz = wr := ⟨_, rfl⟩
            subst hwz
            obtain ⟨ba, bn, bc, rfl⟩ := own_slice HT.out.own
            have KW : Kept No wz (((wz.drew.alloc (.cells #[.int .i64 (-77)] 2)).alloc (.cells #[.slice (some ⟨wz.drew.heap.size, 0, none⟩) 1 1] 31)).alloc (.cells #[.slice (some ⟨(wz.drew.alloc (.cells #[.int .i64 (-77)] 2)).heap.size, 0, none⟩) 1 1] 40)) := ((((Kept.refl No wz).drew).alloc _).alloc _).alloc _
            obtain ⟨g, c, X4, r4, rw4, k4, s4, s5⟩ := ap2 (P := Try.prog) (w := (((wz.drew.alloc (.cells #[.int .i64 (-77)] 2)).alloc (.cells #[.slice (some ⟨wz.drew.heap.size, 0, none⟩) 1 1] 31)).alloc (.cells #[.slice (some ⟨(wz.drew.alloc (.cells #[.int .i64 (-77)] 2)).heap.size, 0, none⟩) 1 1] 40))) (B := w.heap.size) (h := ((wz.drew.alloc (.cells #[.int .i64 (-77)] 2)).alloc (.cells #[.slice (some ⟨wz.drew.heap.size, 0, none⟩) 1 1] 31)).heap.size) (mk := #[.slice (some ⟨(wz.drew.alloc (.cells #[.int .i64 (-77)] 2)).heap.size, 0, none⟩) 1 1]) (n := lvs.length) (us := lv') 53 53 40 (.slice none 0 0) 1 24 Try.underlying53 Try.infoLL rfl (by decide) (v := .slice ba bn bc) (KW.owns HT.out.own (fun _ _ e => e)) (Nat.le_trans HT.out.ry.kept.size KW.size) (alloc_new _ _) rfl (by simp [Value.oneCell']) (by unfold maxLen; omega) (by omega)
            obtain ⟨b0, q1, q2, q3⟩ := HT.out.last KW k4 rw4
            have QF := hid q3
            have SK : Hid (∀ W, Kept No wz.drew W → W.cell? ⟨w.heap.size, 2, none⟩ = some (.slice la lvs.length lc)) := fun W k => (cell_blk ((HT.out.keep ((Kept.refl No wz).drew)).keep k).ry.box 2).trans rfl
            have TC : Hid (∀ W, Kept No wz.drew W → W.cell? ⟨t, 2, none⟩ = some (.slice ba bn bc)) := fun W k => (cell_blk ((HT.out.keep ((Kept.refl No wz).drew)).keep k).ry.told 2).trans rfl
            have hSx : X4.cell? ⟨w.heap.size, 2, none⟩ = some (.slice la lvs.length lc) := (cell_blk b0 2).trans rfl
            have hSf : (X4.setCell ⟨t, 2, none⟩ (.slice (some ⟨g, 0, none⟩) lvs.length c)).cell? ⟨w.heap.size, 2, none⟩ = some (.slice la lvs.length lc) := (cell_blk QF.out.1.box 2).trans rfl
            clear q3 rw4 k4 b0 KW s2 s5
            have hSd := SK.out _ (Kept.refl No _)
            refine wp_region_held_drew (S := fun w' => w'.cell? ⟨w.heap.size, 2, none⟩ = some (.slice la lvs.length lc)) (by kernel_rfl) hSd (fun hS => ?_)
            clear hSd
            refine d_take 0 88 rfl rfl (by kernel_rfl) (by kernel_rfl) (by kernel_rfl) (fun _ _ _ h => h) rfl (fun w' hw' => er_fO2 _ rfl t rfl) hS ?_
            simp only [Act.put, List.setIfInBounds_toArray, List.set_cons_zero, List.set_cons_succ]
            refine d_take 6 94 rfl rfl (by kernel_rfl) (by kernel_rfl) (by kernel_rfl) (fun _ _ _ h => h) rfl (fun w' hw' => er_fO2 _ rfl w.heap.size rfl) hS ?_
            simp only [Act.put, List.setIfInBounds_toArray, List.set_cons_zero, List.set_cons_succ]
            refine d_take 7 95 rfl rfl (by kernel_rfl) (by kernel_rfl) (by kernel_rfl) (fun _ _ _ h => h) rfl (fun w' hw' => er_lU _ rfl w.heap.size 2 _ rfl hw') hS ?_
            simp only [Act.put, List.setIfInBounds_toArray, List.set_cons_zero, List.set_cons_succ]
            refine d_take 8 96 rfl rfl (by kernel_rfl) (by kernel_rfl) (by kernel_rfl) (fun _ _ _ h => h) rfl (fun w' hw' => er_nU _ rfl la lvs.length lc rfl) hS ?_
            simp only [Act.put, List.setIfInBounds_toArray, List.set_cons_zero, List.set_cons_succ]
            refine d_pair 1 89 2 90 (by kernel_rfl) rfl rfl rfl rfl rfl rfl (er_lU _ rfl t 2 (.slice ba bn bc) rfl (TC.out _ (Kept.refl No _))) (er_mW rfl) (SK.out _ (Kept.refl No _)) (SK.out _ ((Kept.refl No _).alloc _)) ?_ ?_
            · simp only [Act.put, List.setIfInBounds_toArray, List.set_cons_zero, List.set_cons_succ]
              refine d_make 2 90 (by kernel_rfl) rfl rfl rfl (er_mW rfl) (SK.out _ ((Kept.refl No _).alloc _)) ?_
              simp only [Act.put, List.setIfInBounds_toArray, List.set_cons_zero, List.set_cons_succ]
              refine d_make 3 91 (by kernel_rfl) rfl rfl rfl (er_bK _ rfl (some ⟨wz.drew.heap.size, 0, none⟩) 1 1 rfl) (SK.out _ (((Kept.refl No _).alloc _).alloc _)) ?_
              simp only [Act.put, List.setIfInBounds_toArray, List.set_cons_zero, List.set_cons_succ]
              refine d_make 4 92 (by kernel_rfl) rfl rfl rfl (er_bU _ rfl (some ⟨(wz.drew.alloc (.cells #[.int .i64 (-77)] 2)).heap.size, 0, none⟩) 1 1 rfl) (SK.out _ ((((Kept.refl No _).alloc _).alloc _).alloc _)) ?_
              simp only [Act.put, List.setIfInBounds_toArray, List.set_cons_zero, List.set_cons_succ]
              refine d_make 5 93 (by kernel_rfl) rfl rfl rfl (er_aU (.tmp 89) (.tmp 92) rfl _ _ rfl rfl (.slice (some ⟨g, 0, none⟩) (lvs.length + 1) c) X4 rfl r4) hSx ?_
              simp only [Act.put, List.setIfInBounds_toArray, List.set_cons_zero, List.set_cons_succ]
              have hS := hSx
              refine d_take 9 97 rfl rfl (by kernel_rfl) (by kernel_rfl) (by kernel_rfl) (fun _ _ _ h => h) rfl (fun w' hw' => er_sU _ _ rfl g lvs.length c rfl rfl s4) hS ?_
              simp only [Act.put, List.setIfInBounds_toArray, List.set_cons_zero, List.set_cons_succ]
              refine d_take 10 98 rfl rfl (by kernel_rfl) (by kernel_rfl) (by kernel_rfl) (fun _ _ _ h => h) rfl (fun w' hw' => er_fO2 _ rfl t rfl) hS ?_
              simp only [Act.put, List.setIfInBounds_toArray, List.set_cons_zero, List.set_cons_succ]
              refine d_turn 11 (by kernel_rfl) rfl rfl rfl (er_wU _ _ rfl t 2 _ (some ⟨g, 0, none⟩) lvs.length c rfl rfl q1 q2) hSf ?_
              refine wpAnyH_done (by kernel_rfl) ?_ _
              clear hS hSx hSf SK TC q1 q2 r4
              go_wp2
              go_meet
              case rel => exact ⟨_, _, QF.out⟩
            · simp only [Act.put, List.setIfInBounds_toArray, List.set_cons_zero, List.set_cons_succ]
              refine d_pair 1 89 3 91 (by kernel_rfl) rfl rfl rfl rfl rfl rfl (er_lU _ rfl t 2 (.slice ba bn bc) rfl (TC.out _ ((Kept.refl No _).alloc _))) (er_bK _ rfl (some ⟨wz.drew.heap.size, 0, none⟩) 1 1 rfl) (SK.out _ ((Kept.refl No _).alloc _)) (SK.out _ (((Kept.refl No _).alloc _).alloc _)) ?_ ?_
              · simp only [Act.put, List.setIfInBounds_toArray, List.set_cons_zero, List.set_cons_succ]
                refine d_make 3 91 (by kernel_rfl) rfl rfl rfl (er_bK _ rfl (some ⟨wz.drew.heap.size, 0, none⟩) 1 1 rfl) (SK.out _ (((Kept.refl No _).alloc _).alloc _)) ?_
                simp only [Act.put, List.setIfInBounds_toArray, List.set_cons_zero, List.set_cons_succ]
                refine d_make 4 92 (by kernel_rfl) rfl rfl rfl (er_bU _ rfl (some ⟨(wz.drew.alloc (.cells #[.int .i64 (-77)] 2)).heap.size, 0, none⟩) 1 1 rfl) (SK.out _ ((((Kept.refl No _).alloc _).alloc _).alloc _)) ?_
                simp only [Act.put, List.setIfInBounds_toArray, List.set_cons_zero, List.set_cons_succ]
                refine d_make 5 93 (by kernel_rfl) rfl rfl rfl (er_aU (.tmp 89) (.tmp 92) rfl _ _ rfl rfl (.slice (some ⟨g, 0, none⟩) (lvs.length + 1) c) X4 rfl r4) hSx ?_
                simp only [Act.put, List.setIfInBounds_toArray, List.set_cons_zero, List.set_cons_succ]
                have hS := hSx
                refine d_take 9 97 rfl rfl (by kernel_rfl) (by kernel_rfl) (by kernel_rfl) (fun _ _ _ h => h) rfl (fun w' hw' => er_sU _ _ rfl g lvs.length c rfl rfl s4) hS ?_
                simp only [Act.put, List.setIfInBounds_toArray, List.set_cons_zero, List.set_cons_succ]
                refine d_take 10 98 rfl rfl (by kernel_rfl) (by kernel_rfl) (by kernel_rfl) (fun _ _ _ h => h) rfl (fun w' hw' => er_fO2 _ rfl t rfl) hS ?_
                simp only [Act.put, List.setIfInBounds_toArray, List.set_cons_zero, List.set_cons_succ]
                refine d_turn 11 (by kernel_rfl) rfl rfl rfl (er_wU _ _ rfl t 2 _ (some ⟨g, 0, none⟩) lvs.length c rfl rfl q1 q2) hSf ?_
                refine wpAnyH_done (by kernel_rfl) ?_ _
                clear hS hSx hSf SK TC q1 q2 r4
                go_wp2
                go_meet
                case rel => exact ⟨_, _, QF.out⟩
              · simp only [Act.put, List.setIfInBounds_toArray, List.set_cons_zero, List.set_cons_succ]
                refine d_pair 1 89 4 92 (by kernel_rfl) rfl rfl rfl rfl rfl rfl (er_lU _ rfl t 2 (.slice ba bn bc) rfl (TC.out _ (((Kept.refl No _).alloc _).alloc _))) (er_bU _ rfl (some ⟨(wz.drew.alloc (.cells #[.int .i64 (-77)] 2)).heap.size, 0, none⟩) 1 1 rfl) (SK.out _ (((Kept.refl No _).alloc _).alloc _)) (SK.out _ ((((Kept.refl No _).alloc _).alloc _).alloc _)) ?_ ?_
                · simp only [Act.put, List.setIfInBounds_toArray, List.set_cons_zero, List.set_cons_succ]
                  refine d_make 4 92 (by kernel_rfl) rfl rfl rfl (er_bU _ rfl (some ⟨(wz.drew.alloc (.cells #[.int .i64 (-77)] 2)).heap.size, 0, none⟩) 1 1 rfl) (SK.out _ ((((Kept.refl No _).alloc _).alloc _).alloc _)) ?_
                  simp only [Act.put, List.setIfInBounds_toArray, List.set_cons_zero, List.set_cons_succ]
                  refine d_make 5 93 (by kernel_rfl) rfl rfl rfl (er_aU (.tmp 89) (.tmp 92) rfl _ _ rfl rfl (.slice (some ⟨g, 0, none⟩) (lvs.length + 1) c) X4 rfl r4) hSx ?_
                  simp only [Act.put, List.setIfInBounds_toArray, List.set_cons_zero, List.set_cons_succ]
                  have hS := hSx
                  refine d_take 9 97 rfl rfl (by kernel_rfl) (by kernel_rfl) (by kernel_rfl) (fun _ _ _ h => h) rfl (fun w' hw' => er_sU _ _ rfl g lvs.length c rfl rfl s4) hS ?_
                  simp only [Act.put, List.setIfInBounds_toArray, List.set_cons_zero, List.set_cons_succ]
                  refine d_take 10 98 rfl rfl (by kernel_rfl) (by kernel_rfl) (by kernel_rfl) (fun _ _ _ h => h) rfl (fun w' hw' => er_fO2 _ rfl t rfl) hS ?_
                  simp only [Act.put, List.setIfInBounds_toArray, List.set_cons_zero, List.set_cons_succ]
                  refine d_turn 11 (by kernel_rfl) rfl rfl rfl (er_wU _ _ rfl t 2 _ (some ⟨g, 0, none⟩) lvs.length c rfl rfl q1 q2) hSf ?_
                  refine wpAnyH_done (by kernel_rfl) ?_ _
                  clear hS hSx hSf SK TC q1 q2 r4
                  go_wp2
                  go_meet
                  case rel => exact ⟨_, _, QF.out⟩
                · simp only [Act.put, List.setIfInBounds_toArray, List.set_cons_zero, List.set_cons_succ]
                  refine d_make 1 89 (by kernel_rfl) rfl rfl rfl (er_lU _ rfl t 2 (.slice ba bn bc) rfl (TC.out _ ((((Kept.refl No _).alloc _).alloc _).alloc _))) (SK.out _ ((((Kept.refl No _).alloc _).alloc _).alloc _)) ?_
                  simp only [Act.put, List.setIfInBounds_toArray, List.set_cons_zero, List.set_cons_succ]
                  refine d_make 5 93 (by kernel_rfl) rfl rfl rfl (er_aU (.tmp 89) (.tmp 92) rfl _ _ rfl rfl (.slice (some ⟨g, 0, none⟩) (lvs.length + 1) c) X4 rfl r4) hSx ?_
                  simp only [Act.put, List.setIfInBounds_toArray, List.set_cons_zero, List.set_cons_succ]
                  have hS := hSx
                  refine d_take 9 97 rfl rfl (by kernel_rfl) (by kernel_rfl) (by kernel_rfl) (fun _ _ _ h => h) rfl (fun w' hw' => er_sU _ _ rfl g lvs.length c rfl rfl s4) hS ?_
                  simp only [Act.put, List.setIfInBounds_toArray, List.set_cons_zero, List.set_cons_succ]
                  refine d_take 10 98 rfl rfl (by kernel_rfl) (by kernel_rfl) (by kernel_rfl) (fun _ _ _ h => h) rfl (fun w' hw' => er_fO2 _ rfl t rfl) hS ?_
                  simp only [Act.put, List.setIfInBounds_toArray, List.set_cons_zero, List.set_cons_succ]
                  refine d_turn 11 (by kernel_rfl) rfl rfl rfl (er_wU _ _ rfl t 2 _ (some ⟨g, 0, none⟩) lvs.length c rfl rfl q1 q2) hSf ?_
                  refine wpAnyH_done (by kernel_rfl) ?_ _
                  clear hS hSx hSf SK TC q1 q2 r4
                  go_wp2
                  go_meet
                  case rel => exact ⟨_, _, QF.out⟩
          case rest =>
            obtain ⟨v3, hb, hry, q1, q2, q3, q4⟩ := hcut
            have hl1 := HT.out.len
            have hl2 := HT.out.len2
            clear HT s2
            have p1 := q1
            have p2 := q2
            have p3 := q3
            obtain ⟨g1, c1, rfl, _⟩ := p1
            obtain ⟨g2, c2, rfl, _⟩ := p2
            obtain ⟨g3, c3, rfl, _⟩ := p3
            have d0 : wc.cell? ⟨t, 0, none⟩ = some _ := (cell_blk hry.told 0).trans rfl
            have d1 : wc.cell? ⟨t, 1, none⟩ = some _ := (cell_blk hry.told 1).trans rfl
            have d2 : wc.cell? ⟨t, 2, none⟩ = some _ := (cell_blk hry.told 2).trans rfl
            have r0 : wc.cell? ⟨r, 0, none⟩ = some _ := (cell_blk hry.res 0).trans rfl
            have r1 : wc.cell? ⟨r, 1, none⟩ = some _ := (cell_blk hry.res 1).trans rfl
            have r2 : wc.cell? ⟨r, 2, none⟩ = some _ := (cell_blk hry.res 2).trans rfl
            have f0 := fz_blk hry.res 0
            have f1 := fz_blk hry.res 1
            have f2 := fz_blk hry.res 2
            have HQ := hid (And.intro hry (And.intro q1 (And.intro q2 (And.intro q3 q4))))
            clear hry q1 q2 q3 q4
            go_wp2
            refine bodyPost_ret (results_cell_row rfl _ _ r 55 #[.slice (some ⟨g1, 0, none⟩) cs.length c1, .slice (some ⟨g2, 0, none⟩) us.length c2, .slice (some ⟨g3, 0, none⟩) lvs.length c3] (0, 0) _ rfl (set3 HQ.out.1.res _ _ _) Try.underlying55 rfl Try.infoOS) rfl ?_
            obtain ⟨hry, q1, q2, q3, q4⟩ := HQ.out
            have hge : w.heap.size ≤ r := HR.out
            have K : Kept (fun j => j = r) wc (((wc.setCell ⟨r, 0, none⟩ (.slice (some ⟨g1, 0, none⟩) cs.length c1)).setCell ⟨r, 1, none⟩ (.slice (some ⟨g2, 0, none⟩) us.length c2)).setCell ⟨r, 2, none⟩ (.slice (some ⟨g3, 0, none⟩) lvs.length c3)) := (((Kept.refl (fun j => j = r) wc).setCell (p := ⟨r, 0, none⟩) (.inl rfl) _).setCell (p := ⟨r, 1, none⟩) (.inl rfl) _).setCell (p := ⟨r, 2, none⟩) (.inl rfl) _
            have rwk : ∀ {t' k n : Nat} {v : Value} {ys mk : List Value}, Rw wc w.heap.size t' k v n ys mk → t' ≠ 55 → Rw _ w.heap.size t' k v n ys mk := fun hr ht => hr.kept K (fun g hg e => by
              obtain ⟨_, c0, hb⟩ := hr.blk hg
              subst e
              exact ht (two_tags hb hry.res))
            have KL : ∀ (i : Nat) (lv : Value) (ms : List Value) (xs : List (List Int)), lv'[i]? = some lv → ms'[i]? = some ms → xss[i]? = some xs → Lr _ w.heap.size lv ms xs := fun i lv ms xs a b c => (q4 i lv ms xs a b c).kept K (fun k c0 t' hk ht e => by
              subst e
              have := two_tags hk hry.res
              rcases ht with rfl | rfl <;> exact absurd this (by decide))
            have KK : Kept No w _ := hry.kept.trans K (fun k e => .inr (by rw [e]; exact hge))
            refine ⟨_, _, _, rfl, rwk q1 (by decide), rwk q2 (by decide), lv', ?_⟩
            first | exact ⟨⟨hb, rwk q3 (by decide)⟩, hl1, ⟨ms', KL, hl2⟩, KK⟩ | exact ⟨ms', ⟨hb, rwk q3 (by decide)⟩, hl1, KL, hl2, KK⟩ | exact ⟨⟨hb, rwk q3 (by decide)⟩, hl1, ms', KL, hl2, KK⟩ | exact ⟨hb, rwk q3 (by decide), hl1, ms', KL, hl2, KK⟩
end Go.Proofs.Ytggkajopfbokjaa
