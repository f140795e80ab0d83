/-
  given: a partition whose lists have a mark behind them.
-/
import Derived.Test.YtggkajopfbokjaaOGivP
namespace Go.Proofs.Ytggkajopfbokjaa
open Go.RowKit
set_option linter.unusedVariables false
set_option maxRecDepth 100000

section
variable {w : World} {a : Act} {o : Oper}
theorem er_zS (ho : o.op = .buildSlice 25 0 #[]) : (execOp a.eval o).run Try.prog w = .ok (.value (.slice (some ⟨w.heap.size, 0, none⟩) 0 0)) (w.alloc (.cells #[] 24)) := by
  simp only [execOp, ho]
  simp [go_sem, Instr.fill]
theorem er_aS (s x : Operand) (ho : o.op = .call { callee := .builtin .append, args := #[s, x], argTypes := #[25, 25] }) (v u : Value) (hs : a.eval s = v) (hx : a.eval x = u) (v' : Value) (w' : World) (hty : o.type = 25) (hr : (Builtin.append_ #[25, 25] 25 #[v, u]).run Try.prog w = .ok v' w') : (execOp a.eval o).run Try.prog w = .ok (.value v') w' := by
  unfold execOp
  simp only [ho, hty, resolve, invoke, builtin, Sem.run_bind, Sem.run_pure, Result.andThen_ok, List.map_toArray, List.map_cons, List.map_nil, hs, hx, hr]
theorem er_nS (x : Operand) (ho : o.op = .call { callee := .builtin .len, args := #[x], argTypes := #[25] }) (b : Option Addr) (n c : Nat) (hx : a.eval x = .slice b n c) : (execOp a.eval o).run Try.prog w = .ok (.value (.int .i64 (n : Int))) w := by
  have hr : (Builtin.len_ #[25] o.type #[.slice b n c]).run Try.prog w = .ok (.int .i64 (n : Int)) w := by simp [Builtin.len_, go_sem]
  unfold execOp
  simp only [ho, resolve, invoke, builtin, Sem.run_bind, Sem.run_pure, Result.andThen_ok, List.map_toArray, List.map_cons, List.map_nil, hx, hr]
theorem er_sS (x y : Operand) (ho : o.op = .slice 25 x none (some y) none) (g n c : Nat) (hx : a.eval x = .slice (some ⟨g, 0, none⟩) (n + 1) c) (hy : a.eval y = .int .i64 (n : Int)) (hc : n + 1 ≤ c) : (execOp a.eval o).run Try.prog w = .ok (.value (.slice (some ⟨g, 0, none⟩) n c)) w := by
  have h1 : (n : Int) ≤ (c : Int) := by omega
  have h2 : ¬ c = 0 := by omega
  simp only [execOp, ho, Option.map_some, Option.map_none, hx, hy]; simp [go_sem, h1, h2]
theorem er_lS (x : Operand) (ho : o.op = .load 25 x) (g off : Nat) (v : Value) (hx : a.eval x = .pointer (some ⟨g, off, none⟩)) (hr : w.cell? ⟨g, off, none⟩ = some v) : (execOp a.eval o).run Try.prog w = .ok (.value v) w := by
  simp only [execOp, ho, hx]; simp [go_sem, hr]
theorem er_wS (x y : Operand) (ho : o.op = .store 25 x y) (g off : Nat) (u : Value) (va : Option Addr) (vn vc : Nat) (hx : a.eval x = .pointer (some ⟨g, off, none⟩)) (hy : a.eval y = .slice va vn vc) (hr : w.cell? ⟨g, off, none⟩ = some u) (hf : w.frozen? ⟨g, off, none⟩ = false) : (execOp a.eval o).run Try.prog w = .ok .skip (w.setCell ⟨g, off, none⟩ (.slice va vn vc)) := by
  simp only [execOp, ho, hx, hy]
  simp [go_sem, hr, hf]
theorem er_zE (ho : o.op = .buildSlice 35 0 #[]) : (execOp a.eval o).run Try.prog w = .ok (.value (.slice (some ⟨w.heap.size, 0, none⟩) 0 0)) (w.alloc (.cells #[] 4)) := by
  simp only [execOp, ho]
  simp [go_sem, Instr.fill]
theorem er_aE (s x : Operand) (ho : o.op = .call { callee := .builtin .append, args := #[s, x], argTypes := #[35, 35] }) (v u : Value) (hs : a.eval s = v) (hx : a.eval x = u) (v' : Value) (w' : World) (hty : o.type = 35) (hr : (Builtin.append_ #[35, 35] 35 #[v, u]).run Try.prog w = .ok v' w') : (execOp a.eval o).run Try.prog w = .ok (.value v') w' := by
  unfold execOp
  simp only [ho, hty, resolve, invoke, builtin, Sem.run_bind, Sem.run_pure, Result.andThen_ok, List.map_toArray, List.map_cons, List.map_nil, hs, hx, hr]
theorem er_nE (x : Operand) (ho : o.op = .call { callee := .builtin .len, args := #[x], argTypes := #[35] }) (b : Option Addr) (n c : Nat) (hx : a.eval x = .slice b n c) : (execOp a.eval o).run Try.prog w = .ok (.value (.int .i64 (n : Int))) w := by
  have hr : (Builtin.len_ #[35] o.type #[.slice b n c]).run Try.prog w = .ok (.int .i64 (n : Int)) w := by simp [Builtin.len_, go_sem]
  unfold execOp
  simp only [ho, resolve, invoke, builtin, Sem.run_bind, Sem.run_pure, Result.andThen_ok, List.map_toArray, List.map_cons, List.map_nil, hx, hr]
theorem er_sE (x y : Operand) (ho : o.op = .slice 35 x none (some y) none) (g n c : Nat) (hx : a.eval x = .slice (some ⟨g, 0, none⟩) (n + 1) c) (hy : a.eval y = .int .i64 (n : Int)) (hc : n + 1 ≤ c) : (execOp a.eval o).run Try.prog w = .ok (.value (.slice (some ⟨g, 0, none⟩) n c)) w := by
  have h1 : (n : Int) ≤ (c : Int) := by omega
  have h2 : ¬ c = 0 := by omega
  simp only [execOp, ho, Option.map_some, Option.map_none, hx, hy]; simp [go_sem, h1, h2]
theorem er_lE (x : Operand) (ho : o.op = .load 35 x) (g off : Nat) (v : Value) (hx : a.eval x = .pointer (some ⟨g, off, none⟩)) (hr : w.cell? ⟨g, off, none⟩ = some v) : (execOp a.eval o).run Try.prog w = .ok (.value v) w := by
  simp only [execOp, ho, hx]; simp [go_sem, hr]
theorem er_wE (x y : Operand) (ho : o.op = .store 35 x y) (g off : Nat) (u : Value) (va : Option Addr) (vn vc : Nat) (hx : a.eval x = .pointer (some ⟨g, off, none⟩)) (hy : a.eval y = .slice va vn vc) (hr : w.cell? ⟨g, off, none⟩ = some u) (hf : w.frozen? ⟨g, off, none⟩ = false) : (execOp a.eval o).run Try.prog w = .ok .skip (w.setCell ⟨g, off, none⟩ (.slice va vn vc)) := by
  simp only [execOp, ho, hx, hy]
  simp [go_sem, hr, hf]
theorem er_zB (ho : o.op = .buildSlice 28 0 #[]) : (execOp a.eval o).run Try.prog w = .ok (.value (.slice (some ⟨w.heap.size, 0, none⟩) 0 0)) (w.alloc (.cells #[] 27)) := by
  simp only [execOp, ho]
  simp [go_sem, Instr.fill]
theorem er_aB (s x : Operand) (ho : o.op = .call { callee := .builtin .append, args := #[s, x], argTypes := #[28, 28] }) (v u : Value) (hs : a.eval s = v) (hx : a.eval x = u) (v' : Value) (w' : World) (hty : o.type = 28) (hr : (Builtin.append_ #[28, 28] 28 #[v, u]).run Try.prog w = .ok v' w') : (execOp a.eval o).run Try.prog w = .ok (.value v') w' := by
  unfold execOp
  simp only [ho, hty, resolve, invoke, builtin, Sem.run_bind, Sem.run_pure, Result.andThen_ok, List.map_toArray, List.map_cons, List.map_nil, hs, hx, hr]
theorem er_nB (x : Operand) (ho : o.op = .call { callee := .builtin .len, args := #[x], argTypes := #[28] }) (b : Option Addr) (n c : Nat) (hx : a.eval x = .slice b n c) : (execOp a.eval o).run Try.prog w = .ok (.value (.int .i64 (n : Int))) w := by
  have hr : (Builtin.len_ #[28] o.type #[.slice b n c]).run Try.prog w = .ok (.int .i64 (n : Int)) w := by simp [Builtin.len_, go_sem]
  unfold execOp
  simp only [ho, resolve, invoke, builtin, Sem.run_bind, Sem.run_pure, Result.andThen_ok, List.map_toArray, List.map_cons, List.map_nil, hx, hr]
theorem er_sB (x y : Operand) (ho : o.op = .slice 28 x none (some y) none) (g n c : Nat) (hx : a.eval x = .slice (some ⟨g, 0, none⟩) (n + 1) c) (hy : a.eval y = .int .i64 (n : Int)) (hc : n + 1 ≤ c) : (execOp a.eval o).run Try.prog w = .ok (.value (.slice (some ⟨g, 0, none⟩) n c)) w := by
  have h1 : (n : Int) ≤ (c : Int) := by omega
  have h2 : ¬ c = 0 := by omega
  simp only [execOp, ho, Option.map_some, Option.map_none, hx, hy]; simp [go_sem, h1, h2]
theorem er_lB (x : Operand) (ho : o.op = .load 28 x) (g off : Nat) (v : Value) (hx : a.eval x = .pointer (some ⟨g, off, none⟩)) (hr : w.cell? ⟨g, off, none⟩ = some v) : (execOp a.eval o).run Try.prog w = .ok (.value v) w := by
  simp only [execOp, ho, hx]; simp [go_sem, hr]
theorem er_wB (x y : Operand) (ho : o.op = .store 28 x y) (g off : Nat) (u : Value) (va : Option Addr) (vn vc : Nat) (hx : a.eval x = .pointer (some ⟨g, off, none⟩)) (hy : a.eval y = .slice va vn vc) (hr : w.cell? ⟨g, off, none⟩ = some u) (hf : w.frozen? ⟨g, off, none⟩ = false) : (execOp a.eval o).run Try.prog w = .ok .skip (w.setCell ⟨g, off, none⟩ (.slice va vn vc)) := by
  simp only [execOp, ho, hx, hy]
  simp [go_sem, hr, hf]
theorem er_p8 (x : Operand) (ho : o.op = .fieldAddr 37 x 8) (g : Nat) (hx : a.eval x = .pointer (some ⟨g, 0, none⟩)) : (execOp a.eval o).run Try.prog w = .ok (.value (.pointer (some ⟨g, 18, none⟩))) w := by simp only [execOp, ho, hx]; simp [go_sem, add_none]
theorem er_p9 (x : Operand) (ho : o.op = .fieldAddr 37 x 9) (g : Nat) (hx : a.eval x = .pointer (some ⟨g, 0, none⟩)) : (execOp a.eval o).run Try.prog w = .ok (.value (.pointer (some ⟨g, 19, none⟩))) w := by simp only [execOp, ho, hx]; simp [go_sem, add_none]
theorem er_p10 (x : Operand) (ho : o.op = .fieldAddr 37 x 10) (g : Nat) (hx : a.eval x = .pointer (some ⟨g, 0, none⟩)) : (execOp a.eval o).run Try.prog w = .ok (.value (.pointer (some ⟨g, 20, none⟩))) w := by simp only [execOp, ho, hx]; simp [go_sem, add_none]
theorem er_mE (ho : o.op = .buildSlice 35 1 #[(0, .const (.bool true))]) : (execOp a.eval o).run Try.prog w = .ok (.value (.slice (some ⟨w.heap.size, 0, none⟩) 1 1)) (w.alloc (.cells #[.bool true] 4)) := by
  obtain ⟨i0, hi, hz0, hz1, hz2⟩ := info_parts Try.infoB
  have e := run_buildSlice (P := Try.prog) w 35 4 1 #[(0, .bool true)] #[.bool true] i0 (.bool false) Try.underlying35 hi hz0 (by rw [hz1]; decide) (by rw [hz1]; decide) (by rw [hz1]; kernel_rfl)
  unfold execOp
  simp only [ho, Sem.run_bind, List.map_toArray, List.map_cons, List.map_nil, Act.eval, e, Result.andThen_ok]
  rfl
end
theorem built_mS : Try.prog.built 24 [(1, .int .i64 (-77))] = some #[.int .i64 0, .int .i64 (-77)] := by kernel_rfl
theorem built_mB : Try.prog.built 27 [(0, .int .i64 (-77))] = some #[.int .i64 (-77), .int .i64 0] := by kernel_rfl
theorem Pp.vk {w : World} {F : Nat → Prop} {a : Option Addr} {n c : Nat} {p q : Nat → Int} (h : Pp w F a n c p q) (hnil : a = none → c = 0) : Vk w F a n c 2 (cat (sF p q) n) := by
  refine ⟨cat_len (f := sF p q) (s := 2) (fun _ => rfl) n, h.cap, h.max, hnil, fun ad ha i u hu => ?_⟩
  have hi : i < n * 2 := by have := (List.getElem?_eq_some_iff.1 hu).1; rwa [cat_len (f := sF p q) (s := 2) (fun _ => rfl)] at this
  have h2 := cat_at (f := sF p q) (s := 2) (fun _ => rfl) n (i / 2) (i % 2) (by omega) (by omega)
  rw [show i / 2 * 2 + i % 2 = i by omega, hu] at h2
  obtain ⟨b, o, e, hb, c0, c1⟩ := h.at' (i / 2) (by omega)
  rw [ha] at e
  injection e with e
  subst e
  refine ⟨hb, ?_⟩
  rw [add_none]
  have : i % 2 = 0 ∨ i % 2 = 1 := by omega
  rcases this with h3 | h3
  · rw [h3] at h2
    rw [show o + i = o + i / 2 * 2 by omega, c0, h2]
    rfl
  · rw [h3] at h2
    rw [show o + i = o + i / 2 * 2 + 1 by omega, c1, h2]
    rfl
theorem Vs.vk {w : World} {F : Nat → Prop} {a : Option Addr} {n c : Nat} {us : List Value} (h : Vs w F a n c us) : Vk w F a n c 1 us := by
  refine ⟨by rw [h.len]; omega, h.cap, h.max, h.nil, fun ad ha i u hu => ?_⟩
  obtain ⟨b, o, e, hb, hc⟩ := h.at' i u hu
  rw [ha] at e
  injection e with e
  subst e
  exact ⟨hb, by rw [add_none]; exact hc⟩
theorem cat_one (p q : Nat → Int) (n : Nat) : ∀ u ∈ cat (sF p q) n, u.oneCell' = true := by
  induction n with
  | zero => intro u hu; cases hu
  | succ n ih =>
    intro u hu
    rcases List.mem_append.1 hu with h | h
    · exact ih u h
    · simp [sF] at h
      rcases h with rfl | rfl <;> rfl
/-- what given keeps -/
def Gv (w wr : World) (A A' : Array Value) (q : Nat) : Prop := Kept No w wr ∧ wr.heap[w.heap.size]? = some (.cells A 37) ∧ wr.heap[w.heap.size + 1]? = some (.cells Z21 37) ∧ wr.heap[q]? = some (.cells A' 37) ∧ w.heap.size + 1 < q
theorem Gv.keep {w wr wr' : World} {A A' : Array Value} {q : Nat} (h : Gv w wr A A' q) (K : Kept No wr wr') : Gv w wr' A A' q := ⟨h.1.trans K (fun _ e => e.elim), K.at' h.2.1 (fun e => e), K.at' h.2.2.1 (fun e => e), K.at' h.2.2.2.1 (fun e => e), h.2.2.2.2⟩
theorem Gv.set {w wr : World} {A A' : Array Value} {q : Nat} (h : Gv w wr A A' q) (f : Nat) (v : Value) : Gv w (wr.setCell ⟨q, f, none⟩ v) A (A'.setIfInBounds f v) q ∧ Kept (fun j => j = q) wr (wr.setCell ⟨q, f, none⟩ v) := by
  have kb : Kept (fun j => j = q) wr (wr.setCell ⟨q, f, none⟩ v) := (Kept.refl (fun j => j = q) wr).setCell (p := ⟨q, f, none⟩) (.inl rfl) _
  have hq := h.2.2.2.2
  exact ⟨⟨h.1.trans kb (fun j e => .inr (by omega)), kb.at' h.2.1 (by omega), kb.at' h.2.2.1 (by omega), set_blk h.2.2.2.1 _ _, hq⟩, kb⟩
theorem Rw.setq {w wr : World} {A A' : Array Value} {q f : Nat} {u : Value} (h : Gv w wr A A' q) {B : Nat} {t : TypeId} {k : Nat} {v : Value} {n : Nat} {xs mk : List Value} (hr : Rw wr B t k v n xs mk) (ht : t ≠ 37) : Rw (wr.setCell ⟨q, f, none⟩ u) B t k v n xs mk :=
  hr.kept (h.set f u).2 (fun g hg e => by
    obtain ⟨_, cs, h1⟩ := hr.blk hg
    subst e
    exact ht (two_tags h1 h.2.2.2.1))
set_option maxHeartbeats 8000000 in
theorem given_any {F : Nat → Prop} {A : Array Value} {sa ea ba : Option Addr} {n sc ne ec nb bc : Nat} {p q1 p' q' : Nat → Int} {us : List Value} (w : World) (hA : A.size = 21) (hA1 : A.all (·.oneCell') = true) (h18 : A[18]? = some (.slice sa n sc)) (h19 : A[19]? = some (.slice ea ne ec)) (h20 : A[20]? = some (.slice ba nb bc))
    (hs : Pp w F sa n sc p q1) (hsn : sa = none → sc = 0) (he : Vs w F ea ne ec us) (h1 : ∀ u ∈ us, u.oneCell' = true) (hb : Pp w F ba nb bc p' q') (hbn : ba = none → bc = 0) (hn : n ≤ 4095) (hne : ne ≤ 4095) (hnb : nb ≤ 4095) :
    Calls Try.prog 18 #[.agg A] w fun e w' => ∃ v1 v2 v3, e = .returned (.agg (((A.setIfInBounds 18 v1).setIfInBounds 19 v2).setIfInBounds 20 v3)) ∧ Rw w' w.heap.size 24 2 v1 n (cat (sF p q1) n) [.int .i64 0, .int .i64 (-77)] ∧ Rw w' w.heap.size 4 1 v2 ne us [.bool true] ∧ Rw w' w.heap.size 27 2 v3 nb (cat (sF p' q') nb) [.int .i64 (-77), .int .i64 0] ∧ Kept No w w' := by
  have HA : Hid (A[18]? = some (.slice sa n sc) ∧ A[19]? = some (.slice ea ne ec) ∧ A[20]? = some (.slice ba nb bc) ∧ A.size = 21 ∧ A.all (·.oneCell') = true) := ⟨h18, h19, h20, hA, hA1⟩
  have HV : Hid (Vk w F sa n sc 2 (cat (sF p q1) n) ∧ Vk w F ea ne ec 1 us ∧ Vk w F ba nb bc 2 (cat (sF p' q') nb) ∧ ∀ u ∈ us, u.oneCell' = true) := ⟨hs.vk hsn, he.vk, hb.vk hbn, h1⟩
  have hsz : ((w.alloc (.cells A 37)).alloc (.cells #[.int .i64 0, .int .i64 0, .int .i64 0, .int .i64 0, .int .i64 0, .int .i64 0, .slice none 0 0, .slice none 0 0, .slice none 0 0, .int .i64 0, .int .i64 0, .int .i64 0, .int .i64 0, .int .i64 0, .int .i64 0, .int .i64 0, .int .i64 0, .int .i64 0, .slice none 0 0, .slice none 0 0, .slice none 0 0] 37)).heap.size = w.heap.size + 2 := by rw [World.size_alloc, World.size_alloc]
  have G0 : Hid (Kept No w ((w.alloc (.cells A 37)).alloc (.cells #[.int .i64 0, .int .i64 0, .int .i64 0, .int .i64 0, .int .i64 0, .int .i64 0, .slice none 0 0, .slice none 0 0, .slice none 0 0, .int .i64 0, .int .i64 0, .int .i64 0, .int .i64 0, .int .i64 0, .int .i64 0, .int .i64 0, .int .i64 0, .int .i64 0, .slice none 0 0, .slice none 0 0, .slice none 0 0] 37)) ∧ ((w.alloc (.cells A 37)).alloc (.cells #[.int .i64 0, .int .i64 0, .int .i64 0, .int .i64 0, .int .i64 0, .int .i64 0, .slice none 0 0, .slice none 0 0, .slice none 0 0, .int .i64 0, .int .i64 0, .int .i64 0, .int .i64 0, .int .i64 0, .int .i64 0, .int .i64 0, .int .i64 0, .int .i64 0, .slice none 0 0, .slice none 0 0, .slice none 0 0] 37)).heap[w.heap.size]? = some (.cells A 37) ∧ ((w.alloc (.cells A 37)).alloc (.cells #[.int .i64 0, .int .i64 0, .int .i64 0, .int .i64 0, .int .i64 0, .int .i64 0, .slice none 0 0, .slice none 0 0, .slice none 0 0, .int .i64 0, .int .i64 0, .int .i64 0, .int .i64 0, .int .i64 0, .int .i64 0, .int .i64 0, .int .i64 0, .int .i64 0, .slice none 0 0, .slice none 0 0, .slice none 0 0] 37)).heap[w.heap.size + 1]? = some (.cells Z21 37)) := by
    refine ⟨((Kept.refl No w).alloc _).alloc _, ((Kept.refl No _).alloc _).at' (alloc_new w _) (fun e => e), ?_⟩
    have h5 := alloc_new (w.alloc (.cells A 37)) (.cells Z21 37)
    rwa [World.size_alloc] at h5
  clear hs he hb hsn hbn h1 h18 h19 h20 hA1

  go_enter Try.func18, Try.ntmps18
  go_upto_region 1 with fail
  generalize ((w.alloc (.cells A 37)).alloc (.cells #[.int .i64 0, .int .i64 0, .int .i64 0, .int .i64 0, .int .i64 0, .int .i64 0, .slice none 0 0, .slice none 0 0, .slice none 0 0, .int .i64 0, .int .i64 0, .int .i64 0, .int .i64 0, .int .i64 0, .int .i64 0, .int .i64 0, .int .i64 0, .int .i64 0, .slice none 0 0, .slice none 0 0, .slice none 0 0] 37)) = w2 at *
  refine wp_region_lit ?_
  refine wpList_load_row rfl 37 (.tmp 1) rfl w.heap.size rfl _ A (0, 0) _ G0.out.2.1 Try.underlying37 rfl (by rw [hA]; exact Try.infoPart) ?_
  simp only [Act.put, List.setIfInBounds_toArray, List.set_cons_zero, List.set_cons_succ]
  refine l_make 3 rfl rfl (er_alloc rfl) ?_
  simp only [Act.put, List.setIfInBounds_toArray, List.set_cons_zero, List.set_cons_succ]
  refine wpList_store_row rfl 37 (.tmp 3) (.tmp 4) rfl w2.heap.size A rfl rfl _ Z21 (alloc_new _ _) (by rw [hA]; exact Try.infoPart) (by rw [hA]; rfl) HA.out.2.2.2.2 ?_
  simp only [Act.put]
  have HG : Hid (Gv w ((w2.alloc (.cells Z21 37)).setRow w2.heap.size A) A A w2.heap.size) := by
    have k1 : Kept No w2 ((w2.alloc (.cells Z21 37)).setRow w2.heap.size A) := ((Kept.refl No _).alloc _).trans (setRow_kept _ _ _) (fun k e => .inr (by rw [e]; exact Nat.le_refl _))
    exact ⟨G0.out.1.trans k1 (fun _ e => e.elim), k1.at' G0.out.2.1 (fun e => e), k1.at' G0.out.2.2 (fun e => e), setRow_heap _ _ _ _ _ _ (alloc_new _ _), by omega⟩
  clear G0 hA
  generalize ((w2.alloc (.cells Z21 37)).setRow w2.heap.size A) = wz at *
  generalize hq : w2.heap.size = q at *
  clear hq hsz
  go_upto_region 2 with fail
  go_cut [] (fun wx => ∃ v1, Gv w wx A (A.setIfInBounds 18 v1) q ∧ Rw wx w.heap.size 24 2 v1 n (cat (sF p q1) n) [.int .i64 0, .int .i64 (-77)])
  case first =>
    obtain ⟨⟨v8a, X2a, ga, ca, X4a, r8a, k2a, r11a, fa⟩, ⟨v8b, X3b, gb, cb, X4b, r8b, k3b, r11b, fb⟩, v8c, X3c, gc, cc, X4c, r8c, k3c, r11c, fc⟩ := ord3 (P := Try.prog) (B := w.heap.size) wz.drew 25 25 24 (.agg Zs2) 2 16 Try.underlying25 Try.infoAS rfl (by decide) (HV.out.1.kept (HG.out.1.drew) (fun _ _ e => e)) (cat_one p q1 n) (by omega) (by unfold maxLen; omega) (HG.out.1.drew.size) (mk := #[.int .i64 0, .int .i64 (-77)]) rfl (by simp [Value.oneCell'])
    have SZ : Hid (∀ W, Kept No wz.drew W → W.cell? ⟨w.heap.size, 18, none⟩ = some (.slice sa n sc)) := fun W k => (cell_of_row _ _ 18 _ _ _ ((HG.out.keep ((Kept.refl No wz).drew)).keep k).2.1).trans HA.out.1
    have hSd := SZ.out _ (Kept.refl No _)
    refine wp_region_held_drew (S := fun w' => w'.cell? ⟨w.heap.size, 18, none⟩ = some (.slice sa n sc)) (by kernel_rfl) hSd (fun hS => ?_)
    clear hSd
    refine d_take 1 6 rfl rfl (by kernel_rfl) (by kernel_rfl) (by kernel_rfl) (fun _ _ _ h => h) rfl (fun w' hw' => er_p8 _ rfl w.heap.size rfl) hS ?_
    simp only [Act.put, List.setIfInBounds_toArray, List.set_cons_zero, List.set_cons_succ]
    refine d_take 2 7 rfl rfl (by kernel_rfl) (by kernel_rfl) (by kernel_rfl) (fun _ _ _ h => h) rfl (fun w' hw' => er_lS _ rfl w.heap.size 18 _ rfl hw') hS ?_
    simp only [Act.put, List.setIfInBounds_toArray, List.set_cons_zero, List.set_cons_succ]
    refine d_take 4 9 rfl rfl (by kernel_rfl) (by kernel_rfl) (by kernel_rfl) (fun _ _ _ h => h) rfl (fun w' hw' => er_build 24 _ rfl _ (by kernel_rfl) _ built_mS) hS ?_
    simp only [Act.put, List.setIfInBounds_toArray, List.set_cons_zero, List.set_cons_succ]
    refine d_take 7 12 rfl rfl (by kernel_rfl) (by kernel_rfl) (by kernel_rfl) (fun _ _ _ h => h) rfl (fun w' hw' => er_p8 _ rfl w.heap.size rfl) hS ?_
    simp only [Act.put, List.setIfInBounds_toArray, List.set_cons_zero, List.set_cons_succ]
    refine d_take 8 13 rfl rfl (by kernel_rfl) (by kernel_rfl) (by kernel_rfl) (fun _ _ _ h => h) rfl (fun w' hw' => er_lS _ rfl w.heap.size 18 _ rfl hw') hS ?_
    simp only [Act.put, List.setIfInBounds_toArray, List.set_cons_zero, List.set_cons_succ]
    refine d_take 9 14 rfl rfl (by kernel_rfl) (by kernel_rfl) (by kernel_rfl) (fun _ _ _ h => h) rfl (fun w' hw' => er_nS _ rfl sa n sc rfl) hS ?_
    simp only [Act.put, List.setIfInBounds_toArray, List.set_cons_zero, List.set_cons_succ]
    refine d_pair 0 5 5 10 (by kernel_rfl) rfl rfl rfl rfl rfl rfl (er_zS rfl) (er_bsas _ rfl _ rfl (fill_s 0 (-77))) (SZ.out _ ((Kept.refl No _).alloc _)) (SZ.out _ ((Kept.refl No _).alloc _)) ?_ ?_
    · simp only [Act.put, List.setIfInBounds_toArray, List.set_cons_zero, List.set_cons_succ]
      refine d_pair 3 8 5 10 (by kernel_rfl) rfl rfl rfl rfl rfl rfl (er_aS (.tmp 5) (.tmp 7) rfl _ _ rfl rfl v8a X2a rfl r8a) (er_bsas _ rfl _ rfl (fill_s 0 (-77))) (SZ.out _ k2a) (SZ.out _ (((Kept.refl No _).alloc _).alloc _)) ?_ ?_
      · simp only [Act.put, List.setIfInBounds_toArray, List.set_cons_zero, List.set_cons_succ]
        refine d_make 5 10 (by kernel_rfl) rfl rfl rfl (er_bsas _ rfl _ rfl (fill_s 0 (-77))) (SZ.out _ (k2a.alloc _)) ?_
        simp only [Act.put, List.setIfInBounds_toArray, List.set_cons_zero, List.set_cons_succ]
        refine d_make 6 11 (by kernel_rfl) rfl rfl rfl (er_aS (.tmp 8) (.tmp 10) rfl _ _ rfl rfl (.slice (some ⟨ga, 0, none⟩) (n + 1) ca) X4a rfl r11a) (SZ.out _ fa.2.1) ?_
        simp only [Act.put, List.setIfInBounds_toArray, List.set_cons_zero, List.set_cons_succ]
        have hS := SZ.out _ fa.2.1
        refine d_take 10 15 rfl rfl (by kernel_rfl) (by kernel_rfl) (by kernel_rfl) (fun _ _ _ h => h) rfl (fun w' hw' => er_sS _ _ rfl ga n ca rfl rfl fa.2.2.1) hS ?_
        simp only [Act.put, List.setIfInBounds_toArray, List.set_cons_zero, List.set_cons_succ]
        refine d_take 11 16 rfl rfl (by kernel_rfl) (by kernel_rfl) (by kernel_rfl) (fun _ _ _ h => h) rfl (fun w' hw' => er_p8 _ rfl q rfl) hS ?_
        simp only [Act.put, List.setIfInBounds_toArray, List.set_cons_zero, List.set_cons_succ]
        have HQ := hid (HG.out.keep ((((Kept.refl No wz).drew)).trans fa.2.1 (fun _ e => e.elim)))
        obtain ⟨HS, _⟩ := HQ.out.set 18 (.slice (some ⟨ga, 0, none⟩) n ca)
        refine d_turn 12 (by kernel_rfl) rfl rfl rfl (er_wS _ _ rfl q 18 _ (some ⟨ga, 0, none⟩) n ca rfl rfl ((cell_of_row _ _ 18 _ _ _ HQ.out.2.2.2.1).trans HA.out.1) (fz_blk HQ.out.2.2.2.1 _)) ((cell_of_row _ _ 18 _ _ _ HS.2.1).trans HA.out.1) ?_
        refine wpAnyH_done (by kernel_rfl) ?_ _
        clear hS
        go_wp2
        go_meet
        case rel => exact ⟨_, HS, Rw.setq HQ.out fa.1 (by decide)⟩
      · simp only [Act.put, List.setIfInBounds_toArray, List.set_cons_zero, List.set_cons_succ]
        refine d_make 3 8 (by kernel_rfl) rfl rfl rfl (er_aS (.tmp 5) (.tmp 7) rfl _ _ rfl rfl v8b X3b rfl r8b) (SZ.out _ k3b) ?_
        simp only [Act.put, List.setIfInBounds_toArray, List.set_cons_zero, List.set_cons_succ]
        refine d_make 6 11 (by kernel_rfl) rfl rfl rfl (er_aS (.tmp 8) (.tmp 10) rfl _ _ rfl rfl (.slice (some ⟨gb, 0, none⟩) (n + 1) cb) X4b rfl r11b) (SZ.out _ fb.2.1) ?_
        simp only [Act.put, List.setIfInBounds_toArray, List.set_cons_zero, List.set_cons_succ]
        have hS := SZ.out _ fb.2.1
        refine d_take 10 15 rfl rfl (by kernel_rfl) (by kernel_rfl) (by kernel_rfl) (fun _ _ _ h => h) rfl (fun w' hw' => er_sS _ _ rfl gb n cb rfl rfl fb.2.2.1) hS ?_
        simp only [Act.put, List.setIfInBounds_toArray, List.set_cons_zero, List.set_cons_succ]
        refine d_take 11 16 rfl rfl (by kernel_rfl) (by kernel_rfl) (by kernel_rfl) (fun _ _ _ h => h) rfl (fun w' hw' => er_p8 _ rfl q rfl) hS ?_
        simp only [Act.put, List.setIfInBounds_toArray, List.set_cons_zero, List.set_cons_succ]
        have HQ := hid (HG.out.keep ((((Kept.refl No wz).drew)).trans fb.2.1 (fun _ e => e.elim)))
        obtain ⟨HS, _⟩ := HQ.out.set 18 (.slice (some ⟨gb, 0, none⟩) n cb)
        refine d_turn 12 (by kernel_rfl) rfl rfl rfl (er_wS _ _ rfl q 18 _ (some ⟨gb, 0, none⟩) n cb rfl rfl ((cell_of_row _ _ 18 _ _ _ HQ.out.2.2.2.1).trans HA.out.1) (fz_blk HQ.out.2.2.2.1 _)) ((cell_of_row _ _ 18 _ _ _ HS.2.1).trans HA.out.1) ?_
        refine wpAnyH_done (by kernel_rfl) ?_ _
        clear hS
        go_wp2
        go_meet
        case rel => exact ⟨_, HS, Rw.setq HQ.out fb.1 (by decide)⟩
    · simp only [Act.put, List.setIfInBounds_toArray, List.set_cons_zero, List.set_cons_succ]
      refine d_make 0 5 (by kernel_rfl) rfl rfl rfl (er_zS rfl) (SZ.out _ (((Kept.refl No _).alloc _).alloc _)) ?_
      simp only [Act.put, List.setIfInBounds_toArray, List.set_cons_zero, List.set_cons_succ]
      refine d_make 3 8 (by kernel_rfl) rfl rfl rfl (er_aS (.tmp 5) (.tmp 7) rfl _ _ rfl rfl v8c X3c rfl r8c) (SZ.out _ k3c) ?_
      simp only [Act.put, List.setIfInBounds_toArray, List.set_cons_zero, List.set_cons_succ]
      refine d_make 6 11 (by kernel_rfl) rfl rfl rfl (er_aS (.tmp 8) (.tmp 10) rfl _ _ rfl rfl (.slice (some ⟨gc, 0, none⟩) (n + 1) cc) X4c rfl r11c) (SZ.out _ fc.2.1) ?_
      simp only [Act.put, List.setIfInBounds_toArray, List.set_cons_zero, List.set_cons_succ]
      have hS := SZ.out _ fc.2.1
      refine d_take 10 15 rfl rfl (by kernel_rfl) (by kernel_rfl) (by kernel_rfl) (fun _ _ _ h => h) rfl (fun w' hw' => er_sS _ _ rfl gc n cc rfl rfl fc.2.2.1) hS ?_
      simp only [Act.put, List.setIfInBounds_toArray, List.set_cons_zero, List.set_cons_succ]
      refine d_take 11 16 rfl rfl (by kernel_rfl) (by kernel_rfl) (by kernel_rfl) (fun _ _ _ h => h) rfl (fun w' hw' => er_p8 _ rfl q rfl) hS ?_
      simp only [Act.put, List.setIfInBounds_toArray, List.set_cons_zero, List.set_cons_succ]
      have HQ := hid (HG.out.keep ((((Kept.refl No wz).drew)).trans fc.2.1 (fun _ e => e.elim)))
      obtain ⟨HS, _⟩ := HQ.out.set 18 (.slice (some ⟨gc, 0, none⟩) n cc)
      refine d_turn 12 (by kernel_rfl) rfl rfl rfl (er_wS _ _ rfl q 18 _ (some ⟨gc, 0, none⟩) n cc rfl rfl ((cell_of_row _ _ 18 _ _ _ HQ.out.2.2.2.1).trans HA.out.1) (fz_blk HQ.out.2.2.2.1 _)) ((cell_of_row _ _ 18 _ _ _ HS.2.1).trans HA.out.1) ?_
      refine wpAnyH_done (by kernel_rfl) ?_ _
      clear hS
      go_wp2
      go_meet
      case rel => exact ⟨_, HS, Rw.setq HQ.out fc.1 (by decide)⟩
  case rest =>
    clear HG
    obtain ⟨v1, hg, r1⟩ := hcut
    have HG := hid hg
    have R1 := hid r1
    clear hg r1
    generalize wc = wz at *
    go_upto_region 3 with fail
    go_cut [] (fun wx => ∃ v2, Gv w wx A ((A.setIfInBounds 18 v1).setIfInBounds 19 v2) q ∧ Rw wx w.heap.size 24 2 v1 n (cat (sF p q1) n) [.int .i64 0, .int .i64 (-77)] ∧ Rw wx w.heap.size 4 1 v2 ne us [.bool true])
    case first =>
      obtain ⟨⟨v8a, X2a, ga, ca, X4a, r8a, k2a, r11a, fa⟩, ⟨v8b, X3b, gb, cb, X4b, r8b, k3b, r11b, fb⟩, v8c, X3c, gc, cc, X4c, r8c, k3c, r11c, fc⟩ := ord3 (P := Try.prog) (B := w.heap.size) wz.drew 35 35 4 (.bool false) 1 1 Try.underlying35 Try.infoB rfl (by decide) (HV.out.2.1.kept (HG.out.1.drew) (fun _ _ e => e)) (HV.out.2.2.2) (by omega) (by unfold maxLen; omega) (HG.out.1.drew.size) (mk := #[.bool true]) rfl (by simp [Value.oneCell'])
      have SZ : Hid (∀ W, Kept No wz.drew W → W.cell? ⟨w.heap.size, 19, none⟩ = some (.slice ea ne ec)) := fun W k => (cell_of_row _ _ 19 _ _ _ ((HG.out.keep ((Kept.refl No wz).drew)).keep k).2.1).trans HA.out.2.1
      have hSd := SZ.out _ (Kept.refl No _)
      refine wp_region_held_drew (S := fun w' => w'.cell? ⟨w.heap.size, 19, none⟩ = some (.slice ea ne ec)) (by kernel_rfl) hSd (fun hS => ?_)
      clear hSd
      refine d_take 1 18 rfl rfl (by kernel_rfl) (by kernel_rfl) (by kernel_rfl) (fun _ _ _ h => h) rfl (fun w' hw' => er_p9 _ rfl w.heap.size rfl) hS ?_
      simp only [Act.put, List.setIfInBounds_toArray, List.set_cons_zero, List.set_cons_succ]
      refine d_take 2 19 rfl rfl (by kernel_rfl) (by kernel_rfl) (by kernel_rfl) (fun _ _ _ h => h) rfl (fun w' hw' => er_lE _ rfl w.heap.size 19 _ rfl hw') hS ?_
      simp only [Act.put, List.setIfInBounds_toArray, List.set_cons_zero, List.set_cons_succ]
      refine d_take 6 23 rfl rfl (by kernel_rfl) (by kernel_rfl) (by kernel_rfl) (fun _ _ _ h => h) rfl (fun w' hw' => er_p9 _ rfl w.heap.size rfl) hS ?_
      simp only [Act.put, List.setIfInBounds_toArray, List.set_cons_zero, List.set_cons_succ]
      refine d_take 7 24 rfl rfl (by kernel_rfl) (by kernel_rfl) (by kernel_rfl) (fun _ _ _ h => h) rfl (fun w' hw' => er_lE _ rfl w.heap.size 19 _ rfl hw') hS ?_
      simp only [Act.put, List.setIfInBounds_toArray, List.set_cons_zero, List.set_cons_succ]
      refine d_take 8 25 rfl rfl (by kernel_rfl) (by kernel_rfl) (by kernel_rfl) (fun _ _ _ h => h) rfl (fun w' hw' => er_nE _ rfl ea ne ec rfl) hS ?_
      simp only [Act.put, List.setIfInBounds_toArray, List.set_cons_zero, List.set_cons_succ]
      refine d_pair 0 17 4 21 (by kernel_rfl) rfl rfl rfl rfl rfl rfl (er_zE rfl) (er_mE rfl) (SZ.out _ ((Kept.refl No _).alloc _)) (SZ.out _ ((Kept.refl No _).alloc _)) ?_ ?_
      · simp only [Act.put, List.setIfInBounds_toArray, List.set_cons_zero, List.set_cons_succ]
        refine d_pair 3 20 4 21 (by kernel_rfl) rfl rfl rfl rfl rfl rfl (er_aE (.tmp 17) (.tmp 19) rfl _ _ rfl rfl v8a X2a rfl r8a) (er_mE rfl) (SZ.out _ k2a) (SZ.out _ (((Kept.refl No _).alloc _).alloc _)) ?_ ?_
        · simp only [Act.put, List.setIfInBounds_toArray, List.set_cons_zero, List.set_cons_succ]
          refine d_make 4 21 (by kernel_rfl) rfl rfl rfl (er_mE rfl) (SZ.out _ (k2a.alloc _)) ?_
          simp only [Act.put, List.setIfInBounds_toArray, List.set_cons_zero, List.set_cons_succ]
          refine d_make 5 22 (by kernel_rfl) rfl rfl rfl (er_aE (.tmp 20) (.tmp 21) rfl _ _ rfl rfl (.slice (some ⟨ga, 0, none⟩) (ne + 1) ca) X4a rfl r11a) (SZ.out _ fa.2.1) ?_
          simp only [Act.put, List.setIfInBounds_toArray, List.set_cons_zero, List.set_cons_succ]
          have hS := SZ.out _ fa.2.1
          refine d_take 9 26 rfl rfl (by kernel_rfl) (by kernel_rfl) (by kernel_rfl) (fun _ _ _ h => h) rfl (fun w' hw' => er_sE _ _ rfl ga ne ca rfl rfl fa.2.2.1) hS ?_
          simp only [Act.put, List.setIfInBounds_toArray, List.set_cons_zero, List.set_cons_succ]
          refine d_take 10 27 rfl rfl (by kernel_rfl) (by kernel_rfl) (by kernel_rfl) (fun _ _ _ h => h) rfl (fun w' hw' => er_p9 _ rfl q rfl) hS ?_
          simp only [Act.put, List.setIfInBounds_toArray, List.set_cons_zero, List.set_cons_succ]
          have HQ := hid (HG.out.keep ((((Kept.refl No wz).drew)).trans fa.2.1 (fun _ e => e.elim)))
          obtain ⟨HS, _⟩ := HQ.out.set 19 (.slice (some ⟨ga, 0, none⟩) ne ca)
          refine d_turn 11 (by kernel_rfl) rfl rfl rfl (er_wE _ _ rfl q 19 _ (some ⟨ga, 0, none⟩) ne ca rfl rfl ((cell_of_row _ _ 19 _ _ _ HQ.out.2.2.2.1).trans (by rw [Array.getElem?_setIfInBounds_ne (by decide)]; exact HA.out.2.1)) (fz_blk HQ.out.2.2.2.1 _)) ((cell_of_row _ _ 19 _ _ _ HS.2.1).trans HA.out.2.1) ?_
          refine wpAnyH_done (by kernel_rfl) ?_ _
          clear hS
          go_wp2
          go_meet
          case rel => exact ⟨_, HS, Rw.setq HQ.out (R1.out.kept ((((Kept.refl No wz).drew)).trans fa.2.1 (fun _ e => e.elim)) (fun _ _ e => e)) (by decide), Rw.setq HQ.out fa.1 (by decide)⟩
        · simp only [Act.put, List.setIfInBounds_toArray, List.set_cons_zero, List.set_cons_succ]
          refine d_make 3 20 (by kernel_rfl) rfl rfl rfl (er_aE (.tmp 17) (.tmp 19) rfl _ _ rfl rfl v8b X3b rfl r8b) (SZ.out _ k3b) ?_
          simp only [Act.put, List.setIfInBounds_toArray, List.set_cons_zero, List.set_cons_succ]
          refine d_make 5 22 (by kernel_rfl) rfl rfl rfl (er_aE (.tmp 20) (.tmp 21) rfl _ _ rfl rfl (.slice (some ⟨gb, 0, none⟩) (ne + 1) cb) X4b rfl r11b) (SZ.out _ fb.2.1) ?_
          simp only [Act.put, List.setIfInBounds_toArray, List.set_cons_zero, List.set_cons_succ]
          have hS := SZ.out _ fb.2.1
          refine d_take 9 26 rfl rfl (by kernel_rfl) (by kernel_rfl) (by kernel_rfl) (fun _ _ _ h => h) rfl (fun w' hw' => er_sE _ _ rfl gb ne cb rfl rfl fb.2.2.1) hS ?_
          simp only [Act.put, List.setIfInBounds_toArray, List.set_cons_zero, List.set_cons_succ]
          refine d_take 10 27 rfl rfl (by kernel_rfl) (by kernel_rfl) (by kernel_rfl) (fun _ _ _ h => h) rfl (fun w' hw' => er_p9 _ rfl q rfl) hS ?_
          simp only [Act.put, List.setIfInBounds_toArray, List.set_cons_zero, List.set_cons_succ]
          have HQ := hid (HG.out.keep ((((Kept.refl No wz).drew)).trans fb.2.1 (fun _ e => e.elim)))
          obtain ⟨HS, _⟩ := HQ.out.set 19 (.slice (some ⟨gb, 0, none⟩) ne cb)
          refine d_turn 11 (by kernel_rfl) rfl rfl rfl (er_wE _ _ rfl q 19 _ (some ⟨gb, 0, none⟩) ne cb rfl rfl ((cell_of_row _ _ 19 _ _ _ HQ.out.2.2.2.1).trans (by rw [Array.getElem?_setIfInBounds_ne (by decide)]; exact HA.out.2.1)) (fz_blk HQ.out.2.2.2.1 _)) ((cell_of_row _ _ 19 _ _ _ HS.2.1).trans HA.out.2.1) ?_
          refine wpAnyH_done (by kernel_rfl) ?_ _
          clear hS
          go_wp2
          go_meet
          case rel => exact ⟨_, HS, Rw.setq HQ.out (R1.out.kept ((((Kept.refl No wz).drew)).trans fb.2.1 (fun _ e => e.elim)) (fun _ _ e => e)) (by decide), Rw.setq HQ.out fb.1 (by decide)⟩
      · simp only [Act.put, List.setIfInBounds_toArray, List.set_cons_zero, List.set_cons_succ]
        refine d_make 0 17 (by kernel_rfl) rfl rfl rfl (er_zE rfl) (SZ.out _ (((Kept.refl No _).alloc _).alloc _)) ?_
        simp only [Act.put, List.setIfInBounds_toArray, List.set_cons_zero, List.set_cons_succ]
        refine d_make 3 20 (by kernel_rfl) rfl rfl rfl (er_aE (.tmp 17) (.tmp 19) rfl _ _ rfl rfl v8c X3c rfl r8c) (SZ.out _ k3c) ?_
        simp only [Act.put, List.setIfInBounds_toArray, List.set_cons_zero, List.set_cons_succ]
        refine d_make 5 22 (by kernel_rfl) rfl rfl rfl (er_aE (.tmp 20) (.tmp 21) rfl _ _ rfl rfl (.slice (some ⟨gc, 0, none⟩) (ne + 1) cc) X4c rfl r11c) (SZ.out _ fc.2.1) ?_
        simp only [Act.put, List.setIfInBounds_toArray, List.set_cons_zero, List.set_cons_succ]
        have hS := SZ.out _ fc.2.1
        refine d_take 9 26 rfl rfl (by kernel_rfl) (by kernel_rfl) (by kernel_rfl) (fun _ _ _ h => h) rfl (fun w' hw' => er_sE _ _ rfl gc ne cc rfl rfl fc.2.2.1) hS ?_
        simp only [Act.put, List.setIfInBounds_toArray, List.set_cons_zero, List.set_cons_succ]
        refine d_take 10 27 rfl rfl (by kernel_rfl) (by kernel_rfl) (by kernel_rfl) (fun _ _ _ h => h) rfl (fun w' hw' => er_p9 _ rfl q rfl) hS ?_
        simp only [Act.put, List.setIfInBounds_toArray, List.set_cons_zero, List.set_cons_succ]
        have HQ := hid (HG.out.keep ((((Kept.refl No wz).drew)).trans fc.2.1 (fun _ e => e.elim)))
        obtain ⟨HS, _⟩ := HQ.out.set 19 (.slice (some ⟨gc, 0, none⟩) ne cc)
        refine d_turn 11 (by kernel_rfl) rfl rfl rfl (er_wE _ _ rfl q 19 _ (some ⟨gc, 0, none⟩) ne cc rfl rfl ((cell_of_row _ _ 19 _ _ _ HQ.out.2.2.2.1).trans (by rw [Array.getElem?_setIfInBounds_ne (by decide)]; exact HA.out.2.1)) (fz_blk HQ.out.2.2.2.1 _)) ((cell_of_row _ _ 19 _ _ _ HS.2.1).trans HA.out.2.1) ?_
        refine wpAnyH_done (by kernel_rfl) ?_ _
        clear hS
        go_wp2
        go_meet
        case rel => exact ⟨_, HS, Rw.setq HQ.out (R1.out.kept ((((Kept.refl No wz).drew)).trans fc.2.1 (fun _ e => e.elim)) (fun _ _ e => e)) (by decide), Rw.setq HQ.out fc.1 (by decide)⟩
    case rest =>
      clear HG R1
      obtain ⟨v2, hg, r1, r2⟩ := hcut
      have HG := hid hg
      have R1 := hid r1
      have R2 := hid r2
      clear hg r1 r2
      generalize wc = wz at *
      go_upto_region 4 with fail
      go_cut [] (fun wx => ∃ v3, Gv w wx A (((A.setIfInBounds 18 v1).setIfInBounds 19 v2).setIfInBounds 20 v3) q ∧ Rw wx w.heap.size 24 2 v1 n (cat (sF p q1) n) [.int .i64 0, .int .i64 (-77)] ∧ Rw wx w.heap.size 4 1 v2 ne us [.bool true] ∧ Rw wx w.heap.size 27 2 v3 nb (cat (sF p' q') nb) [.int .i64 (-77), .int .i64 0])
      case first =>
        obtain ⟨⟨v8a, X2a, ga, ca, X4a, r8a, k2a, r11a, fa⟩, ⟨v8b, X3b, gb, cb, X4b, r8b, k3b, r11b, fb⟩, v8c, X3c, gc, cc, X4c, r8c, k3c, r11c, fc⟩ := ord3 (P := Try.prog) (B := w.heap.size) wz.drew 28 28 27 (.agg Zs2) 2 16 Try.underlying28 Try.infoAB rfl (by decide) (HV.out.2.2.1.kept (HG.out.1.drew) (fun _ _ e => e)) (cat_one p' q' nb) (by omega) (by unfold maxLen; omega) (HG.out.1.drew.size) (mk := #[.int .i64 (-77), .int .i64 0]) rfl (by simp [Value.oneCell'])
        have SZ : Hid (∀ W, Kept No wz.drew W → W.cell? ⟨w.heap.size, 20, none⟩ = some (.slice ba nb bc)) := fun W k => (cell_of_row _ _ 20 _ _ _ ((HG.out.keep ((Kept.refl No wz).drew)).keep k).2.1).trans HA.out.2.2.1
        have hSd := SZ.out _ (Kept.refl No _)
        refine wp_region_held_drew (S := fun w' => w'.cell? ⟨w.heap.size, 20, none⟩ = some (.slice ba nb bc)) (by kernel_rfl) hSd (fun hS => ?_)
        clear hSd
        refine d_take 1 29 rfl rfl (by kernel_rfl) (by kernel_rfl) (by kernel_rfl) (fun _ _ _ h => h) rfl (fun w' hw' => er_p10 _ rfl w.heap.size rfl) hS ?_
        simp only [Act.put, List.setIfInBounds_toArray, List.set_cons_zero, List.set_cons_succ]
        refine d_take 2 30 rfl rfl (by kernel_rfl) (by kernel_rfl) (by kernel_rfl) (fun _ _ _ h => h) rfl (fun w' hw' => er_lB _ rfl w.heap.size 20 _ rfl hw') hS ?_
        simp only [Act.put, List.setIfInBounds_toArray, List.set_cons_zero, List.set_cons_succ]
        refine d_take 4 32 rfl rfl (by kernel_rfl) (by kernel_rfl) (by kernel_rfl) (fun _ _ _ h => h) rfl (fun w' hw' => er_build 27 _ rfl _ (by kernel_rfl) _ built_mB) hS ?_
        simp only [Act.put, List.setIfInBounds_toArray, List.set_cons_zero, List.set_cons_succ]
        refine d_take 7 35 rfl rfl (by kernel_rfl) (by kernel_rfl) (by kernel_rfl) (fun _ _ _ h => h) rfl (fun w' hw' => er_p10 _ rfl w.heap.size rfl) hS ?_
        simp only [Act.put, List.setIfInBounds_toArray, List.set_cons_zero, List.set_cons_succ]
        refine d_take 8 36 rfl rfl (by kernel_rfl) (by kernel_rfl) (by kernel_rfl) (fun _ _ _ h => h) rfl (fun w' hw' => er_lB _ rfl w.heap.size 20 _ rfl hw') hS ?_
        simp only [Act.put, List.setIfInBounds_toArray, List.set_cons_zero, List.set_cons_succ]
        refine d_take 9 37 rfl rfl (by kernel_rfl) (by kernel_rfl) (by kernel_rfl) (fun _ _ _ h => h) rfl (fun w' hw' => er_nB _ rfl ba nb bc rfl) hS ?_
        simp only [Act.put, List.setIfInBounds_toArray, List.set_cons_zero, List.set_cons_succ]
        refine d_pair 0 28 5 33 (by kernel_rfl) rfl rfl rfl rfl rfl rfl (er_zB rfl) (er_bsab _ rfl _ rfl (fill_s (-77) 0)) (SZ.out _ ((Kept.refl No _).alloc _)) (SZ.out _ ((Kept.refl No _).alloc _)) ?_ ?_
        · simp only [Act.put, List.setIfInBounds_toArray, List.set_cons_zero, List.set_cons_succ]
          refine d_pair 3 31 5 33 (by kernel_rfl) rfl rfl rfl rfl rfl rfl (er_aB (.tmp 28) (.tmp 30) rfl _ _ rfl rfl v8a X2a rfl r8a) (er_bsab _ rfl _ rfl (fill_s (-77) 0)) (SZ.out _ k2a) (SZ.out _ (((Kept.refl No _).alloc _).alloc _)) ?_ ?_
          · simp only [Act.put, List.setIfInBounds_toArray, List.set_cons_zero, List.set_cons_succ]
            refine d_make 5 33 (by kernel_rfl) rfl rfl rfl (er_bsab _ rfl _ rfl (fill_s (-77) 0)) (SZ.out _ (k2a.alloc _)) ?_
            simp only [Act.put, List.setIfInBounds_toArray, List.set_cons_zero, List.set_cons_succ]
            refine d_make 6 34 (by kernel_rfl) rfl rfl rfl (er_aB (.tmp 31) (.tmp 33) rfl _ _ rfl rfl (.slice (some ⟨ga, 0, none⟩) (nb + 1) ca) X4a rfl r11a) (SZ.out _ fa.2.1) ?_
            simp only [Act.put, List.setIfInBounds_toArray, List.set_cons_zero, List.set_cons_succ]
            have hS := SZ.out _ fa.2.1
            refine d_take 10 38 rfl rfl (by kernel_rfl) (by kernel_rfl) (by kernel_rfl) (fun _ _ _ h => h) rfl (fun w' hw' => er_sB _ _ rfl ga nb ca rfl rfl fa.2.2.1) hS ?_
            simp only [Act.put, List.setIfInBounds_toArray, List.set_cons_zero, List.set_cons_succ]
            refine d_take 11 39 rfl rfl (by kernel_rfl) (by kernel_rfl) (by kernel_rfl) (fun _ _ _ h => h) rfl (fun w' hw' => er_p10 _ rfl q rfl) hS ?_
            simp only [Act.put, List.setIfInBounds_toArray, List.set_cons_zero, List.set_cons_succ]
            have HQ := hid (HG.out.keep ((((Kept.refl No wz).drew)).trans fa.2.1 (fun _ e => e.elim)))
            obtain ⟨HS, _⟩ := HQ.out.set 20 (.slice (some ⟨ga, 0, none⟩) nb ca)
            refine d_turn 12 (by kernel_rfl) rfl rfl rfl (er_wB _ _ rfl q 20 _ (some ⟨ga, 0, none⟩) nb ca rfl rfl ((cell_of_row _ _ 20 _ _ _ HQ.out.2.2.2.1).trans (by rw [Array.getElem?_setIfInBounds_ne (by decide), Array.getElem?_setIfInBounds_ne (by decide)]; exact HA.out.2.2.1)) (fz_blk HQ.out.2.2.2.1 _)) ((cell_of_row _ _ 20 _ _ _ HS.2.1).trans HA.out.2.2.1) ?_
            refine wpAnyH_done (by kernel_rfl) ?_ _
            clear hS
            go_wp2
            go_meet
            case rel => exact ⟨_, HS, Rw.setq HQ.out (R1.out.kept ((((Kept.refl No wz).drew)).trans fa.2.1 (fun _ e => e.elim)) (fun _ _ e => e)) (by decide), Rw.setq HQ.out (R2.out.kept ((((Kept.refl No wz).drew)).trans fa.2.1 (fun _ e => e.elim)) (fun _ _ e => e)) (by decide), Rw.setq HQ.out fa.1 (by decide)⟩
          · simp only [Act.put, List.setIfInBounds_toArray, List.set_cons_zero, List.set_cons_succ]
            refine d_make 3 31 (by kernel_rfl) rfl rfl rfl (er_aB (.tmp 28) (.tmp 30) rfl _ _ rfl rfl v8b X3b rfl r8b) (SZ.out _ k3b) ?_
            simp only [Act.put, List.setIfInBounds_toArray, List.set_cons_zero, List.set_cons_succ]
            refine d_make 6 34 (by kernel_rfl) rfl rfl rfl (er_aB (.tmp 31) (.tmp 33) rfl _ _ rfl rfl (.slice (some ⟨gb, 0, none⟩) (nb + 1) cb) X4b rfl r11b) (SZ.out _ fb.2.1) ?_
            simp only [Act.put, List.setIfInBounds_toArray, List.set_cons_zero, List.set_cons_succ]
            have hS := SZ.out _ fb.2.1
            refine d_take 10 38 rfl rfl (by kernel_rfl) (by kernel_rfl) (by kernel_rfl) (fun _ _ _ h => h) rfl (fun w' hw' => er_sB _ _ rfl gb nb cb rfl rfl fb.2.2.1) hS ?_
            simp only [Act.put, List.setIfInBounds_toArray, List.set_cons_zero, List.set_cons_succ]
            refine d_take 11 39 rfl rfl (by kernel_rfl) (by kernel_rfl) (by kernel_rfl) (fun _ _ _ h => h) rfl (fun w' hw' => er_p10 _ rfl q rfl) hS ?_
            simp only [Act.put, List.setIfInBounds_toArray, List.set_cons_zero, List.set_cons_succ]
            have HQ := hid (HG.out.keep ((((Kept.refl No wz).drew)).trans fb.2.1 (fun _ e => e.elim)))
            obtain ⟨HS, _⟩ := HQ.out.set 20 (.slice (some ⟨gb, 0, none⟩) nb cb)
            refine d_turn 12 (by kernel_rfl) rfl rfl rfl (er_wB _ _ rfl q 20 _ (some ⟨gb, 0, none⟩) nb cb rfl rfl ((cell_of_row _ _ 20 _ _ _ HQ.out.2.2.2.1).trans (by rw [Array.getElem?_setIfInBounds_ne (by decide), Array.getElem?_setIfInBounds_ne (by decide)]; exact HA.out.2.2.1)) (fz_blk HQ.out.2.2.2.1 _)) ((cell_of_row _ _ 20 _ _ _ HS.2.1).trans HA.out.2.2.1) ?_
            refine wpAnyH_done (by kernel_rfl) ?_ _
            clear hS
            go_wp2
            go_meet
            case rel => exact ⟨_, HS, Rw.setq HQ.out (R1.out.kept ((((Kept.refl No wz).drew)).trans fb.2.1 (fun _ e => e.elim)) (fun _ _ e => e)) (by decide), Rw.setq HQ.out (R2.out.kept ((((Kept.refl No wz).drew)).trans fb.2.1 (fun _ e => e.elim)) (fun _ _ e => e)) (by decide), Rw.setq HQ.out fb.1 (by decide)⟩
        · simp only [Act.put, List.setIfInBounds_toArray, List.set_cons_zero, List.set_cons_succ]
          refine d_make 0 28 (by kernel_rfl) rfl rfl rfl (er_zB rfl) (SZ.out _ (((Kept.refl No _).alloc _).alloc _)) ?_
          simp only [Act.put, List.setIfInBounds_toArray, List.set_cons_zero, List.set_cons_succ]
          refine d_make 3 31 (by kernel_rfl) rfl rfl rfl (er_aB (.tmp 28) (.tmp 30) rfl _ _ rfl rfl v8c X3c rfl r8c) (SZ.out _ k3c) ?_
          simp only [Act.put, List.setIfInBounds_toArray, List.set_cons_zero, List.set_cons_succ]
          refine d_make 6 34 (by kernel_rfl) rfl rfl rfl (er_aB (.tmp 31) (.tmp 33) rfl _ _ rfl rfl (.slice (some ⟨gc, 0, none⟩) (nb + 1) cc) X4c rfl r11c) (SZ.out _ fc.2.1) ?_
          simp only [Act.put, List.setIfInBounds_toArray, List.set_cons_zero, List.set_cons_succ]
          have hS := SZ.out _ fc.2.1
          refine d_take 10 38 rfl rfl (by kernel_rfl) (by kernel_rfl) (by kernel_rfl) (fun _ _ _ h => h) rfl (fun w' hw' => er_sB _ _ rfl gc nb cc rfl rfl fc.2.2.1) hS ?_
          simp only [Act.put, List.setIfInBounds_toArray, List.set_cons_zero, List.set_cons_succ]
          refine d_take 11 39 rfl rfl (by kernel_rfl) (by kernel_rfl) (by kernel_rfl) (fun _ _ _ h => h) rfl (fun w' hw' => er_p10 _ rfl q rfl) hS ?_
          simp only [Act.put, List.setIfInBounds_toArray, List.set_cons_zero, List.set_cons_succ]
          have HQ := hid (HG.out.keep ((((Kept.refl No wz).drew)).trans fc.2.1 (fun _ e => e.elim)))
          obtain ⟨HS, _⟩ := HQ.out.set 20 (.slice (some ⟨gc, 0, none⟩) nb cc)
          refine d_turn 12 (by kernel_rfl) rfl rfl rfl (er_wB _ _ rfl q 20 _ (some ⟨gc, 0, none⟩) nb cc rfl rfl ((cell_of_row _ _ 20 _ _ _ HQ.out.2.2.2.1).trans (by rw [Array.getElem?_setIfInBounds_ne (by decide), Array.getElem?_setIfInBounds_ne (by decide)]; exact HA.out.2.2.1)) (fz_blk HQ.out.2.2.2.1 _)) ((cell_of_row _ _ 20 _ _ _ HS.2.1).trans HA.out.2.2.1) ?_
          refine wpAnyH_done (by kernel_rfl) ?_ _
          clear hS
          go_wp2
          go_meet
          case rel => exact ⟨_, HS, Rw.setq HQ.out (R1.out.kept ((((Kept.refl No wz).drew)).trans fc.2.1 (fun _ e => e.elim)) (fun _ _ e => e)) (by decide), Rw.setq HQ.out (R2.out.kept ((((Kept.refl No wz).drew)).trans fc.2.1 (fun _ e => e.elim)) (fun _ _ e => e)) (by decide), Rw.setq HQ.out fc.1 (by decide)⟩
      case rest =>
        clear HG R1 R2
        obtain ⟨v3, hg, r1, r2, r3⟩ := hcut
        have HG := hid hg
        have RR := hid (⟨r1, r2, r3⟩ : _ ∧ _ ∧ _)
        have hv : (∃ g c, v1 = .slice (some ⟨g, 0, none⟩) n c) ∧ (∃ g c, v2 = .slice (some ⟨g, 0, none⟩) ne c) ∧ (∃ g c, v3 = .slice (some ⟨g, 0, none⟩) nb c) := by
          obtain ⟨g, c, h, _⟩ := r1
          obtain ⟨g', c', h', _⟩ := r2
          obtain ⟨g'', c'', h'', _⟩ := r3
          exact ⟨⟨g, c, h⟩, ⟨g', c', h'⟩, g'', c'', h''⟩
        have hA3 : (((A.setIfInBounds 18 v1).setIfInBounds 19 v2).setIfInBounds 20 v3).size = 21 := by simp; exact HA.out.2.2.2.1
        have hA1 : (((A.setIfInBounds 18 v1).setIfInBounds 19 v2).setIfInBounds 20 v3).all (·.oneCell') = true := by
          obtain ⟨⟨_, _, e1⟩, ⟨_, _, e2⟩, _, _, e3⟩ := hv
          have step : ∀ (C : Array Value) (f : Nat) (v : Value), C.all (·.oneCell') = true → v.oneCell' = true → (C.setIfInBounds f v).all (·.oneCell') = true := by
            intro C f v hC hv
            rw [Array.all_eq_true_iff_forall_mem]
            intro x hx
            rcases Array.mem_or_eq_of_mem_setIfInBounds hx with h | h
            · exact (Array.all_eq_true_iff_forall_mem.1 hC) x h
            · rw [h]; exact hv
          exact step _ _ _ (step _ _ _ (step _ _ _ HA.out.2.2.2.2 (by rw [e1]; rfl)) (by rw [e2]; rfl)) (by rw [e3]; rfl)
        clear hg r1 r2 r3 hv
        generalize hE3 : ((A.setIfInBounds 18 v1).setIfInBounds 19 v2).setIfInBounds 20 v3 = A3 at *
        have HE3 := hid hE3
        clear hE3
        generalize wc = wz at *
        go_upto_region 5 with fail
        refine wp_region_lit ?_
        refine wpList_load_row rfl 37 (.tmp 3) rfl q rfl _ A3 (0, 0) _ HG.out.2.2.2.1 Try.underlying37 rfl (by rw [hA3]; exact Try.infoPart) ?_
        simp only [Act.put, List.setIfInBounds_toArray, List.set_cons_zero, List.set_cons_succ]
        refine wpList_store_row rfl 37 (.tmp 2) (.tmp 40) rfl (w.heap.size + 1) A3 rfl rfl _ Z21 HG.out.2.2.1 (by rw [hA3]; exact Try.infoPart) (by rw [hA3]; rfl) hA1 ?_
        simp only [Act.put]
        have hres := setRow_heap _ (w.heap.size + 1) Z21 A3 37 (0, 0) HG.out.2.2.1
        have kr : Kept (fun j => j = w.heap.size + 1) wz (wz.setRow (w.heap.size + 1) A3) := setRow_kept _ _ _
        have HR : Hid ((wz.setRow (w.heap.size + 1) A3).heap[w.heap.size + 1]? = some (.cells A3 37) ∧ Rw (wz.setRow (w.heap.size + 1) A3) w.heap.size 24 2 v1 n (cat (sF p q1) n) [.int .i64 0, .int .i64 (-77)] ∧ Rw (wz.setRow (w.heap.size + 1) A3) w.heap.size 4 1 v2 ne us [.bool true] ∧ Rw (wz.setRow (w.heap.size + 1) A3) w.heap.size 27 2 v3 nb (cat (sF p' q') nb) [.int .i64 (-77), .int .i64 0] ∧ Kept No w (wz.setRow (w.heap.size + 1) A3)) := by
          have ne : ∀ {t k m : Nat} {v : Value} {xs mk : List Value}, Rw wz w.heap.size t k v m xs mk → t ≠ 37 → ∀ g, v.ownBlock = some g → ¬ g = w.heap.size + 1 := fun hr ht g hg e => by
            obtain ⟨_, cs, h1⟩ := hr.blk hg
            subst e
            exact ht (two_tags h1 HG.out.2.2.1)
          exact ⟨hres, RR.out.1.kept kr (ne RR.out.1 (by decide)), RR.out.2.1.kept kr (ne RR.out.2.1 (by decide)), RR.out.2.2.kept kr (ne RR.out.2.2 (by decide)), HG.out.1.trans kr (fun j e => .inr (by omega))⟩
        clear hres kr hA1
        generalize (wz.setRow (w.heap.size + 1) A3) = w9 at *
        go_wp2
        refine bodyPost_ret (results_cell_row rfl _ _ (w.heap.size + 1) 37 A3 (0, 0) _ rfl HR.out.1 Try.underlying37 rfl (by rw [hA3]; exact Try.infoPart)) rfl ?_
        exact ⟨v1, v2, v3, by rw [HE3.out], HR.out.2.1, HR.out.2.2.1, HR.out.2.2.2.1, HR.out.2.2.2.2⟩
end Go.Proofs.Ytggkajopfbokjaa
