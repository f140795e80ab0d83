/-
  plays: Wait.
-/
import Derived.Test.YtofkacfchkimiaaPPlayS
import Derived.Test.YtofkacfchkimiaaPHeld
import Derived.Maps.AppendAt
import Derived.Laws.OwnMore
namespace Go.Proofs.Ytofkacfchkimiaa
open Go.RowKit Plain
set_option linter.unusedVariables false
set_option maxRecDepth 100000
/-- append of words to what is one's own and empty: the run -/
theorem cpw_run {F : Nat → Prop} {xa : Option Addr} {n c : Nat} {xs : List Int} (w : World) (B : Nat) (v : Value) (hv : w.ownsRow B 2 1 v 0 []) (hB : B ≤ w.heap.size) (hz : Zs w F xa n c xs) (hn : n ≤ 1048576) (ty : TypeId) :
    ∃ ya yc w', (Builtin.append_ #[32, 32] ty #[v, .slice xa n c]).run Try.prog w = .ok (.slice ya n yc) w' ∧ w'.ownsRow B 2 1 (.slice ya n yc) n (xs.map iv) ∧ Kept (fun k => v.ownBlock = some k) w w' := by
  obtain ⟨i0, hi, hz0, hz1, hz2⟩ := info_parts Try.infoW
  cases xa with
  | none =>
    have hc0 := hz.nil rfl
    have hn0 : n = 0 := by have := hz.cap; omega
    have hx0 : xs = [] := List.eq_nil_of_length_eq_zero (by rw [hz.len]; exact hn0)
    subst hc0 hn0 hx0
    have hr := run_append_owned_none (P := Try.prog) (w := w) B 32 ty 2 i0 1 Try.underlying32 hi v 0 [] hv
    obtain ⟨va, vn, vc, rfl⟩ := own_slice hv
    have hvn : vn = 0 := by
      rcases owns_cells hv with ⟨h1, _⟩ | ⟨g, cap, h1, _⟩
      · injection h1
      · injection h1
    subst hvn
    exact ⟨va, vc, w, hr, hv, Kept.refl _ _⟩
  | some ad =>
    obtain ⟨v', w', hr, own1, grow1, _, _⟩ := run_append_own_at (P := Try.prog) w B 32 ty 2 i0 (.int .i64 0) 1 8 Try.underlying32 hi hz0 hz1 hz2 rfl (by decide) v 0 [] hv ad n c (xs.map iv) (by rw [List.length_map, hz.len]; omega) hz.news (iv_one _) (by unfold maxLen; omega) (by omega) hB
    rw [Nat.zero_add, List.nil_append] at own1
    obtain ⟨ya, yn, yc, rfl⟩ := own_slice own1
    have hyn : yn = n := by
      rcases owns_cells own1 with ⟨h1, h2⟩ | ⟨g, cap, h1, _⟩
      · injection h1 with _ h3 _; omega
      · injection h1
    subst hyn
    exact ⟨ya, yc, w', hr, own1, (Kept.refl (fun k => v.ownBlock = some k) w).grown grow1 (fun k e => .inl e)⟩
theorem own_empty (w : World) (B : Nat) (hB : B ≤ w.heap.size) : (w.alloc (.cells #[] 2)).ownsRow B 2 1 (.slice (some ⟨w.heap.size, 0, none⟩) 0 0) 0 [] :=
  ⟨rfl, .inr ⟨w.heap.size, 0, #[], rfl, hB, alloc_new w _, Nat.le_refl _, by unfold maxLen; omega, rfl, rfl⟩⟩
section
variable {w : World} {a : Act} {o : Oper}
theorem er_bs0 (ho : o.op = .buildSlice 32 0 #[]) : (execOp a.eval o).run Try.prog w = .ok (.value (.slice (some ⟨w.heap.size, 0, none⟩) 0 0)) (w.alloc (.cells #[] 2)) := by
  simp only [execOp, ho]; simp [go_sem]
theorem er_appW (s x : Operand) (ho : o.op = .call { callee := .builtin .append, args := #[s, x], argTypes := #[32, 32] }) (v u : Value) (hs : a.eval s = v) (hx : a.eval x = u) (v' : Value) (w' : World) (hr : (Builtin.append_ #[32, 32] o.type #[v, u]).run Try.prog w = .ok v' w') : (execOp a.eval o).run Try.prog w = .ok (.value v') w' := by
  unfold execOp
  simp only [ho, resolve, invoke, builtin, Sem.run_bind, Sem.run_pure, Result.andThen_ok, List.map_toArray, List.map_cons, List.map_nil, hs, hx, hr]
theorem er_ldW (x : Operand) (ho : o.op = .load 32 x) (g off : Nat) (v : Value) (hx : a.eval x = .pointer (some ⟨g, off, none⟩)) (hr : w.cell? ⟨g, off, none⟩ = some v) : (execOp a.eval o).run Try.prog w = .ok (.value v) w := by
  simp only [execOp, ho, hx]; simp [go_sem, hr]
theorem er_s1 (x : Operand) (ho : o.op = .fieldAddr 77 x 1) (g : Nat) (hx : a.eval x = .pointer (some ⟨g, 0, none⟩)) : (execOp a.eval o).run Try.prog w = .ok (.value (.pointer (some ⟨g, 1, none⟩))) w := by simp only [execOp, ho, hx]; simp [go_sem, add_none]
theorem er_s2 (x : Operand) (ho : o.op = .fieldAddr 77 x 2) (g : Nat) (hx : a.eval x = .pointer (some ⟨g, 0, none⟩)) : (execOp a.eval o).run Try.prog w = .ok (.value (.pointer (some ⟨g, 2, none⟩))) w := by simp only [execOp, ho, hx]; simp [go_sem, add_none]
theorem er_s3 (x : Operand) (ho : o.op = .fieldAddr 77 x 3) (g : Nat) (hx : a.eval x = .pointer (some ⟨g, 0, none⟩)) : (execOp a.eval o).run Try.prog w = .ok (.value (.pointer (some ⟨g, 3, none⟩))) w := by simp only [execOp, ho, hx]; simp [go_sem, add_none]
theorem er_s4 (x : Operand) (ho : o.op = .fieldAddr 77 x 4) (g : Nat) (hx : a.eval x = .pointer (some ⟨g, 0, none⟩)) : (execOp a.eval o).run Try.prog w = .ok (.value (.pointer (some ⟨g, 4, none⟩))) w := by simp only [execOp, ho, hx]; simp [go_sem, add_none]
theorem er_s5 (x : Operand) (ho : o.op = .fieldAddr 77 x 5) (g : Nat) (hx : a.eval x = .pointer (some ⟨g, 0, none⟩)) : (execOp a.eval o).run Try.prog w = .ok (.value (.pointer (some ⟨g, 5, none⟩))) w := by simp only [execOp, ho, hx]; simp [go_sem, add_none]
theorem er_s7 (x : Operand) (ho : o.op = .fieldAddr 77 x 7) (g : Nat) (hx : a.eval x = .pointer (some ⟨g, 0, none⟩)) : (execOp a.eval o).run Try.prog w = .ok (.value (.pointer (some ⟨g, 9, none⟩))) w := by simp only [execOp, ho, hx]; simp [go_sem, add_none]
theorem er_c_wait (x0 x1 x2 x3 x4 x5 x6 : Operand) (t0 t1 t2 t3 t4 t5 t6 : TypeId) (ho : o.op = .call { callee := .value (.func 11), args := #[x0, x1, x2, x3, x4, x5, x6], argTypes := #[t0, t1, t2, t3, t4, t5, t6] }) (v0 v1 v2 v3 v4 v5 v6 : Value) (h0 : a.eval x0 = v0) (h1 : a.eval x1 = v1) (h2 : a.eval x2 = v2) (h3 : a.eval x3 = v3) (h4 : a.eval x4 = v4) (h5 : a.eval x5 = v5) (h6 : a.eval x6 = v6) : (execOp a.eval o).run Try.prog w = .ok (.enter 11 #[v0, v1, v2, v3, v4, v5, v6]) w := by
  subst h0 h1 h2 h3 h4 h5 h6
  simp [execOp, ho, go_sem, Act.eval]
end
section
variable {b g cap : Nat} {T : Tt}
set_option maxHeartbeats 8000000 in
theorem plays_9 {F : Nat → Prop} {da : Option Addr} {dn dc : Nat} {xs : List Int} (w : World) (h : Tw w b g cap T) (hn : T.n ≤ 1048576) (hr : Rm T.pl) (p A B C D x y z : Int) (hz : Zs w F da dn dc xs) (hm : dn ≤ 1048576) :
    Calls Try.prog 29 #[.pointer (some ⟨b, 0, none⟩), .agg #[.int .i64 9, .int .i64 p, .int .i64 A, .int .i64 B, .int .i64 C, .int .i64 D, .int .i64 x, .int .i64 y, .int .i64 z, .slice da dn dc]] w fun e w' => ∃ v, Nwv w v ∧ Does w b g cap T (T.cWait p A B C D v xs) e w' := by
  have k1 : Kept  No w (w.alloc (.cells #[.int .i64 9, .int .i64 p, .int .i64 A, .int .i64 B, .int .i64 C, .int .i64 D, .int .i64 x, .int .i64 y, .int .i64 z, .slice da dn dc] 77)) := (Kept.refl No w).alloc _
  have hB := alloc_new w (.cells #[.int .i64 9, .int .i64 p, .int .i64 A, .int .i64 B, .int .i64 C, .int .i64 D, .int .i64 x, .int .i64 y, .int .i64 z, .slice da dn dc] 77)
  have hlow := h.low
  have hsz : (w.alloc (.cells #[.int .i64 9, .int .i64 p, .int .i64 A, .int .i64 B, .int .i64 C, .int .i64 D, .int .i64 x, .int .i64 y, .int .i64 z, .slice da dn dc] 77)).heap.size = w.heap.size + 1 := World.size_alloc _ _
  have HK : Hid (Kept  No w (w.alloc (.cells #[.int .i64 9, .int .i64 p, .int .i64 A, .int .i64 B, .int .i64 C, .int .i64 D, .int .i64 x, .int .i64 y, .int .i64 z, .slice da dn dc] 77)) ∧ Tw (w.alloc (.cells #[.int .i64 9, .int .i64 p, .int .i64 A, .int .i64 B, .int .i64 C, .int .i64 D, .int .i64 x, .int .i64 y, .int .i64 z, .slice da dn dc] 77)) b g cap T ∧ (w.alloc (.cells #[.int .i64 9, .int .i64 p, .int .i64 A, .int .i64 B, .int .i64 C, .int .i64 D, .int .i64 x, .int .i64 y, .int .i64 z, .slice da dn dc] 77)).heap[w.heap.size]? = some (.cells #[.int .i64 9, .int .i64 p, .int .i64 A, .int .i64 B, .int .i64 C, .int .i64 D, .int .i64 x, .int .i64 y, .int .i64 z, .slice da dn dc] 77) ∧ Zs (w.alloc (.cells #[.int .i64 9, .int .i64 p, .int .i64 A, .int .i64 B, .int .i64 C, .int .i64 D, .int .i64 x, .int .i64 y, .int .i64 z, .slice da dn dc] 77)) F da dn dc xs ∧ (w.alloc (.cells #[.int .i64 9, .int .i64 p, .int .i64 A, .int .i64 B, .int .i64 C, .int .i64 D, .int .i64 x, .int .i64 y, .int .i64 z, .slice da dn dc] 77)).heap.size = w.heap.size + 1) := ⟨k1, h.keep k1, hB, hz.kept k1 (fun _ _ e => e), hsz⟩
  clear h k1 hB hz hsz
  go_enter Try.func29, Try.ntmps29
  go_upto_region 19 with fail
  generalize (w.alloc (.cells #[.int .i64 9, .int .i64 p, .int .i64 A, .int .i64 B, .int .i64 C, .int .i64 D, .int .i64 x, .int .i64 y, .int .i64 z, .slice da dn dc] 77)) = W1 at *
  refine wp_region_held_drew (S := fun V => Kept (Bg b g) W1 V) (by kernel_rfl) ((Kept.refl (Bg b g) W1).drew) (fun hS => ?_)
  have cb : ∀ (j : Nat) (u : Value), #[.int .i64 9, .int .i64 p, .int .i64 A, .int .i64 B, .int .i64 C, .int .i64 D, .int .i64 x, .int .i64 y, .int .i64 z, .slice da dn dc][j]? = some u → ∀ {V : World}, Kept (Bg b g) W1 V → V.cell? ⟨w.heap.size, j, none⟩ = some u := fun j u hu {V} hv => hv.cell ((cell_of_row _ _ j _ _ _ HK.out.2.2.1).trans hu) (fun e => by rcases e with e | e <;> (have e' := (show w.heap.size = _ from e); omega))
  refine d_take 0 63 rfl rfl (by kernel_rfl) (by kernel_rfl) (by kernel_rfl) (fun _ _ _ h => h) rfl (fun w' hw' => er_mv _ rfl (.pointer (some ⟨b, 0, none⟩)) rfl) hS ?_
  simp only [Act.put, List.setIfInBounds_toArray, List.set_cons_zero, List.set_cons_succ]
  refine d_take 1 64 rfl rfl (by kernel_rfl) (by kernel_rfl) (by kernel_rfl) (fun _ _ _ h => h) rfl (fun w' hw' => er_s1 _ rfl w.heap.size rfl) hS ?_
  simp only [Act.put, List.setIfInBounds_toArray, List.set_cons_zero, List.set_cons_succ]
  refine d_take 2 65 rfl rfl (by kernel_rfl) (by kernel_rfl) (by kernel_rfl) (fun _ _ _ h => h) rfl (fun w' hw' => er_ld3 _ rfl w.heap.size 1 (.int .i64 p) rfl (cb 1 _ rfl hw')) hS ?_
  simp only [Act.put, List.setIfInBounds_toArray, List.set_cons_zero, List.set_cons_succ]
  refine d_take 3 66 rfl rfl (by kernel_rfl) (by kernel_rfl) (by kernel_rfl) (fun _ _ _ h => h) rfl (fun w' hw' => er_s2 _ rfl w.heap.size rfl) hS ?_
  simp only [Act.put, List.setIfInBounds_toArray, List.set_cons_zero, List.set_cons_succ]
  refine d_take 4 67 rfl rfl (by kernel_rfl) (by kernel_rfl) (by kernel_rfl) (fun _ _ _ h => h) rfl (fun w' hw' => er_ld3 _ rfl w.heap.size 2 (.int .i64 A) rfl (cb 2 _ rfl hw')) hS ?_
  simp only [Act.put, List.setIfInBounds_toArray, List.set_cons_zero, List.set_cons_succ]
  refine d_take 5 68 rfl rfl (by kernel_rfl) (by kernel_rfl) (by kernel_rfl) (fun _ _ _ h => h) rfl (fun w' hw' => er_s3 _ rfl w.heap.size rfl) hS ?_
  simp only [Act.put, List.setIfInBounds_toArray, List.set_cons_zero, List.set_cons_succ]
  refine d_take 6 69 rfl rfl (by kernel_rfl) (by kernel_rfl) (by kernel_rfl) (fun _ _ _ h => h) rfl (fun w' hw' => er_ld3 _ rfl w.heap.size 3 (.int .i64 B) rfl (cb 3 _ rfl hw')) hS ?_
  simp only [Act.put, List.setIfInBounds_toArray, List.set_cons_zero, List.set_cons_succ]
  refine d_take 7 70 rfl rfl (by kernel_rfl) (by kernel_rfl) (by kernel_rfl) (fun _ _ _ h => h) rfl (fun w' hw' => er_s4 _ rfl w.heap.size rfl) hS ?_
  simp only [Act.put, List.setIfInBounds_toArray, List.set_cons_zero, List.set_cons_succ]
  refine d_take 8 71 rfl rfl (by kernel_rfl) (by kernel_rfl) (by kernel_rfl) (fun _ _ _ h => h) rfl (fun w' hw' => er_ld3 _ rfl w.heap.size 4 (.int .i64 C) rfl (cb 4 _ rfl hw')) hS ?_
  simp only [Act.put, List.setIfInBounds_toArray, List.set_cons_zero, List.set_cons_succ]
  refine d_take 9 72 rfl rfl (by kernel_rfl) (by kernel_rfl) (by kernel_rfl) (fun _ _ _ h => h) rfl (fun w' hw' => er_s5 _ rfl w.heap.size rfl) hS ?_
  simp only [Act.put, List.setIfInBounds_toArray, List.set_cons_zero, List.set_cons_succ]
  refine d_take 10 73 rfl rfl (by kernel_rfl) (by kernel_rfl) (by kernel_rfl) (fun _ _ _ h => h) rfl (fun w' hw' => er_ld3 _ rfl w.heap.size 5 (.int .i64 D) rfl (cb 5 _ rfl hw')) hS ?_
  simp only [Act.put, List.setIfInBounds_toArray, List.set_cons_zero, List.set_cons_succ]
  refine d_take 12 75 rfl rfl (by kernel_rfl) (by kernel_rfl) (by kernel_rfl) (fun _ _ _ h => h) rfl (fun w' hw' => er_s7 _ rfl w.heap.size rfl) hS ?_
  simp only [Act.put, List.setIfInBounds_toArray, List.set_cons_zero, List.set_cons_succ]
  refine d_take 13 76 rfl rfl (by kernel_rfl) (by kernel_rfl) (by kernel_rfl) (fun _ _ _ h => h) rfl (fun w' hw' => er_ldW _ rfl w.heap.size 9 (.slice da dn dc) rfl (cb 9 _ rfl hw')) hS ?_
  simp only [Act.put, List.setIfInBounds_toArray, List.set_cons_zero, List.set_cons_succ]
  have kd : Kept No W1 W1.drew := (Kept.refl No W1).drew
  have ka : Kept No W1 (W1.drew.alloc (.cells #[] 2)) := kd.alloc _
  obtain ⟨ya, yc, w3, hrun, own3, k3⟩ := cpw_run (W1.drew.alloc (.cells #[] 2)) W1.heap.size (.slice (some ⟨W1.drew.heap.size, 0, none⟩) 0 0) (own_empty W1.drew W1.heap.size kd.size) ka.size (HK.out.2.2.2.1.kept ka (fun _ _ e => e)) hm 32
  have k4 : Kept No W1 w3 := ka.trans k3 (fun q e => .inr (by injection e with e; have := kd.size; subst e; exact this))
  have k5 : Kept No w w3 := HK.out.1.trans k4 (fun _ e => e.elim)
  have zz : Zs w3 (fun k => (Value.slice ya dn yc).ownBlock = some k) ya dn yc xs := Zs.owned own3 HK.out.2.2.2.1.len
  have wt := wait_does w3 (HK.out.2.1.keep k4) hn hr p A B C D zz (fun k e => by have := (own_at own3 k e).1; have := HK.out.2.2.2.2; omega) hm
  refine d_make 11 74 (by kernel_rfl) rfl rfl rfl (er_bs0 rfl) (ka.mono (fun _ e => e.elim)) ?_
  simp only [Act.put, List.setIfInBounds_toArray, List.set_cons_zero, List.set_cons_succ]
  refine d_make 14 77 (by kernel_rfl) rfl rfl rfl (er_appW _ _ rfl (.slice (some ⟨W1.drew.heap.size, 0, none⟩) 0 0) (.slice da dn dc) rfl rfl (.slice ya dn yc) w3 hrun) (k4.mono (fun _ e => e.elim)) ?_
  simp only [Act.put, List.setIfInBounds_toArray, List.set_cons_zero, List.set_cons_succ]
  refine d_callN (fun u w'' => ∃ v, Nwv w v ∧ u = .bool (T.cWait p A B C D v xs).isSome ∧ Tw w'' b g cap ((T.cWait p A B C D v xs).getD T) ∧ Kept (Bg b g) w w'') 15 78 (by kernel_rfl) rfl rfl rfl (er_c_wait _ _ _ _ _ _ _ _ _ _ _ _ _ _ rfl (.pointer (some ⟨b, 0, none⟩)) (.int .i64 p) (.int .i64 A) (.int .i64 B) (.int .i64 C) (.int .i64 D) (.slice ya dn yc) rfl rfl rfl rfl rfl rfl rfl) (wt.mono ?_) ?_
  · rintro e w'' ⟨v, hv, rfl, t, k⟩
    exact ⟨_, rfl, (k4.mono (fun _ e => e.elim)).trans k (fun _ e => .inl e), v, hv.dn k5.size, rfl, t, (k5.mono (fun _ e => e.elim)).trans k (fun _ e => .inl e)⟩
  rintro u w4 hS4 ⟨v, hv, rfl, t4, k6⟩
  simp only [Act.put, List.setIfInBounds_toArray, List.set_cons_zero, List.set_cons_succ]
  refine d_take 16 4 rfl rfl (by kernel_rfl) (by kernel_rfl) (by kernel_rfl) (fun _ _ _ h => h) rfl (fun w' hw' => er_as _ rfl (.bool (T.cWait p A B C D v xs).isSome) rfl) hS4 ?_
  simp only [Act.put, List.setIfInBounds_toArray, List.set_cons_zero, List.set_cons_succ]
  refine wpAnyH_done (by kernel_rfl) ?_ _
  have HF : Hid (Tw w4 b g cap ((T.cWait p A B C D v xs).getD T) ∧ Kept (Bg b g) w w4) := ⟨t4, k6⟩
  have HV : Hid (Nwv w v) := hv
  clear hv
  clear hS hS4 cb wt zz own3 k3 k4 k5 kd ka hrun t4 k6
  generalize hR : T.cWait p A B C D v xs = R at HF ⊢
  have HR : Hid (T.cWait p A B C D v xs = R) := hR
  clear hR
  go_wp2
  go_ret
  exact ⟨v, HV.out, by rw [HR.out]; exact ⟨rfl, HF.out⟩⟩
end
end Go.Proofs.Ytofkacfchkimiaa
