/-
  One text: OTake.
-/
import Derived.Test.YtibmgpinfdcaoaaGreatDoorG20
import Derived.Test.YtibmgpinfdcaoaaGreatDoorG23
namespace Go.Proofs.YtibmgpinfdcaoaaGreatDoor
open Go.RowKit Go.Shelf Plain
set_option linter.unusedVariables false
set_option maxRecDepth 100000

theorem com_int (a b c d : Nat) : (max 0 (min (b : Int) (d : Int) - max (a : Int) (c : Int))) = (Rule.com a b c d : Int) := by
  unfold Rule.com
  omega
theorem common_any (a b c d : Nat) (w : World) (hb : b ≤ 4611686018427387904) (ha : a ≤ 4611686018427387904) (hc : c ≤ 4611686018427387904) (hd : d ≤ 4611686018427387904) :
    Calls Tryz.prog 60 #[.agg #[.int .i64 a, .int .i64 b], .agg #[.int .i64 c, .int .i64 d]] w fun e w' => e = .returned (.int .i64 (Rule.com a b c d)) ∧ Kept No w w' := by
  have hk : Hid (Kept No w ((w.alloc (.cells #[.int .i64 a, .int .i64 b] 60)).alloc (.cells #[.int .i64 c, .int .i64 d] 60))) := ((Kept.refl No w).alloc _).alloc _
  have hcom : Hid ((max 0 (min (b : Int) (d : Int) - max (a : Int) (c : Int))) = (Rule.com a b c d : Int)) := com_int a b c d
  go_enter Tryz.func60, Tryz.ntmps60
  go_wp2
  go_ret
  exact ⟨by rw [← hcom.out]; rfl, hk.out⟩
section
variable {o : Oper} {ac : Act} {w : World}
theorem er_mul (x y : Operand) (ho : o.op = .binOp .mul 3 x y 3) (k l r : Int) (hx : ac.eval x = .int .i64 k) (hy : ac.eval y = .int .i64 l) (hr : wrap64 (k * l) = r) : (execOp ac.eval o).run Tryz.prog w = .ok (.value (.int .i64 r)) w := by
  subst hr
  simp only [execOp, ho, hx, hy]; simp [go_sem, w64i]
theorem er_rem (x y : Operand) (ho : o.op = .binOp .rem 3 x y 3) (k l : Nat) (r : Int) (hx : ac.eval x = .int .i64 k) (hy : ac.eval y = .int .i64 l) (hl : 1 ≤ l) (hr : Int.tmod k l = r) : (execOp ac.eval o).run Tryz.prog w = .ok (.value (.int .i64 r)) w := by
  subst hr
  have h0 : ¬ (l = 0) := by omega
  simp only [execOp, ho, hx, hy]; simp [go_sem, h0]
theorem er_ldsp (x : Operand) (ho : o.op = .load 60 x) (g off : Nat) (u v : Value) (hx : ac.eval x = .pointer (some ⟨g, off, none⟩)) (hr : w.cell? ⟨g, off, none⟩ = some u) (hs : w.cell? ⟨g, off + 1, none⟩ = some v) : (execOp ac.eval o).run Tryz.prog w = .ok (.value (.agg #[u, v])) w := by
  simp only [execOp, ho, hx]; simp [go_sem, hr, hs]
theorem er_c_common (x0 x1 : Operand) (ts : Array TypeId) (ho : o.op = .call { callee := .value (.func 60), args := #[x0, x1], argTypes := ts }) (v0 v1 : Value) (h0 : ac.eval x0 = v0) (h1 : ac.eval x1 = v1) : (execOp ac.eval o).run Tryz.prog w = .ok (.enter 60 #[v0, v1]) w := by
  subst h0; subst h1
  simp [execOp, ho, go_sem, Act.eval]
end
set_option maxHeartbeats 2000000 in
theorem comesB_any (H t a b : Nat) (w : World) (hH1 : 1 ≤ H) (hH2 : H ≤ 1048576) (ht : t ≤ 1099511627776) (hb : b ≤ 2 * H) (ha : a ≤ b) :
    Calls Tryz.prog 46 #[.agg #[.int .i64 a, .int .i64 b], .int .i64 H, .int .i64 t] w fun e w' => e = .returned (.int .i64 (Rule.comes H t a b)) ∧ Kept No w w' := by
  have HKA : Hid (Kept No w (w.alloc (.cells #[.int .i64 a, .int .i64 b] 60))) := (Kept.refl No w).alloc _
  obtain ⟨B0, B1⟩ := cells2' (World.alloc_heap_new w (.cells #[.int .i64 a, .int .i64 b] 60))
  unfold Rule.comes
  by_cases hle : t ≤ H
  · rw [if_pos hle]
    have hc := fun W => common_any a b 0 t W (by omega) (by omega) (by omega) (by omega)
    clear hH1 hH2 ht hb ha
    go_enter Tryz.func46, Tryz.ntmps46
    go_wp2_with (go_at_call 60; refine (hc _).mono ?_; rintro e w2 ⟨rfl, hk2⟩; have HK2 : Hid (Kept No w w2) := HKA.out.trans hk2 (fun _ h => h.elim); clear hk2)
    go_ret
    exact ⟨rfl, HK2.out⟩
  · rw [if_neg hle]
    have hq1 : (t - H) / H ≤ 1099511627776 := Nat.le_trans (Nat.div_le_self _ _) (by omega)
    have hm1 := Nat.mod_lt t (show H > 0 by omega)
    have hcb : Rule.com a b H (2 * H) ≤ H := by unfold Rule.com; omega
    have hprod : (t - H) / H * Rule.com a b H (2 * H) ≤ 1099511627776 := by
      have h1 := Nat.mul_le_mul_left ((t - H) / H) hcb
      have h2 := Nat.div_mul_le_self (t - H) H
      omega
    have hc0 : Rule.com a b 0 H ≤ H := by unfold Rule.com; omega
    have hc3 : Rule.com a b H (H + t % H) ≤ 2 * H := by unfold Rule.com; omega
    have M8 : Hid (wrap64 (2 * (H : Int)) = ((2 * H : Nat) : Int)) := by show wrap64 (2 * (H : Int)) = ((2 * H : Nat) : Int); unfold wrap64; omega
    have M11 : Hid (wrap64 (((t - H) / H : Nat) * (Rule.com a b H (2 * H) : Int)) = (((t - H) / H * Rule.com a b H (2 * H) : Nat) : Int)) := by
      show wrap64 (((t - H) / H : Nat) * (Rule.com a b H (2 * H) : Int)) = _
      rw [← Int.natCast_mul]
      generalize (t - H) / H * Rule.com a b H (2 * H) = z at *
      unfold wrap64; omega
    generalize hzz : (t - H) / H * Rule.com a b H (2 * H) = z at *
    have M12 : Hid (wrap64 ((Rule.com a b 0 H : Int) + (z : Int)) = ((Rule.com a b 0 H + z : Nat) : Int)) := by show wrap64 _ = _; unfold wrap64; omega
    have M18 : Hid (Int.tmod (t : Int) (H : Int) = ((t % H : Nat) : Int)) := (Int.ofNat_tmod t H).symm
    have M19 : Hid (wrap64 ((H : Int) + (t % H : Nat)) = ((H + t % H : Nat) : Int)) := by show wrap64 ((H : Int) + (t % H : Nat)) = ((H + t % H : Nat) : Int); unfold wrap64; omega
    have M22 : Hid (wrap64 (((Rule.com a b 0 H + z : Nat) : Int) + (Rule.com a b H (H + t % H) : Int)) = ((Rule.com a b 0 H + z + Rule.com a b H (H + t % H) : Nat) : Int)) := by show wrap64 _ = _; unfold wrap64; omega
    have B0 : Hid ((w.alloc (.cells #[.int .i64 a, .int .i64 b] 60)).cell? ⟨w.heap.size, 0, none⟩ = some (.int .i64 a)) := B0
    have B1 : Hid ((w.alloc (.cells #[.int .i64 a, .int .i64 b] 60)).cell? ⟨w.heap.size, 0 + 1, none⟩ = some (.int .i64 b)) := B1
    have HZZ : Hid ((t - H) / H * Rule.com a b H (2 * H) = z) := hzz
    clear hzz
    have hlt : (H : Int) < t := by omega
    go_enter Tryz.func46, Tryz.ntmps46
    go_upto_region 4 with fail
    have e7 : ((t : Int) - H) / H = (((t - H) / H : Nat) : Int) := by rw [Int.natCast_ediv]; congr 1; omega
    simp only [e7]
    clear e7
    generalize w.alloc (.cells #[.int .i64 a, .int .i64 b] 60) = w1 at *
    refine wp_region_kept w1 (by kernel_rfl) (by kernel_rfl) (Kept.refl No w1) ?_
    refine BigFrame.wpQuiet_want rfl (fun K hK => ?_)
    refine quiet_val' (fun w5 hw5 => er_ldsp _ rfl w.heap.size 0 (.int .i64 a) (.int .i64 b) rfl (hw5.cell B0.out (fun h => h)) (hw5.cell B1.out (fun h => h))) ?_
    refine hK _ ?_
    clear hK K
    simp only [Act.put, List.setIfInBounds_toArray, List.set_cons_zero, List.set_cons_succ]
    refine BigFrame.wpQuiet_want rfl (fun K hK => ?_)
    refine quiet_val' (fun w5 hw5 => er_mv _ rfl (.int .i64 H) rfl) ?_
    refine hK _ ?_
    clear hK K
    simp only [Act.put, List.setIfInBounds_toArray, List.set_cons_zero, List.set_cons_succ]
    refine BigFrame.wpQuiet_want rfl (fun K hK => ?_)
    refine quiet_val' (fun w5 hw5 => er_bsp _ _ rfl 0 (H) rfl rfl) ?_
    refine hK _ ?_
    clear hK K
    simp only [Act.put, List.setIfInBounds_toArray, List.set_cons_zero, List.set_cons_succ]
    refine BigFrame.wpQuiet_want rfl (fun K hK => ?_)
    refine quiet_call' (fun w5 => er_c_common _ _ _ rfl (.agg #[.int .i64 a, .int .i64 b]) (.agg #[.int .i64 0, .int .i64 H]) rfl rfl) (fun w5 hw5 => (common_any a b 0 H w5 (by omega) (by omega) (by omega) (by omega)).mono (fun e w6 he => ⟨he.1, hw5.trans he.2 (fun _ h => h.elim)⟩)) ?_
    refine hK _ ?_
    clear hK K
    simp only [Act.put, List.setIfInBounds_toArray, List.set_cons_zero, List.set_cons_succ]
    refine BigFrame.wpQuiet_want rfl (fun K hK => ?_)
    refine quiet_val' (fun w5 hw5 => er_mv _ rfl (.int .i64 ((t - H) / H : Nat)) rfl) ?_
    refine hK _ ?_
    clear hK K
    simp only [Act.put, List.setIfInBounds_toArray, List.set_cons_zero, List.set_cons_succ]
    refine BigFrame.wpQuiet_want rfl (fun K hK => ?_)
    refine quiet_val' (fun w5 hw5 => er_ldsp _ rfl w.heap.size 0 (.int .i64 a) (.int .i64 b) rfl (hw5.cell B0.out (fun h => h)) (hw5.cell B1.out (fun h => h))) ?_
    refine hK _ ?_
    clear hK K
    simp only [Act.put, List.setIfInBounds_toArray, List.set_cons_zero, List.set_cons_succ]
    refine BigFrame.wpQuiet_want rfl (fun K hK => ?_)
    refine quiet_val' (fun w5 hw5 => er_mv _ rfl (.int .i64 H) rfl) ?_
    refine hK _ ?_
    clear hK K
    simp only [Act.put, List.setIfInBounds_toArray, List.set_cons_zero, List.set_cons_succ]
    refine BigFrame.wpQuiet_want rfl (fun K hK => ?_)
    refine quiet_val' (fun w5 hw5 => er_mv _ rfl (.int .i64 H) rfl) ?_
    refine hK _ ?_
    clear hK K
    simp only [Act.put, List.setIfInBounds_toArray, List.set_cons_zero, List.set_cons_succ]
    refine BigFrame.wpQuiet_want rfl (fun K hK => ?_)
    refine quiet_val' (fun w5 hw5 => er_mul _ _ rfl 2 H ((2 * H : Nat) : Int) rfl rfl M8.out) ?_
    refine hK _ ?_
    clear hK K
    simp only [Act.put, List.setIfInBounds_toArray, List.set_cons_zero, List.set_cons_succ]
    refine BigFrame.wpQuiet_want rfl (fun K hK => ?_)
    refine quiet_val' (fun w5 hw5 => er_bsp _ _ rfl (H) (((2 * H : Nat) : Int)) rfl rfl) ?_
    refine hK _ ?_
    clear hK K
    simp only [Act.put, List.setIfInBounds_toArray, List.set_cons_zero, List.set_cons_succ]
    refine BigFrame.wpQuiet_want rfl (fun K hK => ?_)
    refine quiet_call' (fun w5 => er_c_common _ _ _ rfl (.agg #[.int .i64 a, .int .i64 b]) (.agg #[.int .i64 H, .int .i64 ((2 * H : Nat) : Int)]) rfl rfl) (fun w5 hw5 => (common_any a b H (2 * H) w5 (by omega) (by omega) (by omega) (by omega)).mono (fun e w6 he => ⟨he.1, hw5.trans he.2 (fun _ h => h.elim)⟩)) ?_
    refine hK _ ?_
    clear hK K
    simp only [Act.put, List.setIfInBounds_toArray, List.set_cons_zero, List.set_cons_succ]
    refine BigFrame.wpQuiet_want rfl (fun K hK => ?_)
    refine quiet_val' (fun w5 hw5 => er_mul _ _ rfl ((t - H) / H : Nat) (Rule.com a b H (2 * H)) (z : Int) rfl rfl M11.out) ?_
    refine hK _ ?_
    clear hK K
    simp only [Act.put, List.setIfInBounds_toArray, List.set_cons_zero, List.set_cons_succ]
    refine BigFrame.wpQuiet_want rfl (fun K hK => ?_)
    refine quiet_val' (fun w5 hw5 => er_add _ _ rfl (Rule.com a b 0 H) (z : Int) ((Rule.com a b 0 H + z : Nat) : Int) rfl rfl M12.out) ?_
    refine hK _ ?_
    clear hK K
    simp only [Act.put, List.setIfInBounds_toArray, List.set_cons_zero, List.set_cons_succ]
    refine BigFrame.wpQuiet_want rfl (fun K hK => ?_)
    refine quiet_val' (fun w5 hw5 => er_ldsp _ rfl w.heap.size 0 (.int .i64 a) (.int .i64 b) rfl (hw5.cell B0.out (fun h => h)) (hw5.cell B1.out (fun h => h))) ?_
    refine hK _ ?_
    clear hK K
    simp only [Act.put, List.setIfInBounds_toArray, List.set_cons_zero, List.set_cons_succ]
    refine BigFrame.wpQuiet_want rfl (fun K hK => ?_)
    refine quiet_val' (fun w5 hw5 => er_mv _ rfl (.int .i64 H) rfl) ?_
    refine hK _ ?_
    clear hK K
    simp only [Act.put, List.setIfInBounds_toArray, List.set_cons_zero, List.set_cons_succ]
    refine BigFrame.wpQuiet_want rfl (fun K hK => ?_)
    refine quiet_val' (fun w5 hw5 => er_mv _ rfl (.int .i64 H) rfl) ?_
    refine hK _ ?_
    clear hK K
    simp only [Act.put, List.setIfInBounds_toArray, List.set_cons_zero, List.set_cons_succ]
    refine BigFrame.wpQuiet_want rfl (fun K hK => ?_)
    refine quiet_val' (fun w5 hw5 => er_mv _ rfl (.int .i64 t) rfl) ?_
    refine hK _ ?_
    clear hK K
    simp only [Act.put, List.setIfInBounds_toArray, List.set_cons_zero, List.set_cons_succ]
    refine BigFrame.wpQuiet_want rfl (fun K hK => ?_)
    refine quiet_val' (fun w5 hw5 => er_mv _ rfl (.int .i64 H) rfl) ?_
    refine hK _ ?_
    clear hK K
    simp only [Act.put, List.setIfInBounds_toArray, List.set_cons_zero, List.set_cons_succ]
    refine BigFrame.wpQuiet_want rfl (fun K hK => ?_)
    refine quiet_val' (fun w5 hw5 => er_rem _ _ rfl t H (t % H : Nat) rfl rfl hH1 M18.out) ?_
    refine hK _ ?_
    clear hK K
    simp only [Act.put, List.setIfInBounds_toArray, List.set_cons_zero, List.set_cons_succ]
    refine BigFrame.wpQuiet_want rfl (fun K hK => ?_)
    refine quiet_val' (fun w5 hw5 => er_add _ _ rfl H (t % H : Nat) ((H + t % H : Nat) : Int) rfl rfl M19.out) ?_
    refine hK _ ?_
    clear hK K
    simp only [Act.put, List.setIfInBounds_toArray, List.set_cons_zero, List.set_cons_succ]
    refine BigFrame.wpQuiet_want rfl (fun K hK => ?_)
    refine quiet_val' (fun w5 hw5 => er_bsp _ _ rfl (H) (((H + t % H : Nat) : Int)) rfl rfl) ?_
    refine hK _ ?_
    clear hK K
    simp only [Act.put, List.setIfInBounds_toArray, List.set_cons_zero, List.set_cons_succ]
    refine BigFrame.wpQuiet_want rfl (fun K hK => ?_)
    refine quiet_call' (fun w5 => er_c_common _ _ _ rfl (.agg #[.int .i64 a, .int .i64 b]) (.agg #[.int .i64 H, .int .i64 ((H + t % H : Nat) : Int)]) rfl rfl) (fun w5 hw5 => (common_any a b H (H + t % H) w5 (by omega) (by omega) (by omega) (by omega)).mono (fun e w6 he => ⟨he.1, hw5.trans he.2 (fun _ h => h.elim)⟩)) ?_
    refine hK _ ?_
    clear hK K
    simp only [Act.put, List.setIfInBounds_toArray, List.set_cons_zero, List.set_cons_succ]
    refine BigFrame.wpQuiet_want rfl (fun K hK => ?_)
    refine quiet_val' (fun w5 hw5 => er_add _ _ rfl ((Rule.com a b 0 H + z : Nat) : Int) (Rule.com a b H (H + t % H)) ((Rule.com a b 0 H + z + Rule.com a b H (H + t % H) : Nat) : Int) rfl rfl M22.out) ?_
    refine hK _ ?_
    clear hK K
    simp only [Act.put, List.setIfInBounds_toArray, List.set_cons_zero, List.set_cons_succ]
    refine BigFrame.wpQuiet_want rfl (fun K hK => ?_)
    refine quiet_val' (fun w5 hw5 => er_as _ rfl (.int .i64 ((Rule.com a b 0 H + z + Rule.com a b H (H + t % H) : Nat) : Int)) rfl) ?_
    refine hK _ ?_
    clear hK K
    simp only [Act.put, List.setIfInBounds_toArray, List.set_cons_zero, List.set_cons_succ]
    refine wpQuiet_nil ?_
    intro w8 hw8
    have HK8 : Hid (Kept No w w8) := HKA.out.trans hw8 (fun _ h => h.elim)
    clear hw8
    go_wp2
    go_ret
    exact ⟨rfl, HK8.out⟩
end Go.Proofs.YtibmgpinfdcaoaaGreatDoor
