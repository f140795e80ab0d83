/-
  One text: OTakeP, OTake, OTaken, OTakAll.
-/
import Derived.Test.YtkjnhhoniodbcaaGreatDoorOMath
import Derived.Test.YtkjnhhoniodbcaaGreatDoorOCycle
namespace Go.Proofs.YtkjnhhoniodbcaaGreatDoor
namespace Rule
set_option linter.unusedVariables false

/-- the ticks that two spans have in common -/
def com (a b c d : Nat) : Nat := min b d - max a c
def comes (H t a b : Nat) : Nat := if t ≤ H then com a b 0 t else com a b 0 H + (t - H) / H * com a b H (2 * H) + com a b H (H + t % H)

theorem cnt_const (f : Nat → Nat) (p p' x m : Nat) (h : ∀ u, x ≤ u → u < x + m → f u = p') : cnt f p (x + m) = cnt f p x + (if p' = p then m else 0) := by
  induction m with
  | zero => split <;> rfl
  | succ m ih =>
    have := ih (fun u a b => h u a (by omega))
    show cnt f p (x + m) + (if f (x + m) = p then 1 else 0) = _
    rw [this, h (x + m) (by omega) (by omega)]
    split <;> omega
/-- of the ticks below q, those of p from c on and below d -/
def cin (f : Nat → Nat) (p c d q : Nat) : Nat := cnt f p (max c (min q d)) - cnt f p c
theorem cin_step (f : Nat → Nat) (p p' c d q len : Nat) (hcd : c ≤ d) (h : ∀ u, q ≤ u → u < q + len → f u = p') : cin f p c d (q + len) = cin f p c d q + (if p' = p then com q (q + len) c d else 0) := by
  unfold cin com
  obtain ⟨x, hx⟩ : ∃ x, x = max c (min q d) := ⟨_, rfl⟩
  obtain ⟨y, hy⟩ : ∃ y, y = max c (min (q + len) d) := ⟨_, rfl⟩
  rw [← hx, ← hy]
  have hxy : x ≤ y := by omega
  have hcx : c ≤ x := by omega
  have e : min (q + len) d - max q c = y - x := by omega
  rw [e]
  have hc := cnt_const f p p' x (y - x) (fun u a b => h u (by omega) (by omega))
  rw [show x + (y - x) = y by omega] at hc
  have hm := cnt_mono f p hcx
  rw [hc]
  split <;> omega
/-- of the ticks below q, how often they come below t as p's -/
def acc (f : Nat → Nat) (p H t q : Nat) : Nat := if t ≤ H then cin f p 0 t q else cin f p 0 H q + (t - H) / H * cin f p H (2 * H) q + cin f p H (H + t % H) q
theorem acc_zero (f : Nat → Nat) (p H t : Nat) : acc f p H t 0 = 0 := by
  have z : ∀ c d, c ≤ d → cin f p c d 0 = 0 := fun c d h => by unfold cin; rw [show max c (min 0 d) = c by omega]; omega
  unfold acc
  split
  · exact z _ _ (by omega)
  · rw [z _ _ (by omega), z _ _ (by omega), z _ _ (by omega)]; simp
theorem acc_step (f : Nat → Nat) (p p' H t q len : Nat) (h : ∀ u, q ≤ u → u < q + len → f u = p') : acc f p H t (q + len) = acc f p H t q + (if p' = p then comes H t q (q + len) else 0) := by
  unfold acc comes
  by_cases ht : t ≤ H
  · rw [if_pos ht, if_pos ht, if_pos ht, cin_step f p p' 0 t q len (by omega) h]
  · rw [if_neg ht, if_neg ht, if_neg ht, cin_step f p p' 0 H q len (by omega) h, cin_step f p p' H (2 * H) q len (by omega) h, cin_step f p p' H (H + t % H) q len (by omega) h]
    by_cases e : p' = p
    · simp only [e, if_true]
      rw [Nat.mul_add]
      omega
    · simp only [e, if_false, Nat.add_zero]
/-- all told: how many ticks below t are p's -/
theorem acc_all {f : Nat → Nat} {H : Nat} (hH : 1 ≤ H) (hf : ∀ t, H ≤ t → f (t + H) = f t) (p t m : Nat) (hm : m = 2 * H ∨ (t ≤ m ∧ m ≤ 2 * H)) : acc f p H t m = cnt f p t := by
  unfold acc cin
  by_cases ht : t ≤ H
  · rw [if_pos ht, show max 0 (min m t) = t by omega]
    show cnt f p t - 0 = _
    omega
  · rw [if_neg ht]
    have h0 : cnt f p 0 = 0 := rfl
    have h1 := Nat.div_add_mod (t - H) H
    have h2 := Nat.mod_lt (t - H) (show H > 0 by omega)
    have h3 : t % H = (t - H) % H := by rw [Nat.mod_eq_sub_mod (by omega)]
    rw [show max 0 (min m H) = H by omega, h0]
    have hle := cnt_mono f p (show H ≤ H + H by omega)
    rcases hm with hm | ⟨hm, hm2⟩
    · rw [show max H (min m (2 * H)) = H + H by omega, show max H (min m (H + t % H)) = H + t % H by omega, h3]
      have hle2 := cnt_mono f p (show H ≤ H + (t - H) % H by omega)
      have h4 := cnt_turns hf p ((t - H) % H) ((t - H) / H)
      rw [show H + (t - H) % H + (t - H) / H * H = t by rw [Nat.mul_comm]; omega] at h4
      rw [Nat.mul_sub]
      have h5 := Nat.mul_le_mul_left ((t - H) / H) hle
      omega
    · by_cases e2 : t = 2 * H
      · have hm3 : m = 2 * H := by omega
        rw [show max H (min m (2 * H)) = H + H by omega, show max H (min m (H + t % H)) = H + t % H by omega, h3]
        have hle2 := cnt_mono f p (show H ≤ H + (t - H) % H by omega)
        have h4 := cnt_turns hf p ((t - H) % H) ((t - H) / H)
        rw [show H + (t - H) % H + (t - H) / H * H = t by rw [Nat.mul_comm]; omega] at h4
        rw [Nat.mul_sub]
        have h5 := Nat.mul_le_mul_left ((t - H) / H) hle
        omega
      · have hq : (t - H) / H = 0 := Nat.div_eq_of_lt (by omega)
        have hr : (t - H) % H = t - H := Nat.mod_eq_of_lt (by omega)
        rw [hq, h3, hr, show max H (min m (H + (t - H))) = t by omega]
        have := cnt_mono f p (show H ≤ t by omega)
        omega
theorem comes_le (H t a b : Nat) (hH : 1 ≤ H) (hab : b ≤ 2 * H) : comes H t a b ≤ 3 * t + 3 * H := by
  unfold comes com
  split
  · omega
  · rename_i h
    have h1 : (t - H) / H * (min b (2 * H) - max a H) ≤ (t - H) / H * H := Nat.mul_le_mul_left _ (by omega)
    have h2 := Nat.div_mul_le_self (t - H) H
    have h3 := Nat.mod_lt t (show H > 0 by omega)
    omega
theorem cin_le (f : Nat → Nat) (p c d q : Nat) (h : c ≤ d) : cin f p c d q ≤ d - c := by
  unfold cin
  have := cnt_diff f p (show c ≤ max c (min q d) by omega)
  omega
theorem acc_le (f : Nat → Nat) (p H t q : Nat) (hH : 1 ≤ H) : acc f p H t q ≤ 3 * t + 3 * H := by
  unfold acc
  split
  · have := cin_le f p 0 t q (by omega); omega
  · rename_i h
    have h0 := cin_le f p 0 H q (by omega)
    have h1 : (t - H) / H * cin f p H (2 * H) q ≤ (t - H) / H * H := Nat.mul_le_mul_left _ (by have := cin_le f p H (2 * H) q (by omega); omega)
    have h2 := Nat.div_mul_le_self (t - H) H
    have h3 := cin_le f p H (H + t % H) q (by omega)
    have h4 := Nat.mod_lt t (show H > 0 by omega)
    omega
end Rule
end Go.Proofs.YtkjnhhoniodbcaaGreatDoor

namespace Go.Proofs.YtkjnhhoniodbcaaGreatDoor
open Go.RowKit Go.Shelf Plain
set_option linter.unusedVariables false
set_option maxRecDepth 100000

theorem com_int (a b c d : Nat) : (max 0 (min (b : Int) (d : Int) - max (a : Int) (c : Int))) = (Rule.com a b c d : Int) := by
  unfold Rule.com
  omega
theorem common_any (a b c d : Nat) (w : World) (hb : b ≤ 4611686018427387904) (ha : a ≤ 4611686018427387904) (hc : c ≤ 4611686018427387904) (hd : d ≤ 4611686018427387904) :
    Calls Tryz.prog 59 #[.agg #[.int .i64 a, .int .i64 b], .agg #[.int .i64 c, .int .i64 d]] w fun e w' => e = .returned (.int .i64 (Rule.com a b c d)) ∧ Kept No w w' := by
  have hk : Hid (Kept No w ((w.alloc (.cells #[.int .i64 a, .int .i64 b] 51)).alloc (.cells #[.int .i64 c, .int .i64 d] 51))) := ((Kept.refl No w).alloc _).alloc _
  have hcom : Hid ((max 0 (min (b : Int) (d : Int) - max (a : Int) (c : Int))) = (Rule.com a b c d : Int)) := com_int a b c d
  go_enter Tryz.func59, Tryz.ntmps59
  go_wp2
  go_ret
  exact ⟨by rw [← hcom.out]; rfl, hk.out⟩
section
variable {o : Oper} {ac : Act} {w : World}
theorem er_mul (x y : Operand) (ho : o.op = .binOp .mul 3 x y 3) (k l r : Int) (hx : ac.eval x = .int .i64 k) (hy : ac.eval y = .int .i64 l) (hr : wrap64 (k * l) = r) : (execOp ac.eval o).run Tryz.prog w = .ok (.value (.int .i64 r)) w := by
  subst hr
  simp only [execOp, ho, hx, hy]; simp [go_sem, w64i]
theorem er_rem (x y : Operand) (ho : o.op = .binOp .rem 3 x y 3) (k l : Nat) (r : Int) (hx : ac.eval x = .int .i64 k) (hy : ac.eval y = .int .i64 l) (hl : 1 ≤ l) (hr : Int.tmod k l = r) : (execOp ac.eval o).run Tryz.prog w = .ok (.value (.int .i64 r)) w := by
  subst hr
  have h0 : ¬ (l = 0) := by omega
  simp only [execOp, ho, hx, hy]; simp [go_sem, h0]
theorem er_ldsp (x : Operand) (ho : o.op = .load 51 x) (g off : Nat) (u v : Value) (hx : ac.eval x = .pointer (some ⟨g, off, none⟩)) (hr : w.cell? ⟨g, off, none⟩ = some u) (hs : w.cell? ⟨g, off + 1, none⟩ = some v) : (execOp ac.eval o).run Tryz.prog w = .ok (.value (.agg #[u, v])) w := by
  simp only [execOp, ho, hx]; simp [go_sem, hr, hs]
theorem er_c_common (x0 x1 : Operand) (ts : Array TypeId) (ho : o.op = .call { callee := .value (.func 59), args := #[x0, x1], argTypes := ts }) (v0 v1 : Value) (h0 : ac.eval x0 = v0) (h1 : ac.eval x1 = v1) : (execOp ac.eval o).run Tryz.prog w = .ok (.enter 59 #[v0, v1]) w := by
  subst h0; subst h1
  simp [execOp, ho, go_sem, Act.eval]
end
set_option maxHeartbeats 2000000 in
theorem comesB_any (H t a b : Nat) (w : World) (hH1 : 1 ≤ H) (hH2 : H ≤ 1048576) (ht : t ≤ 1099511627776) (hb : b ≤ 2 * H) (ha : a ≤ b) :
    Calls Tryz.prog 45 #[.agg #[.int .i64 a, .int .i64 b], .int .i64 H, .int .i64 t] w fun e w' => e = .returned (.int .i64 (Rule.comes H t a b)) ∧ Kept No w w' := by
  have HKA : Hid (Kept No w (w.alloc (.cells #[.int .i64 a, .int .i64 b] 51))) := (Kept.refl No w).alloc _
  obtain ⟨B0, B1⟩ := cells2' (World.alloc_heap_new w (.cells #[.int .i64 a, .int .i64 b] 51))
  unfold Rule.comes
  by_cases hle : t ≤ H
  · rw [if_pos hle]
    have hc := fun W => common_any a b 0 t W (by omega) (by omega) (by omega) (by omega)
    clear hH1 hH2 ht hb ha
    go_enter Tryz.func45, Tryz.ntmps45
    go_wp2_with (go_at_call 59; refine (hc _).mono ?_; rintro e w2 ⟨rfl, hk2⟩; have HK2 : Hid (Kept No w w2) := HKA.out.trans hk2 (fun _ h => h.elim); clear hk2)
    go_ret
    exact ⟨rfl, HK2.out⟩
  · rw [if_neg hle]
    have hq1 : (t - H) / H ≤ 1099511627776 := Nat.le_trans (Nat.div_le_self _ _) (by omega)
    have hm1 := Nat.mod_lt t (show H > 0 by omega)
    have hcb : Rule.com a b H (2 * H) ≤ H := by unfold Rule.com; omega
    have hprod : (t - H) / H * Rule.com a b H (2 * H) ≤ 1099511627776 := by
      have h1 := Nat.mul_le_mul_left ((t - H) / H) hcb
      have h2 := Nat.div_mul_le_self (t - H) H
      omega
    have hc0 : Rule.com a b 0 H ≤ H := by unfold Rule.com; omega
    have hc3 : Rule.com a b H (H + t % H) ≤ 2 * H := by unfold Rule.com; omega
    have M8 : Hid (wrap64 (2 * (H : Int)) = ((2 * H : Nat) : Int)) := by show wrap64 (2 * (H : Int)) = ((2 * H : Nat) : Int); unfold wrap64; omega
    have M11 : Hid (wrap64 (((t - H) / H : Nat) * (Rule.com a b H (2 * H) : Int)) = (((t - H) / H * Rule.com a b H (2 * H) : Nat) : Int)) := by
      show wrap64 (((t - H) / H : Nat) * (Rule.com a b H (2 * H) : Int)) = _
      rw [← Int.natCast_mul]
      generalize (t - H) / H * Rule.com a b H (2 * H) = z at *
      unfold wrap64; omega
    generalize hzz : (t - H) / H * Rule.com a b H (2 * H) = z at *
    have M12 : Hid (wrap64 ((Rule.com a b 0 H : Int) + (z : Int)) = ((Rule.com a b 0 H + z : Nat) : Int)) := by show wrap64 _ = _; unfold wrap64; omega
    have M18 : Hid (Int.tmod (t : Int) (H : Int) = ((t % H : Nat) : Int)) := (Int.ofNat_tmod t H).symm
    have M19 : Hid (wrap64 ((H : Int) + (t % H : Nat)) = ((H + t % H : Nat) : Int)) := by show wrap64 ((H : Int) + (t % H : Nat)) = ((H + t % H : Nat) : Int); unfold wrap64; omega
    have M22 : Hid (wrap64 (((Rule.com a b 0 H + z : Nat) : Int) + (Rule.com a b H (H + t % H) : Int)) = ((Rule.com a b 0 H + z + Rule.com a b H (H + t % H) : Nat) : Int)) := by show wrap64 _ = _; unfold wrap64; omega
    have B0 : Hid ((w.alloc (.cells #[.int .i64 a, .int .i64 b] 51)).cell? ⟨w.heap.size, 0, none⟩ = some (.int .i64 a)) := B0
    have B1 : Hid ((w.alloc (.cells #[.int .i64 a, .int .i64 b] 51)).cell? ⟨w.heap.size, 0 + 1, none⟩ = some (.int .i64 b)) := B1
    have HZZ : Hid ((t - H) / H * Rule.com a b H (2 * H) = z) := hzz
    clear hzz
    have hlt : (H : Int) < t := by omega
    go_enter Tryz.func45, Tryz.ntmps45
    go_upto_region 4 with fail
    have e7 : ((t : Int) - H) / H = (((t - H) / H : Nat) : Int) := by rw [Int.natCast_ediv]; congr 1; omega
    simp only [e7]
    clear e7
    generalize w.alloc (.cells #[.int .i64 a, .int .i64 b] 51) = w1 at *
    refine wp_region_kept w1 (by kernel_rfl) (by kernel_rfl) (Kept.refl No w1) ?_
    refine BigFrame.wpQuiet_want rfl (fun K hK => ?_)
    refine quiet_val' (fun w5 hw5 => er_ldsp _ rfl w.heap.size 0 (.int .i64 a) (.int .i64 b) rfl (hw5.cell B0.out (fun h => h)) (hw5.cell B1.out (fun h => h))) ?_
    refine hK _ ?_
    clear hK K
    simp only [Act.put, List.setIfInBounds_toArray, List.set_cons_zero, List.set_cons_succ]
    refine BigFrame.wpQuiet_want rfl (fun K hK => ?_)
    refine quiet_val' (fun w5 hw5 => er_mv _ rfl (.int .i64 H) rfl) ?_
    refine hK _ ?_
    clear hK K
    simp only [Act.put, List.setIfInBounds_toArray, List.set_cons_zero, List.set_cons_succ]
    refine BigFrame.wpQuiet_want rfl (fun K hK => ?_)
    refine quiet_val' (fun w5 hw5 => er_bsp _ _ rfl 0 (H) rfl rfl) ?_
    refine hK _ ?_
    clear hK K
    simp only [Act.put, List.setIfInBounds_toArray, List.set_cons_zero, List.set_cons_succ]
    refine BigFrame.wpQuiet_want rfl (fun K hK => ?_)
    refine quiet_call' (fun w5 => er_c_common _ _ _ rfl (.agg #[.int .i64 a, .int .i64 b]) (.agg #[.int .i64 0, .int .i64 H]) rfl rfl) (fun w5 hw5 => (common_any a b 0 H w5 (by omega) (by omega) (by omega) (by omega)).mono (fun e w6 he => ⟨he.1, hw5.trans he.2 (fun _ h => h.elim)⟩)) ?_
    refine hK _ ?_
    clear hK K
    simp only [Act.put, List.setIfInBounds_toArray, List.set_cons_zero, List.set_cons_succ]
    refine BigFrame.wpQuiet_want rfl (fun K hK => ?_)
    refine quiet_val' (fun w5 hw5 => er_mv _ rfl (.int .i64 ((t - H) / H : Nat)) rfl) ?_
    refine hK _ ?_
    clear hK K
    simp only [Act.put, List.setIfInBounds_toArray, List.set_cons_zero, List.set_cons_succ]
    refine BigFrame.wpQuiet_want rfl (fun K hK => ?_)
    refine quiet_val' (fun w5 hw5 => er_ldsp _ rfl w.heap.size 0 (.int .i64 a) (.int .i64 b) rfl (hw5.cell B0.out (fun h => h)) (hw5.cell B1.out (fun h => h))) ?_
    refine hK _ ?_
    clear hK K
    simp only [Act.put, List.setIfInBounds_toArray, List.set_cons_zero, List.set_cons_succ]
    refine BigFrame.wpQuiet_want rfl (fun K hK => ?_)
    refine quiet_val' (fun w5 hw5 => er_mv _ rfl (.int .i64 H) rfl) ?_
    refine hK _ ?_
    clear hK K
    simp only [Act.put, List.setIfInBounds_toArray, List.set_cons_zero, List.set_cons_succ]
    refine BigFrame.wpQuiet_want rfl (fun K hK => ?_)
    refine quiet_val' (fun w5 hw5 => er_mv _ rfl (.int .i64 H) rfl) ?_
    refine hK _ ?_
    clear hK K
    simp only [Act.put, List.setIfInBounds_toArray, List.set_cons_zero, List.set_cons_succ]
    refine BigFrame.wpQuiet_want rfl (fun K hK => ?_)
    refine quiet_val' (fun w5 hw5 => er_mul _ _ rfl 2 H ((2 * H : Nat) : Int) rfl rfl M8.out) ?_
    refine hK _ ?_
    clear hK K
    simp only [Act.put, List.setIfInBounds_toArray, List.set_cons_zero, List.set_cons_succ]
    refine BigFrame.wpQuiet_want rfl (fun K hK => ?_)
    refine quiet_val' (fun w5 hw5 => er_bsp _ _ rfl (H) (((2 * H : Nat) : Int)) rfl rfl) ?_
    refine hK _ ?_
    clear hK K
    simp only [Act.put, List.setIfInBounds_toArray, List.set_cons_zero, List.set_cons_succ]
    refine BigFrame.wpQuiet_want rfl (fun K hK => ?_)
    refine quiet_call' (fun w5 => er_c_common _ _ _ rfl (.agg #[.int .i64 a, .int .i64 b]) (.agg #[.int .i64 H, .int .i64 ((2 * H : Nat) : Int)]) rfl rfl) (fun w5 hw5 => (common_any a b H (2 * H) w5 (by omega) (by omega) (by omega) (by omega)).mono (fun e w6 he => ⟨he.1, hw5.trans he.2 (fun _ h => h.elim)⟩)) ?_
    refine hK _ ?_
    clear hK K
    simp only [Act.put, List.setIfInBounds_toArray, List.set_cons_zero, List.set_cons_succ]
    refine BigFrame.wpQuiet_want rfl (fun K hK => ?_)
    refine quiet_val' (fun w5 hw5 => er_mul _ _ rfl ((t - H) / H : Nat) (Rule.com a b H (2 * H)) (z : Int) rfl rfl M11.out) ?_
    refine hK _ ?_
    clear hK K
    simp only [Act.put, List.setIfInBounds_toArray, List.set_cons_zero, List.set_cons_succ]
    refine BigFrame.wpQuiet_want rfl (fun K hK => ?_)
    refine quiet_val' (fun w5 hw5 => er_add _ _ rfl (Rule.com a b 0 H) (z : Int) ((Rule.com a b 0 H + z : Nat) : Int) rfl rfl M12.out) ?_
    refine hK _ ?_
    clear hK K
    simp only [Act.put, List.setIfInBounds_toArray, List.set_cons_zero, List.set_cons_succ]
    refine BigFrame.wpQuiet_want rfl (fun K hK => ?_)
    refine quiet_val' (fun w5 hw5 => er_ldsp _ rfl w.heap.size 0 (.int .i64 a) (.int .i64 b) rfl (hw5.cell B0.out (fun h => h)) (hw5.cell B1.out (fun h => h))) ?_
    refine hK _ ?_
    clear hK K
    simp only [Act.put, List.setIfInBounds_toArray, List.set_cons_zero, List.set_cons_succ]
    refine BigFrame.wpQuiet_want rfl (fun K hK => ?_)
    refine quiet_val' (fun w5 hw5 => er_mv _ rfl (.int .i64 H) rfl) ?_
    refine hK _ ?_
    clear hK K
    simp only [Act.put, List.setIfInBounds_toArray, List.set_cons_zero, List.set_cons_succ]
    refine BigFrame.wpQuiet_want rfl (fun K hK => ?_)
    refine quiet_val' (fun w5 hw5 => er_mv _ rfl (.int .i64 H) rfl) ?_
    refine hK _ ?_
    clear hK K
    simp only [Act.put, List.setIfInBounds_toArray, List.set_cons_zero, List.set_cons_succ]
    refine BigFrame.wpQuiet_want rfl (fun K hK => ?_)
    refine quiet_val' (fun w5 hw5 => er_mv _ rfl (.int .i64 t) rfl) ?_
    refine hK _ ?_
    clear hK K
    simp only [Act.put, List.setIfInBounds_toArray, List.set_cons_zero, List.set_cons_succ]
    refine BigFrame.wpQuiet_want rfl (fun K hK => ?_)
    refine quiet_val' (fun w5 hw5 => er_mv _ rfl (.int .i64 H) rfl) ?_
    refine hK _ ?_
    clear hK K
    simp only [Act.put, List.setIfInBounds_toArray, List.set_cons_zero, List.set_cons_succ]
    refine BigFrame.wpQuiet_want rfl (fun K hK => ?_)
    refine quiet_val' (fun w5 hw5 => er_rem _ _ rfl t H (t % H : Nat) rfl rfl hH1 M18.out) ?_
    refine hK _ ?_
    clear hK K
    simp only [Act.put, List.setIfInBounds_toArray, List.set_cons_zero, List.set_cons_succ]
    refine BigFrame.wpQuiet_want rfl (fun K hK => ?_)
    refine quiet_val' (fun w5 hw5 => er_add _ _ rfl H (t % H : Nat) ((H + t % H : Nat) : Int) rfl rfl M19.out) ?_
    refine hK _ ?_
    clear hK K
    simp only [Act.put, List.setIfInBounds_toArray, List.set_cons_zero, List.set_cons_succ]
    refine BigFrame.wpQuiet_want rfl (fun K hK => ?_)
    refine quiet_val' (fun w5 hw5 => er_bsp _ _ rfl (H) (((H + t % H : Nat) : Int)) rfl rfl) ?_
    refine hK _ ?_
    clear hK K
    simp only [Act.put, List.setIfInBounds_toArray, List.set_cons_zero, List.set_cons_succ]
    refine BigFrame.wpQuiet_want rfl (fun K hK => ?_)
    refine quiet_call' (fun w5 => er_c_common _ _ _ rfl (.agg #[.int .i64 a, .int .i64 b]) (.agg #[.int .i64 H, .int .i64 ((H + t % H : Nat) : Int)]) rfl rfl) (fun w5 hw5 => (common_any a b H (H + t % H) w5 (by omega) (by omega) (by omega) (by omega)).mono (fun e w6 he => ⟨he.1, hw5.trans he.2 (fun _ h => h.elim)⟩)) ?_
    refine hK _ ?_
    clear hK K
    simp only [Act.put, List.setIfInBounds_toArray, List.set_cons_zero, List.set_cons_succ]
    refine BigFrame.wpQuiet_want rfl (fun K hK => ?_)
    refine quiet_val' (fun w5 hw5 => er_add _ _ rfl ((Rule.com a b 0 H + z : Nat) : Int) (Rule.com a b H (H + t % H)) ((Rule.com a b 0 H + z + Rule.com a b H (H + t % H) : Nat) : Int) rfl rfl M22.out) ?_
    refine hK _ ?_
    clear hK K
    simp only [Act.put, List.setIfInBounds_toArray, List.set_cons_zero, List.set_cons_succ]
    refine BigFrame.wpQuiet_want rfl (fun K hK => ?_)
    refine quiet_val' (fun w5 hw5 => er_as _ rfl (.int .i64 ((Rule.com a b 0 H + z + Rule.com a b H (H + t % H) : Nat) : Int)) rfl) ?_
    refine hK _ ?_
    clear hK K
    simp only [Act.put, List.setIfInBounds_toArray, List.set_cons_zero, List.set_cons_succ]
    refine wpQuiet_nil ?_
    intro w8 hw8
    have HK8 : Hid (Kept No w w8) := HKA.out.trans hw8 (fun _ h => h.elim)
    clear hw8
    go_wp2
    go_ret
    exact ⟨rfl, HK8.out⟩
end Go.Proofs.YtkjnhhoniodbcaaGreatDoor

namespace Go.Proofs.YtkjnhhoniodbcaaGreatDoor
open Go.RowKit Go.Shelf Plain
set_option linter.unusedVariables false
set_option maxRecDepth 100000

/-- the boxes and rows of taken -/
structure TkB (W : World) (n H bS gS cS bC gC cC bH : Nat) (sf sb : Nat → Nat) (cv : Nat → Int) : Prop where
  b1 : W.heap[bS]? = some (.cells #[.slice (some ⟨gS, 0, none⟩) n cS] 60)
  b2 : W.heap[bC]? = some (.cells #[.slice (some ⟨gC, 0, none⟩) n cC] 55)
  b3 : W.heap[bH]? = some (.cells #[.int .i64 H] 3)
  s : ∀ i, i < n → W.cell? ⟨gS, i * 2, none⟩ = some (.int .i64 (sf i)) ∧ W.cell? ⟨gS, i * 2 + 1, none⟩ = some (.int .i64 (sb i))
  c : ∀ i, i < n → W.cell? ⟨gC, i, none⟩ = some (.int .i64 (cv i))
  f : ∀ i, W.frozen? ⟨gC, i, none⟩ = false
  l1 : gS < W.heap.size
  l2 : gC < W.heap.size
def Five (bS gS bC gC bH : Nat) : Nat → Prop := fun k => k = bS ∨ k = gS ∨ k = bC ∨ k = gC ∨ k = bH
theorem TkB.same {W W' : World} {n H bS gS cS bC gC cC bH : Nat} {sf sb : Nat → Nat} {cv : Nat → Int} (h : TkB W n H bS gS cS bC gC cC bH sf sb cv) (hs : W.heap.size ≤ W'.heap.size) (hk : ∀ k, Five bS gS bC gC bH k → W'.heap[k]? = W.heap[k]?) : TkB W' n H bS gS cS bC gC cC bH sf sb cv := by
  have e1 : ∀ i, W'.cell? ⟨gS, i, none⟩ = W.cell? ⟨gS, i, none⟩ := fun i => World.cell?_of_block (hk gS (.inr (.inl rfl)))
  have e2 : ∀ i, W'.cell? ⟨gC, i, none⟩ = W.cell? ⟨gC, i, none⟩ := fun i => World.cell?_of_block (hk gC (.inr (.inr (.inr (.inl rfl)))))
  refine ⟨(hk _ (.inl rfl)).trans h.b1, (hk _ (.inr (.inr (.inl rfl)))).trans h.b2, (hk _ (.inr (.inr (.inr (.inr rfl))))).trans h.b3, fun i hi => by rw [e1, e1]; exact h.s i hi, fun i hi => by rw [e2]; exact h.c i hi, fun i => ?_, by have := h.l1; omega, by have := h.l2; omega⟩
  have := h.f i
  simp only [World.frozen?] at this ⊢
  rw [hk gC (.inr (.inr (.inr (.inl rfl))))]
  exact this
theorem TkB.keep {W W' : World} {n H bS gS cS bC gC cC bH : Nat} {sf sb : Nat → Nat} {cv : Nat → Int} (h : TkB W n H bS gS cS bC gC cC bH sf sb cv) (hk : Kept No W W') : TkB W' n H bS gS cS bC gC cC bH sf sb cv :=
  h.same hk.size (fun k h5 => hk.block k (by
    rcases h5 with e | e | e | e | e <;> subst e
    · exact heap_lt h.b1
    · exact h.l1
    · exact heap_lt h.b2
    · exact h.l2
    · exact heap_lt h.b3) (fun h => h))
def cvF (f : Nat → Nat) (H : Nat) (sf sb : Nat → Nat) (q : Nat) (i : Nat) : Int := (Rule.acc f (i + 1) H (sb i) q : Int) - (Rule.acc f (i + 1) H (sf i) q : Int)
def Tk (f : Nat → Nat) (n H bS gS cS bC gC cC bH : Nat) (sf sb : Nat → Nat) : St := fun q W S => S = Five bS gS bC gC bH ∧ TkB W n H bS gS cS bC gC cC bH sf sb (cvF f H sf sb q)
theorem Tk.hangs (f : Nat → Nat) (n H bS gS cS bC gC cC bH : Nat) (sf sb : Nat → Nat) : Hangs (Tk f n H bS gS cS bC gC cC bH sf sb) := by
  refine ⟨?_, ?_⟩
  · rintro q W S ⟨rfl, h⟩ k (e | e | e | e | e) <;> subst e
    · exact heap_lt h.b1
    · exact h.l1
    · exact heap_lt h.b2
    · exact h.l2
    · exact heap_lt h.b3
  · rintro q W W' S ⟨rfl, h⟩ hs hk
    exact ⟨rfl, h.same hs hk⟩
theorem TkB.set {W : World} {n H bS gS cS bC gC cC bH : Nat} {sf sb : Nat → Nat} {cv cv' : Nat → Int} (h : TkB W n H bS gS cS bC gC cC bH sf sb cv) {i : Nat} (hi : i < n) (h1 : gC ≠ bS) (h2 : gC ≠ gS) (h3 : gC ≠ bC) (h4 : gC ≠ bH) (hc : ∀ j, j < n → cv' j = if j = i then cv' i else cv j) :
    TkB (W.setCell ⟨gC, i, none⟩ (.int .i64 (cv' i))) n H bS gS cS bC gC cC bH sf sb cv' := by
  have e1 : ∀ k, k ≠ gC → (W.setCell ⟨gC, i, none⟩ (.int .i64 (cv' i))).heap[k]? = W.heap[k]? := fun k hk => Below.heap_setCell _ _ _ _ hk
  have e2 : ∀ j, (W.setCell ⟨gC, i, none⟩ (.int .i64 (cv' i))).cell? ⟨gS, j, none⟩ = W.cell? ⟨gS, j, none⟩ := fun j => World.cell?_of_block (e1 gS (Ne.symm h2))
  refine ⟨(e1 _ (Ne.symm h1)).trans h.b1, (e1 _ (Ne.symm h3)).trans h.b2, (e1 _ (Ne.symm h4)).trans h.b3, fun j hj => by rw [e2, e2]; exact h.s j hj, fun j hj => ?_, fun j => by rw [World.frozen?_setCell]; exact h.f j, by simpa [World.setCell] using h.l1, by simpa [World.setCell] using h.l2⟩
  rw [cell_set (h.c j hj), hc j hj]
  by_cases e : j = i
  · subst e; rw [if_pos rfl, if_pos rfl]
  · rw [if_neg e, if_neg e]

theorem tbox1 {w1 : World} {o1 o2 : Obj} : ∃ B8 B9, Value.pointer (some ⟨w1.heap.size, 0, none⟩) = .pointer (some ⟨B8, 0, none⟩) ∧ Value.pointer (some ⟨w1.heap.size + 1, 0, none⟩) = .pointer (some ⟨B9, 0, none⟩) ∧ (((w1.alloc o1).alloc o2).drew).heap[B8]? = some o1 ∧ (((w1.alloc o1).alloc o2).drew).heap[B9]? = some o2 ∧ Kept No w1 (((w1.alloc o1).alloc o2).drew) ∧ w1.heap.size ≤ B8 ∧ w1.heap.size ≤ B9 := by
  obtain ⟨e1, e2⟩ := heap_alloc2 (w := w1) (o1 := o1) (o2 := o2)
  exact ⟨_, _, rfl, rfl, e1, e2, (((Kept.refl No w1).alloc _).alloc _).drew, by omega, by omega⟩
theorem tbox2 {w1 : World} {o1 o2 : Obj} : ∃ B8 B9, Value.pointer (some ⟨w1.heap.size + 1, 0, none⟩) = .pointer (some ⟨B8, 0, none⟩) ∧ Value.pointer (some ⟨w1.heap.size, 0, none⟩) = .pointer (some ⟨B9, 0, none⟩) ∧ (((w1.alloc o2).alloc o1).drew).heap[B8]? = some o1 ∧ (((w1.alloc o2).alloc o1).drew).heap[B9]? = some o2 ∧ Kept No w1 (((w1.alloc o2).alloc o1).drew) ∧ w1.heap.size ≤ B8 ∧ w1.heap.size ≤ B9 := by
  obtain ⟨e1, e2⟩ := heap_alloc2 (w := w1) (o1 := o2) (o2 := o1)
  exact ⟨_, _, rfl, rfl, e2, e1, (((Kept.refl No w1).alloc _).alloc _).drew, by omega, by omega⟩
theorem frozen_keep {w w' : World} {g i : Nat} {v : Value} (h : Kept No w w') (hc : w.cell? ⟨g, i, none⟩ = some v) (hf : w.frozen? ⟨g, i, none⟩ = false) : w'.frozen? ⟨g, i, none⟩ = false := by
  have e := h.block g (cell_lt hc) (fun h => h)
  simp only [World.frozen?] at hf ⊢
  rw [e]; exact hf

section
variable {P : Program} {md : Region.Mode} {ops : Array Oper} {Q : Exit → Act → World → Prop} {S : World → Prop} {fuel : Nat} {listed : Array Bool} {a : Act} {w : World} {i : Nat}
theorem st_read (k : Nat) {oi : Oper} {v : Value} (hd : oi.dst = some k) (hw : Region.wanted oi (yielded ops a.tmps) = true) (hrun : (execOp a.eval oi).run P w = .ok (.value v) w) (hS : S w) (h : wpAnyH P md ops Q S fuel (listed.setIfInBounds i true) (a.put (some k) v) w) :
    ∀ K' : Act → World → Prop, Shut (∀ a w, S w → (S w → wpAnyH P md ops Q S fuel (listed.setIfInBounds i true) a w) → K' a w) → if Region.wanted oi (yielded ops a.tmps) = true then Oper.wp P oi a w K' Q else K' (a.put oi.dst undef) w := fun K hK => by
  rw [if_pos hw]
  unfold Oper.wp
  rw [hrun]
  exact hK.out _ _ hS (fun _ => by rw [hd]; exact h)
theorem st_call (T : World → Prop) (k : Nat) {oi : Oper} {f : FuncId} {args : Array Value} {v : Value} (hd : oi.dst = some k) (hw : Region.wanted oi (yielded ops a.tmps) = true) (hrun : (execOp a.eval oi).run P w = .ok (.enter f args) w) (hc : Calls P f args w fun e w'' => e = .returned v ∧ S w'' ∧ T w'') (h : ∀ w'', S w'' → T w'' → wpAnyH P md ops Q S fuel (listed.setIfInBounds i true) (a.put (some k) v) w'') :
    ∀ K' : Act → World → Prop, Shut (∀ a w, S w → (S w → wpAnyH P md ops Q S fuel (listed.setIfInBounds i true) a w) → K' a w) → if Region.wanted oi (yielded ops a.tmps) = true then Oper.wp P oi a w K' Q else K' (a.put oi.dst undef) w := fun K hK => by
  rw [if_pos hw]
  unfold Oper.wp
  rw [hrun]
  refine hc.mono ?_
  rintro e w'' ⟨rfl, hS, hT⟩
  exact hK.out _ _ hS (fun _ => by rw [hd]; exact h w'' hS hT)
end
section
variable {o : Oper} {ac : Act} {w : World}
theorem er_ldis (x : Operand) (ho : o.op = .load 55 x) (g off : Nat) (v : Value) (hx : ac.eval x = .pointer (some ⟨g, off, none⟩)) (hr : w.cell? ⟨g, off, none⟩ = some v) : (execOp ac.eval o).run Tryz.prog w = .ok (.value v) w := by
  simp only [execOp, ho, hx]; simp [go_sem, hr]
theorem er_idxi (x y : Operand) (ho : o.op = .indexAddr 55 x y) (b off n c d : Nat) (hd : d < n) (hn : n ≤ 9223372036854775807) (hx : ac.eval x = .slice (some ⟨b, off, none⟩) n c) (hy : ac.eval y = .int .i64 d) : (execOp ac.eval o).run Tryz.prog w = .ok (.value (.pointer (some ⟨b, off + d, none⟩))) w := by
  simp only [execOp, ho, hx, hy]
  simp [go_sem, add_none]
  omega
theorem er_c_comesBelow (x0 x1 x2 : Operand) (ts : Array TypeId) (ho : o.op = .call { callee := .value (.func 45), args := #[x0, x1, x2], argTypes := ts }) (v0 v1 v2 : Value) (h0 : ac.eval x0 = v0) (h1 : ac.eval x1 = v1) (h2 : ac.eval x2 = v2) : (execOp ac.eval o).run Tryz.prog w = .ok (.enter 45 #[v0, v1, v2]) w := by
  subst h0; subst h1; subst h2
  simp [execOp, ho, go_sem, Act.eval]
end
theorem skeep {w w' : World} {b0 b1 b2 b3 b4 b5 b6 o0 o1 o2 o3 o4 o5 o6 : Nat} {v0 v1 v2 v3 v4 v5 v6 : Value} (h : w.cell? ⟨b0, o0, none⟩ = some v0 ∧ w.cell? ⟨b1, o1, none⟩ = some v1 ∧ w.cell? ⟨b2, o2, none⟩ = some v2 ∧ w.cell? ⟨b3, o3, none⟩ = some v3 ∧ w.cell? ⟨b4, o4, none⟩ = some v4 ∧ w.cell? ⟨b5, o5, none⟩ = some v5 ∧ w.cell? ⟨b6, o6, none⟩ = some v6) (hk : Kept No w w') :
    w'.cell? ⟨b0, o0, none⟩ = some v0 ∧ w'.cell? ⟨b1, o1, none⟩ = some v1 ∧ w'.cell? ⟨b2, o2, none⟩ = some v2 ∧ w'.cell? ⟨b3, o3, none⟩ = some v3 ∧ w'.cell? ⟨b4, o4, none⟩ = some v4 ∧ w'.cell? ⟨b5, o5, none⟩ = some v5 ∧ w'.cell? ⟨b6, o6, none⟩ = some v6 :=
  ⟨hk.cell h.1 (fun h => h), hk.cell h.2.1 (fun h => h), hk.cell h.2.2.1 (fun h => h), hk.cell h.2.2.2.1 (fun h => h), hk.cell h.2.2.2.2.1 (fun h => h), hk.cell h.2.2.2.2.2.1 (fun h => h), hk.cell h.2.2.2.2.2.2 (fun h => h)⟩
theorem sset {w : World} {g j b0 b1 b2 b4 b6 o0 o1 o2 o3 o4 o5 o6 : Nat} {v v0 v1 v2 v3 v4 v5 v6 : Value} (h : w.cell? ⟨b0, o0, none⟩ = some v0 ∧ w.cell? ⟨b1, o1, none⟩ = some v1 ∧ w.cell? ⟨b2, o2, none⟩ = some v2 ∧ w.cell? ⟨b2, o3, none⟩ = some v3 ∧ w.cell? ⟨b4, o4, none⟩ = some v4 ∧ w.cell? ⟨b4, o5, none⟩ = some v5 ∧ w.cell? ⟨b6, o6, none⟩ = some v6) (n1 : g ≠ b1) (n2 : g ≠ b2) (n4 : g ≠ b4) (n0 : g ≠ b0) (n6 : g ≠ b6) :
    (w.setCell ⟨g, j, none⟩ v).cell? ⟨b0, o0, none⟩ = some v0 ∧ (w.setCell ⟨g, j, none⟩ v).cell? ⟨b1, o1, none⟩ = some v1 ∧ (w.setCell ⟨g, j, none⟩ v).cell? ⟨b2, o2, none⟩ = some v2 ∧ (w.setCell ⟨g, j, none⟩ v).cell? ⟨b2, o3, none⟩ = some v3 ∧ (w.setCell ⟨g, j, none⟩ v).cell? ⟨b4, o4, none⟩ = some v4 ∧ (w.setCell ⟨g, j, none⟩ v).cell? ⟨b4, o5, none⟩ = some v5 ∧ (w.setCell ⟨g, j, none⟩ v).cell? ⟨b6, o6, none⟩ = some v6 := by
  refine ⟨?_, ?_, ?_, ?_, ?_, ?_, ?_⟩
  · rw [World.cell?_setCell_far _ _ _ _ n0]; exact h.1
  · rw [World.cell?_setCell_far _ _ _ _ n1]; exact h.2.1
  · rw [World.cell?_setCell_far _ _ _ _ n2]; exact h.2.2.1
  · rw [World.cell?_setCell_far _ _ _ _ n2]; exact h.2.2.2.1
  · rw [World.cell?_setCell_far _ _ _ _ n4]; exact h.2.2.2.2.1
  · rw [World.cell?_setCell_far _ _ _ _ n4]; exact h.2.2.2.2.2.1
  · rw [World.cell?_setCell_far _ _ _ _ n6]; exact h.2.2.2.2.2.2

set_option maxHeartbeats 8000000 in
theorem taken1_does {f : Nat → Nat} {n H bS gS cS bC gC cC bH b : Nat} {sf sb : Nat → Nat} (hfn : ∀ u, f u ≤ n) (hn : n ≤ 32) (hH1 : 1 ≤ H) (hH2 : H ≤ 1048576) (hb : b ≤ 2 * H) (hs : ∀ i, i < n → sf i ≤ 1099511627776 ∧ sb i ≤ 1099511627776) (h1 : gC ≠ bS) (h2 : gC ≠ gS) (h3 : gC ≠ bC) (h4 : gC ≠ bH) :
    Does Tryz.prog 44 #[.pointer (some ⟨bS, 0, none⟩), .pointer (some ⟨bC, 0, none⟩), .pointer (some ⟨bH, 0, none⟩)] f b (Tk f n H bS gS cS bC gC cC bH sf sb) (fun _ _ _ => False) := by
  intro q len W S hI hl1 hl2 hl3
  obtain ⟨rfl, hI⟩ := hI
  by_cases hp : f q = 0
  · have HF : Hid (Took (Tk f n H bS gS cS bC gC cC bH sf sb) (fun _ _ _ => False) (q + len) W (Five bS gS bC gC bH) (.returned (.bool true)) (W.alloc (.cells #[.int .i64 len, .int .i64 0] 39))) := by
      have hk : Kept No W (W.alloc (.cells #[.int .i64 len, .int .i64 0] 39)) := (Kept.refl No W).alloc _
      refine ⟨Five bS gS bC gC bH, hk.mono (fun _ h => h.elim), More.refl _ _, .inl ⟨rfl, rfl, ?_⟩⟩
      have e : cvF f H sf sb (q + len) = cvF f H sf sb q := by
        funext i
        unfold cvF
        rw [Rule.acc_step f (i + 1) (f q) H (sb i) q len hl3, Rule.acc_step f (i + 1) (f q) H (sf i) q len hl3, if_neg (by omega), if_neg (by omega)]
        rfl
      rw [e]
      exact hI.keep hk
    rw [hp]
    unfold sv
    clear hI hl3 hp
    go_enter Tryz.func44, Tryz.ntmps44
    go_wp2
    go_ret
    exact HF.out
  · obtain ⟨i, hi⟩ : ∃ i, f q = i + 1 := ⟨f q - 1, by omega⟩
    have hin : i < n := by have := hfn q; omega
    have hc1 := fun W => comesB_any H (sb i) q (q + len) W hH1 hH2 (hs i hin).2 (by omega) (by omega)
    have hc2 := fun W => comesB_any H (sf i) q (q + len) W hH1 hH2 (hs i hin).1 (by omega) (by omega)
    have m1 := Rule.comes_le H (sb i) q (q + len) hH1 (by omega)
    have m2 := Rule.comes_le H (sf i) q (q + len) hH1 (by omega)
    have hsi := hs i hin
    have HI : Hid (TkB W n H bS gS cS bC gC cC bH sf sb (cvF f H sf sb q)) := hI
    have HCV : Hid (∀ j, j < n → cvF f H sf sb (q + len) j = if j = i then cvF f H sf sb (q + len) i else cvF f H sf sb q j) := fun j hj => by
      by_cases e : j = i
      · subst e; rw [if_pos rfl]
      · rw [if_neg e]
        unfold cvF
        rw [Rule.acc_step f (j + 1) (f q) H (sb j) q len hl3, Rule.acc_step f (j + 1) (f q) H (sf j) q len hl3, if_neg (by omega), if_neg (by omega)]
        rfl
    have HCI : Hid (cvF f H sf sb (q + len) i = cvF f H sf sb q i + ((Rule.comes H (sb i) q (q + len) : Int) - (Rule.comes H (sf i) q (q + len) : Int))) := by
      show cvF f H sf sb (q + len) i = _
      unfold cvF
      rw [Rule.acc_step f (i + 1) (f q) H (sb i) q len hl3, Rule.acc_step f (i + 1) (f q) H (sf i) q len hl3, if_pos hi, if_pos hi]
      omega
    have hcv : -8796093022208 ≤ cvF f H sf sb q i ∧ cvF f H sf sb q i ≤ 8796093022208 := by
      have a1 := Rule.acc_le f (i + 1) H (sb i) q hH1
      have a2 := Rule.acc_le f (i + 1) H (sf i) q hH1
      unfold cvF
      omega
    obtain ⟨cv1, cv2⟩ := hcv
    generalize hz0 : cvF f H sf sb q i = z0 at *
    generalize Rule.comes H (sb i) q (q + len) = k1 at *
    generalize Rule.comes H (sf i) q (q + len) = k2 at *
    have HZ0 : Hid (cvF f H sf sb q i = z0) := hz0
    have ei : ((i + 1 : Nat) : Int) = (i : Int) + 1 := by omega
    have eq' : ((q + len : Nat) : Int) = (q : Int) + len := by omega
    rw [hi, ei]
    rw [eq'] at hc1 hc2
    clear ei eq'
    unfold sv
    have HK1 : Hid (Kept No W (W.alloc (.cells #[.int .i64 len, .int .i64 ((i : Int) + 1)] 39))) := (Kept.refl No W).alloc _
    have hb6 := World.alloc_heap_new W (.cells #[.int .i64 len, .int .i64 ((i : Int) + 1)] 39)
    have HB6 : Hid ((W.alloc (.cells #[.int .i64 len, .int .i64 ((i : Int) + 1)] 39)).heap[W.heap.size]? = some (.cells #[.int .i64 len, .int .i64 ((i : Int) + 1)] 39)) := hb6
    clear hb6 hI hl3 hp hi hs hfn hz0
    go_enter Tryz.func44, Tryz.ntmps44
    go_upto_region 2 with fail
    have hI1 := HI.out.keep HK1.out
    have HI1 : Hid (TkB (W.alloc (.cells #[.int .i64 len, .int .i64 ((i : Int) + 1)] 39)) n H bS gS cS bC gC cC bH sf sb (cvF f H sf sb q)) := hI1
    obtain ⟨d0, d1⟩ := cells2' HB6.out
    have c1 := cell_box hI1.b1
    obtain ⟨s0, s1⟩ := hI1.s i hin
    clear hI1
    generalize W.alloc (.cells #[.int .i64 len, .int .i64 ((i : Int) + 1)] 39) = w1 at *
    have hwi : IntKind.i64.wrap (((i : Int) + 1) - 1) = (i : Int) := by rw [w64i]; unfold wrap64; omega
    have hwi2 : IntKind.i64.wrap (i : Int) = (i : Int) := by rw [w64i]; unfold wrap64; omega
    have hin2 : (i : Int) < n := by omega
    have hin3 : (0 : Int) ≤ (i : Int) := by omega
    have hwe : IntKind.i64.wrap ((q : Int) + (len : Int)) = ((q : Int) + len) := by rw [w64i]; unfold wrap64; omega
    go_cut [8, 9] (fun p8 p9 wx => ∃ B8 B9, p8 = .pointer (some ⟨B8, 0, none⟩) ∧ p9 = .pointer (some ⟨B9, 0, none⟩) ∧ wx.heap[B8]? = some (.cells #[.int .i64 (sf i), .int .i64 (sb i)] 51) ∧ wx.heap[B9]? = some (.cells #[.int .i64 q, .int .i64 ((q : Int) + len)] 51) ∧ Kept No w1 wx ∧ w1.heap.size ≤ B8 ∧ w1.heap.size ≤ B9)
    case first =>
      go_region_held (fun w' => w'.cell? ⟨bS, 0, none⟩ = some (.slice (some ⟨gS, 0, none⟩) n cS) ∧ w'.cell? ⟨W.heap.size, 0, none⟩ = some (.int .i64 len) ∧ w'.cell? ⟨W.heap.size, 1, none⟩ = some (.int .i64 ((i : Int) + 1)) ∧ w'.cell? ⟨gS, i * 2, none⟩ = some (.int .i64 (sf i)) ∧ w'.cell? ⟨gS, i * 2 + 1, none⟩ = some (.int .i64 (sb i))) (go_keep) (fail)
      all_goals (go_wp2; go_meet; first | exact tbox1 | exact tbox2)
    case rest =>
      obtain ⟨B8, B9, rfl, rfl, h8, h9, hkc, l8, l9⟩ := hcut
      have hIc := HI1.out.keep hkc
      obtain ⟨f0, f1⟩ := cells2' (hkc.at' HB6.out (fun h => h))
      obtain ⟨a0, a1⟩ := cells2' h8
      obtain ⟨b0, b1'⟩ := cells2' h9
      have xC := cell_box hIc.b2
      have xH := cell_box hIc.b3
      have cz := hIc.c i hin
      rw [HZ0.out] at cz
      have fz := hIc.f i
      have HKC : Hid (Kept No W wc) := HK1.out.trans hkc (fun _ h => h.elim)
      have HIC : Hid (TkB wc n H bS gS cS bC gC cC bH sf sb (cvF f H sf sb q)) := hIc
      clear hkc hIc h8 h9 d0 d1 c1 s0 s1
      have cz' : wc.drew.cell? ⟨gC, i, none⟩ = some (.int .i64 z0) := cz
      have fz' : wc.drew.frozen? ⟨gC, i, none⟩ = false := fz
      have n8 : gC ≠ B8 := by have := HI1.out.l2; omega
      have n9 : gC ≠ B9 := by have := HI1.out.l2; omega
      have n6 : gC ≠ W.heap.size := by have := HI.out.l2; omega
      clear l8 l9
      have hk0 : Kept No wc wc.drew := (Kept.refl No wc).drew
      generalize hsb : sb i = tb at *
      generalize hsf : sf i = tf at *
      clear hsb hsf
      go_upto_region 3 with fail
      have MI : Hid (wrap64 (((i : Int) + 1) - 1) = (i : Int)) := by show wrap64 _ = _; unfold wrap64; omega
      have MS : Hid (wrap64 ((k1 : Int) - k2) = (k1 : Int) - k2) := by show wrap64 _ = _; unfold wrap64; omega
      obtain ⟨z1, hz1⟩ : ∃ z1 : Int, z1 = z0 + ((k1 : Int) - k2) := ⟨_, rfl⟩
      have MA : Hid (wrap64 (z0 + ((k1 : Int) - k2)) = z1) := by show wrap64 _ = _; rw [hz1]; unfold wrap64; omega
      have e0 : 0 + i = i := Nat.zero_add i
      have cz0 : wc.cell? ⟨gC, 0 + i, none⟩ = some (.int .i64 z0) := by rw [e0]; exact cz
      have fz0 : wc.frozen? ⟨gC, 0 + i, none⟩ = false := by rw [e0]; exact fz
      clear cz fz cz' fz'
      have HFIN : Hid (∀ w6, Kept No wc w6 → Took (Tk f n H bS gS cS bC gC cC bH sf sb) (fun _ _ _ => False) (q + len) W (Five bS gS bC gC bH) (.returned (.bool true)) (w6.setCell ⟨gC, 0 + i, none⟩ (.int .i64 z1))) := fun w6 hk6 => by
        have hkw : Kept No W w6 := HKC.out.trans hk6 (fun _ h => h.elim)
        refine ⟨Five bS gS bC gC bH, (hkw.mono (fun _ h => h.elim)).setCell (p := ⟨gC, 0 + i, none⟩) (.inl (.inr (.inr (.inr (.inl rfl))))) _, More.refl _ _, .inl ⟨rfl, rfl, ?_⟩⟩
        have e1 : z1 = cvF f H sf sb (q + len) i := by rw [HCI.out, hz1]
        rw [e0, e1]
        exact (HIC.out.keep hk6).set hin h1 h2 h3 h4 HCV.out
      clear hz1
      try simp only [Act.put, List.setIfInBounds_toArray, List.set_cons_zero, List.set_cons_succ]
      refine wp_region_held_drew (S := fun w' => w'.cell? ⟨bC, 0, none⟩ = some (.slice (some ⟨gC, 0, none⟩) n cC) ∧ w'.cell? ⟨W.heap.size, 1, none⟩ = some (.int .i64 ((i : Int) + 1)) ∧ w'.cell? ⟨B8, 0, none⟩ = some (.int .i64 tf) ∧ w'.cell? ⟨B8, 1, none⟩ = some (.int .i64 tb) ∧ w'.cell? ⟨B9, 0, none⟩ = some (.int .i64 q) ∧ w'.cell? ⟨B9, 1, none⟩ = some (.int .i64 ((q : Int) + len)) ∧ w'.cell? ⟨bH, 0, none⟩ = some (.int .i64 H)) (by kernel_rfl) ⟨xC, f1, a0, a1, b0, b1', xH⟩ (fun hS => ?_)
      refine d_take 0 25 rfl rfl (by kernel_rfl) (by kernel_rfl) (by kernel_rfl) (fun _ _ _ h => h) rfl (fun w' hw' => er_ldis _ rfl bC 0 (.slice (some ⟨gC, 0, none⟩) n cC) rfl hw'.1) hS ?_
      simp only [Act.put, List.setIfInBounds_toArray, List.set_cons_zero, List.set_cons_succ]
      refine d_take 1 26 rfl rfl (by kernel_rfl) (by kernel_rfl) (by kernel_rfl) (fun _ _ _ h => h) rfl (fun w' hw' => er_so1z _ rfl W.heap.size rfl) hS ?_
      simp only [Act.put, List.setIfInBounds_toArray, List.set_cons_zero, List.set_cons_succ]
      refine d_take 2 27 rfl rfl (by kernel_rfl) (by kernel_rfl) (by kernel_rfl) (fun _ _ _ h => h) rfl (fun w' hw' => er_ld3 _ rfl W.heap.size 1 (.int .i64 ((i : Int) + 1)) rfl hw'.2.1) hS ?_
      simp only [Act.put, List.setIfInBounds_toArray, List.set_cons_zero, List.set_cons_succ]
      refine d_take 3 28 rfl rfl (by kernel_rfl) (by kernel_rfl) (by kernel_rfl) (fun _ _ _ h => h) rfl (fun w' hw' => er_sub _ _ rfl ((i : Int) + 1) 1 i rfl rfl MI.out) hS ?_
      simp only [Act.put, List.setIfInBounds_toArray, List.set_cons_zero, List.set_cons_succ]
      refine d_take 4 29 rfl rfl (by kernel_rfl) (by kernel_rfl) (by kernel_rfl) (fun _ _ _ h => h) rfl (fun w' hw' => er_idxi _ _ rfl gC 0 n cC i hin (by omega) rfl rfl) hS ?_
      simp only [Act.put, List.setIfInBounds_toArray, List.set_cons_zero, List.set_cons_succ]
      refine d_take 6 31 rfl rfl (by kernel_rfl) (by kernel_rfl) (by kernel_rfl) (fun _ _ _ h => h) rfl (fun w' hw' => er_ldsp _ rfl B9 0 (.int .i64 q) (.int .i64 ((q : Int) + len)) rfl hw'.2.2.2.2.1 hw'.2.2.2.2.2.1) hS ?_
      simp only [Act.put, List.setIfInBounds_toArray, List.set_cons_zero, List.set_cons_succ]
      refine d_take 7 32 rfl rfl (by kernel_rfl) (by kernel_rfl) (by kernel_rfl) (fun _ _ _ h => h) rfl (fun w' hw' => er_ld3 _ rfl bH 0 (.int .i64 H) rfl hw'.2.2.2.2.2.2) hS ?_
      simp only [Act.put, List.setIfInBounds_toArray, List.set_cons_zero, List.set_cons_succ]
      refine d_take 8 33 rfl rfl (by kernel_rfl) (by kernel_rfl) (by kernel_rfl) (fun _ _ _ h => h) rfl (fun w' hw' => er_sp1z _ rfl B8 rfl) hS ?_
      simp only [Act.put, List.setIfInBounds_toArray, List.set_cons_zero, List.set_cons_succ]
      refine d_take 9 34 rfl rfl (by kernel_rfl) (by kernel_rfl) (by kernel_rfl) (fun _ _ _ h => h) rfl (fun w' hw' => er_ld3 _ rfl B8 1 (.int .i64 tb) rfl hw'.2.2.2.1) hS ?_
      simp only [Act.put, List.setIfInBounds_toArray, List.set_cons_zero, List.set_cons_succ]
      refine d_take 11 36 rfl rfl (by kernel_rfl) (by kernel_rfl) (by kernel_rfl) (fun _ _ _ h => h) rfl (fun w' hw' => er_ldsp _ rfl B9 0 (.int .i64 q) (.int .i64 ((q : Int) + len)) rfl hw'.2.2.2.2.1 hw'.2.2.2.2.2.1) hS ?_
      simp only [Act.put, List.setIfInBounds_toArray, List.set_cons_zero, List.set_cons_succ]
      refine d_take 12 37 rfl rfl (by kernel_rfl) (by kernel_rfl) (by kernel_rfl) (fun _ _ _ h => h) rfl (fun w' hw' => er_ld3 _ rfl bH 0 (.int .i64 H) rfl hw'.2.2.2.2.2.2) hS ?_
      simp only [Act.put, List.setIfInBounds_toArray, List.set_cons_zero, List.set_cons_succ]
      refine d_take 13 38 rfl rfl (by kernel_rfl) (by kernel_rfl) (by kernel_rfl) (fun _ _ _ h => h) rfl (fun w' hw' => er_sp0 _ rfl B8 (0) rfl) hS ?_
      simp only [Act.put, List.setIfInBounds_toArray, List.set_cons_zero, List.set_cons_succ]
      refine d_take 14 39 rfl rfl (by kernel_rfl) (by kernel_rfl) (by kernel_rfl) (fun _ _ _ h => h) rfl (fun w' hw' => er_ld3 _ rfl B8 0 (.int .i64 tf) rfl hw'.2.2.1) hS ?_
      simp only [Act.put, List.setIfInBounds_toArray, List.set_cons_zero, List.set_cons_succ]
      refine wpAnyH_ready (rs := [5, 10]) (by kernel_rfl) (by simp) (AllReadyH.cons rfl (st_read 30 rfl rfl (er_ld3 _ rfl gC (0 + i) (.int .i64 z0) rfl (hk0.cell cz0 (fun h => h))) hS ?_) (AllReadyH.cons rfl (st_call (fun w' => Kept No wc w') 35 rfl rfl (er_c_comesBelow _ _ _ _ rfl (.agg #[.int .i64 q, .int .i64 ((q : Int) + len)]) (.int .i64 H) (.int .i64 tb) rfl rfl rfl) ((hc1 wc.drew).mono (fun e w6 he => ⟨he.1, skeep hS he.2, hk0.trans he.2 (fun _ h => h.elim)⟩)) ?_) AllReadyH.nil))
      · simp only [Act.put, List.setIfInBounds_toArray, List.set_cons_zero, List.set_cons_succ]
        refine wpAnyH_ready (rs := [10]) (by kernel_rfl) (by simp) (AllReadyH.cons rfl (st_call (fun w' => Kept No wc w') 35 rfl rfl (er_c_comesBelow _ _ _ _ rfl (.agg #[.int .i64 q, .int .i64 ((q : Int) + len)]) (.int .i64 H) (.int .i64 tb) rfl rfl rfl) ((hc1 wc.drew).mono (fun e w6 he => ⟨he.1, skeep hS he.2, hk0.trans he.2 (fun _ h => h.elim)⟩)) ?_) AllReadyH.nil)
        · intro v1 hS kv1
          simp only [Act.put, List.setIfInBounds_toArray, List.set_cons_zero, List.set_cons_succ]
          refine wpAnyH_ready (rs := [15]) (by kernel_rfl) (by simp) (AllReadyH.cons rfl (st_call (fun w' => Kept No wc w') 40 rfl rfl (er_c_comesBelow _ _ _ _ rfl (.agg #[.int .i64 q, .int .i64 ((q : Int) + len)]) (.int .i64 H) (.int .i64 tf) rfl rfl rfl) ((hc2 v1).mono (fun e w6 he => ⟨he.1, skeep hS he.2, kv1.trans he.2 (fun _ h => h.elim)⟩)) ?_) AllReadyH.nil)
          · intro v2 hS kv2
            simp only [Act.put, List.setIfInBounds_toArray, List.set_cons_zero, List.set_cons_succ]
            refine d_take 16 41 rfl rfl (by kernel_rfl) (by kernel_rfl) (by kernel_rfl) (fun _ _ _ h => h) rfl (fun w' hw' => er_sub _ _ rfl k1 k2 ((k1 : Int) - k2) rfl rfl MS.out) hS ?_
            simp only [Act.put, List.setIfInBounds_toArray, List.set_cons_zero, List.set_cons_succ]
            refine d_take 17 42 rfl rfl (by kernel_rfl) (by kernel_rfl) (by kernel_rfl) (fun _ _ _ h => h) rfl (fun w' hw' => er_add _ _ rfl z0 ((k1 : Int) - k2) z1 rfl rfl MA.out) hS ?_
            simp only [Act.put, List.setIfInBounds_toArray, List.set_cons_zero, List.set_cons_succ]
            refine d_take 18 43 rfl rfl (by kernel_rfl) (by kernel_rfl) (by kernel_rfl) (fun _ _ _ h => h) rfl (fun w' hw' => er_idxi _ _ rfl gC 0 n cC i hin (by omega) rfl rfl) hS ?_
            simp only [Act.put, List.setIfInBounds_toArray, List.set_cons_zero, List.set_cons_succ]
            refine d_turn 19 (by kernel_rfl) rfl rfl rfl (er_st3 _ _ rfl gC (0 + i) (.int .i64 z0) z1 rfl rfl (kv2.cell cz0 (fun h => h)) (frozen_keep kv2 cz0 fz0)) (sset hS n6 n8 n9 h3 h4) ?_
            refine wpAnyH_done (by kernel_rfl) ?_ _
            have HQ : Hid (Took (Tk f n H bS gS cS bC gC cC bH sf sb) (fun _ _ _ => False) (q + len) W (Five bS gS bC gC bH) (.returned (.bool true)) (v2.setCell ⟨gC, 0 + i, none⟩ (.int .i64 z1))) := HFIN.out _ kv2
            clear hS
            generalize v2.setCell ⟨gC, 0 + i, none⟩ (.int .i64 z1) = wz at *
            go_wp2
            go_ret
            exact HQ.out
      · intro v3 hS kv3
        simp only [Act.put, List.setIfInBounds_toArray, List.set_cons_zero, List.set_cons_succ]
        refine wpAnyH_ready (rs := [5, 15]) (by kernel_rfl) (by simp) (AllReadyH.cons rfl (st_read 30 rfl rfl (er_ld3 _ rfl gC (0 + i) (.int .i64 z0) rfl (kv3.cell cz0 (fun h => h))) hS ?_) (AllReadyH.cons rfl (st_call (fun w' => Kept No wc w') 40 rfl rfl (er_c_comesBelow _ _ _ _ rfl (.agg #[.int .i64 q, .int .i64 ((q : Int) + len)]) (.int .i64 H) (.int .i64 tf) rfl rfl rfl) ((hc2 v3).mono (fun e w6 he => ⟨he.1, skeep hS he.2, kv3.trans he.2 (fun _ h => h.elim)⟩)) ?_) AllReadyH.nil))
        · simp only [Act.put, List.setIfInBounds_toArray, List.set_cons_zero, List.set_cons_succ]
          refine wpAnyH_ready (rs := [15]) (by kernel_rfl) (by simp) (AllReadyH.cons rfl (st_call (fun w' => Kept No wc w') 40 rfl rfl (er_c_comesBelow _ _ _ _ rfl (.agg #[.int .i64 q, .int .i64 ((q : Int) + len)]) (.int .i64 H) (.int .i64 tf) rfl rfl rfl) ((hc2 v3).mono (fun e w6 he => ⟨he.1, skeep hS he.2, kv3.trans he.2 (fun _ h => h.elim)⟩)) ?_) AllReadyH.nil)
          · intro v4 hS kv4
            simp only [Act.put, List.setIfInBounds_toArray, List.set_cons_zero, List.set_cons_succ]
            refine d_take 16 41 rfl rfl (by kernel_rfl) (by kernel_rfl) (by kernel_rfl) (fun _ _ _ h => h) rfl (fun w' hw' => er_sub _ _ rfl k1 k2 ((k1 : Int) - k2) rfl rfl MS.out) hS ?_
            simp only [Act.put, List.setIfInBounds_toArray, List.set_cons_zero, List.set_cons_succ]
            refine d_take 17 42 rfl rfl (by kernel_rfl) (by kernel_rfl) (by kernel_rfl) (fun _ _ _ h => h) rfl (fun w' hw' => er_add _ _ rfl z0 ((k1 : Int) - k2) z1 rfl rfl MA.out) hS ?_
            simp only [Act.put, List.setIfInBounds_toArray, List.set_cons_zero, List.set_cons_succ]
            refine d_take 18 43 rfl rfl (by kernel_rfl) (by kernel_rfl) (by kernel_rfl) (fun _ _ _ h => h) rfl (fun w' hw' => er_idxi _ _ rfl gC 0 n cC i hin (by omega) rfl rfl) hS ?_
            simp only [Act.put, List.setIfInBounds_toArray, List.set_cons_zero, List.set_cons_succ]
            refine d_turn 19 (by kernel_rfl) rfl rfl rfl (er_st3 _ _ rfl gC (0 + i) (.int .i64 z0) z1 rfl rfl (kv4.cell cz0 (fun h => h)) (frozen_keep kv4 cz0 fz0)) (sset hS n6 n8 n9 h3 h4) ?_
            refine wpAnyH_done (by kernel_rfl) ?_ _
            have HQ : Hid (Took (Tk f n H bS gS cS bC gC cC bH sf sb) (fun _ _ _ => False) (q + len) W (Five bS gS bC gC bH) (.returned (.bool true)) (v4.setCell ⟨gC, 0 + i, none⟩ (.int .i64 z1))) := HFIN.out _ kv4
            clear hS
            generalize v4.setCell ⟨gC, 0 + i, none⟩ (.int .i64 z1) = wz at *
            go_wp2
            go_ret
            exact HQ.out
        · intro v5 hS kv5
          simp only [Act.put, List.setIfInBounds_toArray, List.set_cons_zero, List.set_cons_succ]
          refine d_take 16 41 rfl rfl (by kernel_rfl) (by kernel_rfl) (by kernel_rfl) (fun _ _ _ h => h) rfl (fun w' hw' => er_sub _ _ rfl k1 k2 ((k1 : Int) - k2) rfl rfl MS.out) hS ?_
          simp only [Act.put, List.setIfInBounds_toArray, List.set_cons_zero, List.set_cons_succ]
          refine wpAnyH_ready (rs := [5]) (by kernel_rfl) (by simp) (AllReadyH.cons rfl (st_read 30 rfl rfl (er_ld3 _ rfl gC (0 + i) (.int .i64 z0) rfl (kv5.cell cz0 (fun h => h))) hS ?_) AllReadyH.nil)
          · simp only [Act.put, List.setIfInBounds_toArray, List.set_cons_zero, List.set_cons_succ]
            refine d_take 17 42 rfl rfl (by kernel_rfl) (by kernel_rfl) (by kernel_rfl) (fun _ _ _ h => h) rfl (fun w' hw' => er_add _ _ rfl z0 ((k1 : Int) - k2) z1 rfl rfl MA.out) hS ?_
            simp only [Act.put, List.setIfInBounds_toArray, List.set_cons_zero, List.set_cons_succ]
            refine d_take 18 43 rfl rfl (by kernel_rfl) (by kernel_rfl) (by kernel_rfl) (fun _ _ _ h => h) rfl (fun w' hw' => er_idxi _ _ rfl gC 0 n cC i hin (by omega) rfl rfl) hS ?_
            simp only [Act.put, List.setIfInBounds_toArray, List.set_cons_zero, List.set_cons_succ]
            refine d_turn 19 (by kernel_rfl) rfl rfl rfl (er_st3 _ _ rfl gC (0 + i) (.int .i64 z0) z1 rfl rfl (kv5.cell cz0 (fun h => h)) (frozen_keep kv5 cz0 fz0)) (sset hS n6 n8 n9 h3 h4) ?_
            refine wpAnyH_done (by kernel_rfl) ?_ _
            have HQ : Hid (Took (Tk f n H bS gS cS bC gC cC bH sf sb) (fun _ _ _ => False) (q + len) W (Five bS gS bC gC bH) (.returned (.bool true)) (v5.setCell ⟨gC, 0 + i, none⟩ (.int .i64 z1))) := HFIN.out _ kv5
            clear hS
            generalize v5.setCell ⟨gC, 0 + i, none⟩ (.int .i64 z1) = wz at *
            go_wp2
            go_ret
            exact HQ.out
end Go.Proofs.YtkjnhhoniodbcaaGreatDoor

namespace Go.Proofs.YtkjnhhoniodbcaaGreatDoor
open Go.RowKit Go.Shelf Plain
set_option linter.unusedVariables false
set_option maxRecDepth 100000

/-- a row of spans -/
structure Sp (w : World) (g n : Nat) (sf sb : Nat → Nat) : Prop where
  at' : ∀ i, i < n → w.cell? ⟨g, i * 2, none⟩ = some (.int .i64 (sf i)) ∧ w.cell? ⟨g, i * 2 + 1, none⟩ = some (.int .i64 (sb i))
  lt : g < w.heap.size
theorem Sp.keep {w w' : World} {g n : Nat} {sf sb : Nat → Nat} (h : Sp w g n sf sb) (hk : Kept No w w') : Sp w' g n sf sb :=
  ⟨fun i hi => ⟨hk.cell (h.at' i hi).1 (fun h => h), hk.cell (h.at' i hi).2 (fun h => h)⟩, Nat.lt_of_lt_of_le h.lt hk.size⟩
/-- a row of counts -/
structure Ct (w : World) (g n : Nat) (cv : Nat → Int) : Prop where
  at' : ∀ i, i < n → w.cell? ⟨g, i, none⟩ = some (.int .i64 (cv i))
  fz : ∀ i, w.frozen? ⟨g, i, none⟩ = false
  lt : g < w.heap.size
theorem Ct.keep {w w' : World} {g n : Nat} {cv : Nat → Int} (h : Ct w g n cv) (hk : Kept No w w') : Ct w' g n cv :=
  ⟨fun i hi => hk.cell (h.at' i hi) (fun h => h), fun i => by
    have e := hk.block g h.lt (fun h => h)
    have := h.fz i
    simp only [World.frozen?] at this ⊢
    rw [e]; exact this, Nat.lt_of_lt_of_le h.lt hk.size⟩
theorem Tryz.infoI3 : (Tryz.prog.info? 3).map (fun i => (i.zero, i.size, i.bytes)) = some (some (.int .i64 0), 1, 8) := by kernel_rfl
theorem make_ints (w : World) (n : Nat) (hn : n ≤ 32) : ∃ w1, (Instr.makeSlice 55 (.int .i64 n) (.int .i64 n)).run Tryz.prog w = .ok (.slice (some ⟨w.heap.size, 0, none⟩) n n) w1 ∧ Ct w1 w.heap.size n (fun _ => 0) ∧ Kept No w w1 ∧ w1.heap.size = w.heap.size + 1 := by
  obtain ⟨i0, hi, hz0, hz1, hz2⟩ := info_parts Tryz.infoI3
  have hr := run_make (P := Tryz.prog) w 55 3 i0 _ Tryz.underlying55 hi hz0 .i64 .i64 n n (by omega) (Int.le_refl _) (by rw [hz2]; omega) (by omega)
  simp only [Int.toNat_natCast] at hr
  rw [hz1, Nat.mul_one] at hr
  refine ⟨_, hr, ⟨fun i hi => ?_, fun i => ?_, by simp⟩, (Kept.refl No w).alloc _, by simp⟩
  · have hb := World.alloc_heap_new w (.cells (madeCells (Value.int .i64 0).cells n) 3)
    have e : (madeCells (Value.int .i64 0).cells n)[i]? = some (.int .i64 0) := by
      rw [show (Value.int .i64 0).cells = #[Value.int .i64 0] from rfl, ← Array.getElem?_toList, toList_madeCells_one, List.getElem?_replicate, if_pos hi]
    simp only [World.cell?]
    rw [hb]
    simpa using e
  · have hb := World.alloc_heap_new w (.cells (madeCells (Value.int .i64 0).cells n) 3)
    simp only [World.frozen?]
    rw [hb]
    rfl
theorem max_nat (x y : Nat) : ∃ z : Nat, max (x : Int) (y : Int) = (z : Int) ∧ x ≤ z ∧ y ≤ z ∧ (z = x ∨ z = y) := by
  by_cases h : x ≤ y
  · exact ⟨y, by omega, h, Nat.le_refl _, .inr rfl⟩
  · exact ⟨x, by omega, Nat.le_refl _, by omega, .inl rfl⟩
theorem min2_nat (H m : Nat) : ∃ z : Nat, min (2 * (H : Int)) (m : Int) = (z : Int) ∧ z ≤ 2 * H ∧ z ≤ m ∧ (z = 2 * H ∨ z = m) := by
  by_cases h : 2 * H ≤ m
  · exact ⟨2 * H, by omega, Nat.le_refl _, h, .inl rfl⟩
  · exact ⟨m, by omega, by omega, Nat.le_refl _, .inr rfl⟩

set_option maxHeartbeats 4000000 in
theorem taken_any {F : Nat → Prop} {a : Option Addr} {c cS : Nat} {xs : List Srv} {gS : Nat} {sf sb : Nat → Nat} (w : World) (hv : Vd xs) (h : Sv w F a xs.length c xs) (hF : ∀ k, F k → k < w.heap.size) (hsp : Sp w gS xs.length sf sb) (hs : ∀ i, i < xs.length → sf i ≤ sb i ∧ sb i ≤ 1099511627776) (hFg : ¬ F gS) :
    Calls Tryz.prog 28 #[.slice a xs.length c, .int .i64 (hyp xs), .slice (some ⟨gS, 0, none⟩) xs.length cS] w fun e w' => ∃ g, e = .returned (.slice (some ⟨g, 0, none⟩) xs.length xs.length) ∧ w.heap.size ≤ g ∧ Ct w' g xs.length (fun i => (Rule.cnt (Rule.occ (sys xs)) (i + 1) (sb i) : Int) - (Rule.cnt (Rule.occ (sys xs)) (i + 1) (sf i) : Int)) ∧ Kept (fun k => k = gS) w w' := by
  have hH1 := hv.hyp1
  have hH2 := hv.hyp2
  have hn := hv.num
  have HV : Hid (Vd xs) := hv
  have HS : Hid (Sv w F a xs.length c xs ∧ (∀ k, F k → k < w.heap.size) ∧ Sp w gS xs.length sf sb ∧ ∀ i, i < xs.length → sf i ≤ sb i ∧ sb i ≤ 1099511627776) := ⟨h, hF, hsp, hs⟩
  clear h hF hsp hs hv
  go_enter Tryz.func28, Tryz.ntmps28
  go_upto_region 1 with fail
  have k1 : Kept No w ((w.alloc (.cells #[.int .i64 (hyp xs)] 3)).alloc (.cells #[.slice (some ⟨gS, 0, none⟩) xs.length cS] 60)) := ((Kept.refl No w).alloc _).alloc _
  obtain ⟨q1, q2⟩ := heap_alloc2 (w := w) (o1 := .cells #[.int .i64 (hyp xs)] 3) (o2 := .cells #[.slice (some ⟨gS, 0, none⟩) xs.length cS] 60)
  have sz1 : ((w.alloc (.cells #[.int .i64 (hyp xs)] 3)).alloc (.cells #[.slice (some ⟨gS, 0, none⟩) xs.length cS] 60)).heap.size = w.heap.size + 2 := by simp
  have HK1 : Hid (Kept No w ((w.alloc (.cells #[.int .i64 (hyp xs)] 3)).alloc (.cells #[.slice (some ⟨gS, 0, none⟩) xs.length cS] 60)) ∧ ((w.alloc (.cells #[.int .i64 (hyp xs)] 3)).alloc (.cells #[.slice (some ⟨gS, 0, none⟩) xs.length cS] 60)).heap[w.heap.size]? = some (.cells #[.int .i64 (hyp xs)] 3) ∧ ((w.alloc (.cells #[.int .i64 (hyp xs)] 3)).alloc (.cells #[.slice (some ⟨gS, 0, none⟩) xs.length cS] 60)).heap[w.heap.size + 1]? = some (.cells #[.slice (some ⟨gS, 0, none⟩) xs.length cS] 60) ∧ ((w.alloc (.cells #[.int .i64 (hyp xs)] 3)).alloc (.cells #[.slice (some ⟨gS, 0, none⟩) xs.length cS] 60)).heap.size = w.heap.size + 2) := ⟨k1, q1, q2, sz1⟩
  clear k1 q1 q2 sz1
  generalize (w.alloc (.cells #[.int .i64 (hyp xs)] 3)).alloc (.cells #[.slice (some ⟨gS, 0, none⟩) xs.length cS] 60) = w1 at *
  obtain ⟨w2, hm, hct, k2, sz2⟩ := make_ints w1 xs.length hn
  have HK2 : Hid (Ct w2 w1.heap.size xs.length (fun _ => 0) ∧ Kept No w1 w2 ∧ w2.heap.size = w1.heap.size + 1) := ⟨hct, k2, sz2⟩
  clear hct k2 sz2
  go_upto_region 2 with fail
  have k3 : Kept No w2 (w2.alloc (.cells #[.slice (some ⟨w1.heap.size, 0, none⟩) xs.length xs.length] 55)) := (Kept.refl No w2).alloc _
  have b3 := World.alloc_heap_new w2 (.cells #[.slice (some ⟨w1.heap.size, 0, none⟩) xs.length xs.length] 55)
  have HT : Hid (TkB (w2.alloc (.cells #[.slice (some ⟨w1.heap.size, 0, none⟩) xs.length xs.length] 55)) xs.length (hyp xs) (w.heap.size + 1) gS cS w2.heap.size w1.heap.size xs.length w.heap.size sf sb (cvF (Rule.occ (sys xs)) (hyp xs) sf sb 0) ∧ Kept No w (w2.alloc (.cells #[.slice (some ⟨w1.heap.size, 0, none⟩) xs.length xs.length] 55)) ∧ w1.heap.size = w.heap.size + 2 ∧ w2.heap.size = w.heap.size + 3 ∧ gS < w.heap.size) := by
    obtain ⟨g1, g2, g3, g4⟩ := HS.out
    obtain ⟨a1, a2, a3, a4⟩ := HK1.out
    obtain ⟨e1, e2, e3⟩ := HK2.out
    have k13 : Kept No w1 (w2.alloc (.cells #[.slice (some ⟨w1.heap.size, 0, none⟩) xs.length xs.length] 55)) := e2.trans k3 (fun _ h => h.elim)
    have kw3 : Kept No w (w2.alloc (.cells #[.slice (some ⟨w1.heap.size, 0, none⟩) xs.length xs.length] 55)) := a1.trans k13 (fun _ h => h.elim)
    have hsp := g3.keep kw3
    have hct := e1.keep k3
    have hz : ∀ i, cvF (Rule.occ (sys xs)) (hyp xs) sf sb 0 i = 0 := fun i => by unfold cvF; rw [Rule.acc_zero, Rule.acc_zero]; rfl
    refine ⟨⟨k13.at' a3 (fun h => h), b3, k13.at' a2 (fun h => h), hsp.at', fun i hi => by rw [hz i]; exact hct.at' i hi, hct.fz, hsp.lt, hct.lt⟩, kw3, a4, by omega, g3.lt⟩
  clear k3 b3 HK1 HK2 hm
  generalize w2.alloc (.cells #[.slice (some ⟨w1.heap.size, 0, none⟩) xs.length xs.length] 55) = w3 at *
  have c5 := cell_box HT.out.1.b1
  go_wp2
  clear c5
  go_loopw [8, 16] (fun v x wr => ∃ k mb : Nat, k ≤ xs.length ∧ x = .int .i64 k ∧ v = .int .i64 mb ∧ mb ≤ 1099511627776 ∧ (∀ i, i < k → sb i ≤ mb) ∧ Kept No w3 wr) (fun _ x _ => xs.length - (intOf x).toNat)
  case atStart => exact ⟨0, 0, Nat.zero_le _, rfl, rfl, by omega, fun i hi => by omega, Kept.refl No w3⟩
  case round =>
    obtain ⟨k, mb, hk, rfl, rfl, hmb, hall, hkr⟩ := hrel
    by_cases hlt : k < xs.length
    · have hT := HT.out.1.keep hkr
      obtain ⟨s0, s1⟩ := hT.s k hlt
      obtain ⟨z, ez, z1, z2, z3⟩ := max_nat mb (sb k)
      have HR : Hid (Kept No w3 wr ∧ (∀ i, i < k → sb i ≤ mb) ∧ z ≤ 1099511627776) := ⟨hkr, hall, by have := (HS.out.2.2.2 k hlt).2; omega⟩
      clear hT hkr hall z3
      go_wp2
      go_roundw
      case rel =>
        obtain ⟨y1, y2, y3⟩ := HR.out
        exact ⟨k + 1, z, by omega, by go_num, rfl, y3, fun i hi => by
          by_cases e : i = k
          · subst e; exact z2
          · have := y2 i (by omega); omega, y1.alloc _⟩
      case measure => simp [intOf]; omega
    · have hke : k = xs.length := by omega
      subst hke
      obtain ⟨m, em, m1, m2, m3⟩ := min2_nat (hyp xs) mb
      have hT := HT.out.1.keep hkr
      have xH := cell_box hT.b3
      have HTR : Hid (TkB wr xs.length (hyp xs) (w.heap.size + 1) gS cS w2.heap.size w1.heap.size xs.length w.heap.size sf sb (cvF (Rule.occ (sys xs)) (hyp xs) sf sb 0) ∧ Kept No w wr ∧ ∀ i, i < xs.length → sb i ≤ mb) := ⟨hT, HT.out.2.1.trans hkr (fun _ h => h.elim), hall⟩
      clear hT hkr hall
      have hsr := HS.out.1.keep HTR.out.2.1
      have hFr : ∀ k, F k → k < wr.heap.size := fun k hk => by have := HS.out.2.1 k hk; have := HTR.out.2.1.size; omega
      have hgv := play_gives HV.out hsr hFr m (by omega)
      have kal : Kept No wr ((wr.alloc (.cells #[.slice a xs.length c] 22)).alloc (.cells #[.int .i64 m] 3)) := ((Kept.refl No wr).alloc _).alloc _
      have hszr := HTR.out.2.1.size
      have hsz4 := HT.out.2.2
      have hb2l := heap_lt HTR.out.1.b2
      have hcall := each_any (enters_of Tryz.func52 (by kernel_rfl) rfl) (enters_of Tryz.func44 (by kernel_rfl) rfl) hgv (Nat.le_refl _) (fun k hk => ⟨by rcases hk with hk | hk | hk; have := hFr k hk; simp; omega; subst hk; simp <;> omega; subst hk; simp <;> omega, rfl⟩) (Tk.hangs (Rule.occ (sys xs)) xs.length (hyp xs) (w.heap.size + 1) gS cS w2.heap.size w1.heap.size xs.length w.heap.size sf sb) hangs_false ⟨rfl, HTR.out.1.keep kal⟩ ?gs (taken1_does (fun u => Rule.occ_le (sys xs) u) hn hH1 hH2 m1 (fun i hi => by have := HS.out.2.2.2 i hi; omega) (by omega) (by omega) (by omega) (by omega))
      case gs =>
        intro k hk h5
        rcases hk with hk | hk | hk
        · have h6 := HS.out.2.1 k hk
          rcases h5 with e | e | e | e | e
          · omega
          · subst e; exact hFg hk
          · omega
          · omega
          · omega
        · rcases h5 with e | e | e | e | e <;> omega
        · rcases h5 with e | e | e | e | e <;> omega
      have HKA : Hid (Kept No wr ((wr.alloc (.cells #[.slice a xs.length c] 22)).alloc (.cells #[.int .i64 m] 3))) := kal
      have HALL : Hid (∀ (w5 : World) (S' : Nat → Prop), Tk (Rule.occ (sys xs)) xs.length (hyp xs) (w.heap.size + 1) gS cS w2.heap.size w1.heap.size xs.length w.heap.size sf sb m w5 S' → Ct w5 w1.heap.size xs.length (fun i => (Rule.cnt (Rule.occ (sys xs)) (i + 1) (sb i) : Int) - (Rule.cnt (Rule.occ (sys xs)) (i + 1) (sf i) : Int))) := fun w5 S' hT5 => by
        obtain ⟨_, hT5⟩ := hT5
        have hag : ∀ t, hyp xs ≤ t → Rule.occ (sys xs) (t + hyp xs) = Rule.occ (sys xs) t := fun t ht => Rule.again HV.out.bd.ok (fun i hi => HV.out.dvd i hi) t ht
        refine ⟨fun i hi => ?_, hT5.f, hT5.l2⟩
        have h1 := HTR.out.2.2 i hi
        have h2 := (HS.out.2.2.2 i hi).1
        have e1 := Rule.acc_all hH1 hag (i + 1) (sb i) m (by omega)
        have e2 := Rule.acc_all hH1 hag (i + 1) (sf i) m (by omega)
        have := hT5.c i hi
        unfold cvF at this
        rw [e1, e2] at this
        exact this
      have hp4 := play_any a xs.length c (m : Int) wr
      have HSZ : Hid (w1.heap.size = w.heap.size + 2 ∧ w2.heap.size = w.heap.size + 3 ∧ gS < w.heap.size ∧ w.heap.size ≤ wr.heap.size) := ⟨hsz4.1, hsz4.2.1, hsz4.2.2, hszr⟩
      clear hsr hFr hgv kal hszr hsz4 m3
      go_wp2_with (first
        | (go_at_call 38; refine hp4.mono ?_; rintro e w4 ⟨rfl, hw4⟩; have HW4 : Hid (w4 = (wr.alloc (.cells #[.slice a xs.length c] 22)).alloc (.cells #[.int .i64 m] 3)) := hw4; have hcall2 := hcall; rw [← HW4.out] at hcall2; clear hw4 hcall hp4)
        | (go_at_call 18; refine hcall2.mono ?_; rintro e w5 ⟨⟨v5, rfl⟩, S5, hk5, hm5, hor⟩; clear hcall2; have hT5 := or_false3 hor; have x5 := cell_box hT5.2.b2; have HF : Hid (Ct w5 w1.heap.size xs.length (fun i => (Rule.cnt (Rule.occ (sys xs)) (i + 1) (sb i) : Int) - (Rule.cnt (Rule.occ (sys xs)) (i + 1) (sf i) : Int)) ∧ Kept (Five (w.heap.size + 1) gS w2.heap.size w1.heap.size w.heap.size) w4 w5) := ⟨HALL.out _ _ hT5, hk5⟩; clear hk5 hm5 hor hT5))
      go_ret
      refine ⟨_, rfl, by have := HSZ.out.1; omega, HF.out.1, ?_⟩
      have k4 := HKA.out
      rw [← HW4.out] at k4
      have kw4 : Kept (fun k => k = gS) w w4 := (HTR.out.2.1.trans k4 (fun _ h => h.elim)).mono (fun _ h => h.elim)
      refine kw4.trans HF.out.2 (fun k h5 => ?_)
      obtain ⟨y1, y2, y3, y4⟩ := HSZ.out
      rcases h5 with e | e | e | e | e
      · exact .inr (by omega)
      · exact .inl e
      · exact .inr (by omega)
      · exact .inr (by omega)
      · exact .inr (by omega)
end Go.Proofs.YtkjnhhoniodbcaaGreatDoor
