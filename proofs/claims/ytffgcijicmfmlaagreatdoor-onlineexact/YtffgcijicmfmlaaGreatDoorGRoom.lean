/-
  One text: DTold, DRoom.
-/
import Derived.Test.YtffgcijicmfmlaaGreatDoorGRefz
namespace Go.Proofs.YtffgcijicmfmlaaGreatDoor
open Go.RowKit Plain
set_option linter.unusedVariables false
set_option maxRecDepth 100000
attribute [local irreducible] wpQuiet

section
variable {o : Oper} {a : Act} {w : World}
theorem er_faX2 (x : Operand) (ho : o.op = .fieldAddr 43 x 2) (g : Nat) (hx : a.eval x = .pointer (some ⟨g, 0, none⟩)) : (execOp a.eval o).run Tryz.prog w = .ok (.value (.pointer (some ⟨g, 2, none⟩))) w := by
  simp only [execOp, ho, hx]; rfl
theorem er_eqIt (x y : Operand) (ho : o.op = .binOp .eql 3 x y 3) (k : Int) (hx : a.eval x = .int .i64 k) (hy : a.eval y = .int .i64 k) : (execOp a.eval o).run Tryz.prog w = .ok (.value (.bool true)) w := by
  simp only [execOp, ho, hx, hy]; simp [go_sem]
theorem er_pickTt (c x y : Operand) (ho : o.op = .pick c x y) (v : Value) (hc : a.eval c = .bool true) (hx : a.eval x = v) : (execOp a.eval o).run Tryz.prog w = .ok (.value v) w := by
  subst hx
  simp only [execOp, ho, hc]; simp [go_sem]
theorem er_ldX (x : Operand) (ho : o.op = .load 43 x) (g : Nat) (v0 v1 v2 v3 : Value) (hx : a.eval x = .pointer (some ⟨g, 0, none⟩)) (hb : w.heap[g]? = some (.cells #[v0, v1, v2, v3] 43)) : (execOp a.eval o).run Tryz.prog w = .ok (.value (.agg #[v0, v1, v2, v3])) w := by
  have c0 := cell_of_row (k := 0) (v := v0) hb rfl
  have c1 := cell_of_row (k := 1) (v := v1) hb rfl
  have c2 := cell_of_row (k := 2) (v := v2) hb rfl
  have c3 := cell_of_row (k := 3) (v := v3) hb rfl
  simp only [execOp, ho, hx]
  simp [go_sem, c0, c1, c2, c3]
theorem er_len (x : Operand) (ho : o.op = .call { callee := .builtin .len, args := #[x], argTypes := #[22] }) (p : Option Addr) (n c : Nat) (hx : a.eval x = .slice p n c) : (execOp a.eval o).run Tryz.prog w = .ok (.value (.int .i64 n)) w := by
  generalize a.eval = ev at hx ⊢
  simp [execOp, ho, go_sem, hx]
theorem er_cNow (x0 : Operand) (ts : Array TypeId) (ho : o.op = .call { callee := .value (.func 12), args := #[x0], argTypes := ts }) (v0 : Value) (h0 : a.eval x0 = v0) : (execOp a.eval o).run Tryz.prog w = .ok (.enter 12 #[v0]) w := by
  subst h0; simp [execOp, ho, go_sem, Act.eval]
theorem er_cOcc (x0 : Operand) (ts : Array TypeId) (ho : o.op = .call { callee := .value (.func 15), args := #[x0], argTypes := ts }) (v0 : Value) (h0 : a.eval x0 = v0) : (execOp a.eval o).run Tryz.prog w = .ok (.enter 15 #[v0]) w := by
  subst h0; simp [execOp, ho, go_sem, Act.eval]
theorem er_cUnt (x0 : Operand) (ts : Array TypeId) (ho : o.op = .call { callee := .value (.func 16), args := #[x0], argTypes := ts }) (v0 : Value) (h0 : a.eval x0 = v0) : (execOp a.eval o).run Tryz.prog w = .ok (.enter 16 #[v0]) w := by
  subst h0; simp [execOp, ho, go_sem, Act.eval]
theorem er_cROcc (x0 : Operand) (ts : Array TypeId) (ho : o.op = .call { callee := .value (.func 37), args := #[x0], argTypes := ts }) (v0 : Value) (h0 : a.eval x0 = v0) : (execOp a.eval o).run Tryz.prog w = .ok (.enter 37 #[v0]) w := by
  subst h0; simp [execOp, ho, go_sem, Act.eval]
theorem er_cRUnt (x0 : Operand) (ts : Array TypeId) (ho : o.op = .call { callee := .value (.func 38), args := #[x0], argTypes := ts }) (v0 : Value) (h0 : a.eval x0 = v0) : (execOp a.eval o).run Tryz.prog w = .ok (.enter 38 #[v0]) w := by
  subst h0; simp [execOp, ho, go_sem, Act.eval]
theorem er_cSpo (x0 : Operand) (ts : Array TypeId) (ho : o.op = .call { callee := .value (.func 17), args := #[x0], argTypes := ts }) (v0 : Value) (h0 : a.eval x0 = v0) : (execOp a.eval o).run Tryz.prog w = .ok (.enter 17 #[v0]) w := by
  subst h0; simp [execOp, ho, go_sem, Act.eval]
theorem er_cSam (x0 x1 : Operand) (ts : Array TypeId) (ho : o.op = .call { callee := .value (.func 13), args := #[x0, x1], argTypes := ts }) (v0 v1 : Value) (h0 : a.eval x0 = v0) (h1 : a.eval x1 = v1) : (execOp a.eval o).run Tryz.prog w = .ok (.enter 13 #[v0, v1]) w := by
  subst h0 h1; simp [execOp, ho, go_sem, Act.eval]
end

set_option maxHeartbeats 8000000 in
theorem ltold_any {R Q : Nat → Prop} {d : Nat} {xs : List Srv} {t : Nat} {xv : Value} (hv : Vd xs) (ht : t < 1099511627776) (w : World) (hD : Dn w d R xs t) (hX : Xd w Q xs t xv) :
    Calls Tryz.prog 22 #[.pointer (some ⟨d, 0, none⟩), xv] w fun e w' => e = .returned (.bool true) ∧ Kept No w w' := by
  obtain ⟨a, c, la, lc, F, rfl, hS, hF, hr, hl⟩ := hX
  have hn := hv.num
  have hcap := hS.cap
  have hmax := hS.max
  have HV : Hid (Vd xs ∧ t < 1099511627776) := ⟨hv, ht⟩
  have HD : Hid (Dn w d R xs t) := hD
  have HS : Hid (Sv w F a xs.length c xs ∧ Rd0 w (.slice la xs.length lc) xs.length (fun i => (Rule.rest (sys xs) t i : Int))) := ⟨hS, hr⟩
  obtain ⟨O, hO⟩ : ∃ O, Rule.occ (sys xs) t = O := ⟨_, rfl⟩
  obtain ⟨U, hU⟩ : ∃ U, Rule.until' (sys xs) t = U := ⟨_, rfl⟩
  have HOU : Hid (Rule.occ (sys xs) t = O ∧ Rule.until' (sys xs) t = U) := ⟨hO, hU⟩
  clear hS hr hD hv hF hl hO hU
  generalize hH : hyp xs = H at *
  clear hH
  go_enter Tryz.func22, Tryz.ntmps22
  go_upto_region 1 with fail
  have b2 := World.alloc_heap_new w (.cells #[.slice a xs.length c, .int .i64 (H : Int), .int .i64 t, .slice la xs.length lc] 43)
  have HK1 : Hid (Kept No w (w.alloc (.cells #[.slice a xs.length c, .int .i64 (H : Int), .int .i64 t, .slice la xs.length lc] 43))) := (Kept.refl No w).alloc _
  generalize w.alloc (.cells #[.slice a xs.length c, .int .i64 (H : Int), .int .i64 t, .slice la xs.length lc] 43) = w1 at *
  generalize hz : w.heap.size = z at *
  have HZ : Hid (w.heap.size = z ∧ w1.heap[z]? = some (.cells #[.slice a xs.length c, .int .i64 (H : Int), .int .i64 t, .slice la xs.length lc] 43)) := ⟨hz, b2⟩
  clear hz b2
  have r1 := rests_own HV.out.1 (HD.out.keep HK1.out)
  go_upto_region 2 with (go_at_call 14; refine r1.mono ?_; rintro e w2 ⟨g1, cg1, rfl, hg11, hg12, hc11, hc12, ct1, ⟨L1, ow1⟩, hk2⟩; have H2 : Hid (Kept No w1 w2 ∧ Ct w2 g1 xs.length (fun i => (Rule.rest (sys xs) t i : Int)) ∧ w2.ownsRow w1.heap.size 3 1 (.slice (some ⟨g1, 0, none⟩) xs.length cg1) xs.length L1 ∧ w1.heap.size ≤ g1 ∧ xs.length ≤ cg1 ∧ cg1 ≤ 9223372036854775807) := ⟨hk2, ct1, ow1, hg11, hc11, hc12⟩; have H2b : Hid (g1 < w2.heap.size) := hg12; clear ct1 ow1 hk2 r1 hg11 hg12 hc11 hc12)
  have r2 := rests_own HV.out.1 ((HD.out.keep HK1.out).keep H2.out.1)
  go_upto_region 3 with (go_at_call 14; refine r2.mono ?_; rintro e w3 ⟨g2, cg2, rfl, hg21, hg22, hc21, hc22, ct2, _, hk3⟩; have H3 : Hid (Kept No w2 w3 ∧ Ct w3 g2 xs.length (fun i => (Rule.rest (sys xs) t i : Int)) ∧ w2.heap.size ≤ g2 ∧ xs.length ≤ cg2 ∧ cg2 ≤ 9223372036854775807) := ⟨hk3, ct2, hg21, hc21, hc22⟩; clear ct2 hk3 r2 hg21 hg22 hc21 hc22)
  have HK3 : Hid (Kept No w1 w3) := H2.out.1.trans H3.out.1 (fun _ h => h.elim)
  have b3 := HK3.out.at' HZ.out.2 (fun h => h)
  have y0 := cell_of_row (k := 0) (v := .slice a xs.length c) b3 rfl
  have y1 := cell_of_row (k := 1) (v := .int .i64 (H : Int)) b3 rfl
  have y2 := cell_of_row (k := 2) (v := .int .i64 t) b3 rfl
  have y3 := cell_of_row (k := 3) (v := .slice la xs.length lc) b3 rfl
  have r3 := rrests_any (a := a) (m := xs.length) (c := c) (H : Int) (t : Int) w3 ((HS.out.2.keep HK1.out).keep HK3.out) hn
  clear b3
  go_upto_region 4 with (go_at_call 36; refine r3.mono ?_; rintro e w4 ⟨la3, lc3, rfl, ri3, hk4⟩; have H4 : Hid (Kept No w3 w4 ∧ Ri w4 w3.heap.size (.slice la3 xs.length lc3) xs.length (fun i => (Rule.rest (sys xs) t i : Int))) := ⟨hk4, ri3⟩; clear ri3 hk4 r3)
  clear y0 y1 y2 y3
  have HK4 : Hid (Kept No w1 w4) := HK3.out.trans H4.out.1 (fun _ h => h.elim)
  have HB4 : Hid (w4.heap[z]? = some (.cells #[.slice a xs.length c, .int .i64 (H : Int), .int .i64 t, .slice la xs.length lc] 43)) := HK4.out.at' HZ.out.2 (fun h => h)
  have HD4 : Hid (Dn w4 d R xs t) := (HD.out.keep HK1.out).keep HK4.out
  have HW4 : Hid (Kept No w w4) := HK1.out.trans HK4.out (fun _ h => h.elim)
  have HT1 : Hid (Rd0 w4 (.slice (some ⟨g1, 0, none⟩) xs.length cg1) xs.length (fun i => (Rule.rest (sys xs) t i : Int))) := .inr ⟨g1, cg1, rfl, H2.out.2.2.2.2.1, H2.out.2.2.2.2.2, (H2.out.2.1.keep H3.out.1).keep H4.out.1⟩
  have HT2 : Hid (Rd0 w4 (.slice (some ⟨g2, 0, none⟩) xs.length cg2) xs.length (fun i => (Rule.rest (sys xs) t i : Int))) := .inr ⟨g2, cg2, rfl, H3.out.2.2.2.1, H3.out.2.2.2.2, H3.out.2.1.keep H4.out.1⟩
  have KS1 : Hid (∀ W, Kept No w4 W → Calls Tryz.prog 13 #[.slice (some ⟨g1, 0, none⟩) xs.length cg1, .slice la3 xs.length lc3] W fun e w' => e = .returned (.bool true) ∧ Kept No W w') := fun W hk => sameInts_rd W (HT1.out.keep hk) (H4.out.2.rd.keep hk) hn
  have KS2 : Hid (∀ W, Kept No w4 W → Calls Tryz.prog 13 #[.slice (some ⟨g2, 0, none⟩) xs.length cg2, .slice la3 xs.length lc3] W fun e w' => e = .returned (.bool true) ∧ Kept No W w') := fun W hk => sameInts_rd W (HT2.out.keep hk) (H4.out.2.rd.keep hk) hn
  have KNW : Hid (∀ W, Kept No w4 W → Calls Tryz.prog 12 #[.pointer (some ⟨d, 0, none⟩)] W fun e w' => e = .returned (.int .i64 t) ∧ Kept No W w') := fun W hk => now_dn (HD4.out.keep hk)
  have KOC : Hid (∀ W, Kept No w4 W → Calls Tryz.prog 15 #[.pointer (some ⟨d, 0, none⟩)] W fun e w' => e = .returned (.int .i64 O) ∧ Kept No W w') := fun W hk => by rw [← HOU.out.1]; exact occ_dn HV.out.1 (HD4.out.keep hk)
  have KUN : Hid (∀ W, Kept No w4 W → Calls Tryz.prog 16 #[.pointer (some ⟨d, 0, none⟩)] W fun e w' => e = .returned (.int .i64 U) ∧ Kept No W w') := fun W hk => by rw [← HOU.out.2]; exact until_dn HV.out.1 (HD4.out.keep hk) HV.out.2
  have KRO : Hid (∀ W, Kept No w4 W → Calls Tryz.prog 37 #[.agg #[.slice a xs.length c, .int .i64 (H : Int), .int .i64 t, .slice la xs.length lc]] W fun e w' => e = .returned (.int .i64 O) ∧ Kept No W w') := fun W hk => by rw [← HOU.out.1]; exact rocc_any HV.out.1 (H : Int) t W ((HS.out.1.keep HW4.out).keep hk) ((HS.out.2.keep HW4.out).keep hk)
  have KRU : Hid (∀ W, Kept No w4 W → Calls Tryz.prog 38 #[.agg #[.slice a xs.length c, .int .i64 (H : Int), .int .i64 t, .slice la xs.length lc]] W fun e w' => e = .returned (.int .i64 U) ∧ Kept No W w') := fun W hk => by rw [← HOU.out.2]; exact runtil_any HV.out.1 (H : Int) t HV.out.2 W ((HS.out.1.keep HW4.out).keep hk) ((HS.out.2.keep HW4.out).keep hk)
  refine wp_region_kept w4 (by kernel_rfl) (by kernel_rfl) (Kept.refl No w4) ?_
  refine BigFrame.wpQuiet_want rfl (fun KK hKK => ?_)
  refine quiet_val' (fun w5 hw5 => er_mv _ rfl (.slice (some ⟨g1, 0, none⟩) xs.length cg1) rfl) ?_
  refine hKK _ ?_
  clear hKK KK
  simp only [Act.put, List.setIfInBounds_toArray, List.set_cons_zero, List.set_cons_succ]
  refine BigFrame.wpQuiet_want rfl (fun KK hKK => ?_)
  refine quiet_val' (fun w5 hw5 => er_mv _ rfl (.slice la3 xs.length lc3) rfl) ?_
  refine hKK _ ?_
  clear hKK KK
  simp only [Act.put, List.setIfInBounds_toArray, List.set_cons_zero, List.set_cons_succ]
  refine BigFrame.wpQuiet_want rfl (fun KK hKK => ?_)
  refine quiet_call' (fun w5 => er_cSam _ _ _ rfl (.slice (some ⟨g1, 0, none⟩) xs.length cg1) (.slice la3 xs.length lc3) rfl rfl) (fun w5 hw5 => (KS1.out w5 hw5).mono (fun e w9 he => ⟨he.1, hw5.trans he.2 (fun _ h => h.elim)⟩)) ?_
  refine hKK _ ?_
  clear hKK KK
  simp only [Act.put, List.setIfInBounds_toArray, List.set_cons_zero, List.set_cons_succ]
  refine BigFrame.wpQuiet_want rfl (fun KK hKK => ?_)
  refine quiet_val' (fun w5 hw5 => er_mv _ rfl (.bool true) rfl) ?_
  refine hKK _ ?_
  clear hKK KK
  simp only [Act.put, List.setIfInBounds_toArray, List.set_cons_zero, List.set_cons_succ]
  refine BigFrame.wpQuiet_want rfl (fun KK hKK => ?_)
  refine quiet_val' (fun w5 hw5 => er_mv _ rfl (.slice (some ⟨g2, 0, none⟩) xs.length cg2) rfl) ?_
  refine hKK _ ?_
  clear hKK KK
  simp only [Act.put, List.setIfInBounds_toArray, List.set_cons_zero, List.set_cons_succ]
  refine BigFrame.wpQuiet_want rfl (fun KK hKK => ?_)
  refine quiet_val' (fun w5 hw5 => er_mv _ rfl (.slice la3 xs.length lc3) rfl) ?_
  refine hKK _ ?_
  clear hKK KK
  simp only [Act.put, List.setIfInBounds_toArray, List.set_cons_zero, List.set_cons_succ]
  refine BigFrame.wpQuiet_want rfl (fun KK hKK => ?_)
  refine quiet_call' (fun w5 => er_cSam _ _ _ rfl (.slice (some ⟨g2, 0, none⟩) xs.length cg2) (.slice la3 xs.length lc3) rfl rfl) (fun w5 hw5 => (KS2.out w5 hw5).mono (fun e w9 he => ⟨he.1, hw5.trans he.2 (fun _ h => h.elim)⟩)) ?_
  refine hKK _ ?_
  clear hKK KK
  simp only [Act.put, List.setIfInBounds_toArray, List.set_cons_zero, List.set_cons_succ]
  refine BigFrame.wpQuiet_want rfl (fun KK hKK => ?_)
  refine quiet_val' (fun w5 hw5 => er_pickTt _ _ _ rfl (.bool true) rfl rfl) ?_
  refine hKK _ ?_
  clear hKK KK
  simp only [Act.put, List.setIfInBounds_toArray, List.set_cons_zero, List.set_cons_succ]
  refine BigFrame.wpQuiet_want rfl (fun KK hKK => ?_)
  refine quiet_val' (fun w5 hw5 => er_mv _ rfl (.bool true) rfl) ?_
  refine hKK _ ?_
  clear hKK KK
  simp only [Act.put, List.setIfInBounds_toArray, List.set_cons_zero, List.set_cons_succ]
  refine BigFrame.wpQuiet_want rfl (fun KK hKK => ?_)
  refine quiet_val' (fun w5 hw5 => er_mv _ rfl (.pointer (some ⟨d, 0, none⟩)) rfl) ?_
  refine hKK _ ?_
  clear hKK KK
  simp only [Act.put, List.setIfInBounds_toArray, List.set_cons_zero, List.set_cons_succ]
  refine BigFrame.wpQuiet_want rfl (fun KK hKK => ?_)
  refine quiet_call' (fun w5 => er_cNow _ _ rfl (.pointer (some ⟨d, 0, none⟩)) rfl) (fun w5 hw5 => (KNW.out w5 hw5).mono (fun e w9 he => ⟨he.1, hw5.trans he.2 (fun _ h => h.elim)⟩)) ?_
  refine hKK _ ?_
  clear hKK KK
  simp only [Act.put, List.setIfInBounds_toArray, List.set_cons_zero, List.set_cons_succ]
  refine BigFrame.wpQuiet_want rfl (fun KK hKK => ?_)
  refine quiet_val' (fun w5 hw5 => er_faX2 _ rfl z rfl) ?_
  refine hKK _ ?_
  clear hKK KK
  simp only [Act.put, List.setIfInBounds_toArray, List.set_cons_zero, List.set_cons_succ]
  refine BigFrame.wpQuiet_want rfl (fun KK hKK => ?_)
  refine quiet_val' (fun w5 hw5 => er_ldI _ rfl z 2 (.int .i64 t) rfl (cell_of_row (k := 2) (hw5.at' HB4.out (fun h => h)) rfl)) ?_
  refine hKK _ ?_
  clear hKK KK
  simp only [Act.put, List.setIfInBounds_toArray, List.set_cons_zero, List.set_cons_succ]
  refine BigFrame.wpQuiet_want rfl (fun KK hKK => ?_)
  refine quiet_val' (fun w5 hw5 => er_eqIt _ _ rfl (t : Int) rfl rfl) ?_
  refine hKK _ ?_
  clear hKK KK
  simp only [Act.put, List.setIfInBounds_toArray, List.set_cons_zero, List.set_cons_succ]
  refine BigFrame.wpQuiet_want rfl (fun KK hKK => ?_)
  refine quiet_val' (fun w5 hw5 => er_pickTt _ _ _ rfl (.bool true) rfl rfl) ?_
  refine hKK _ ?_
  clear hKK KK
  simp only [Act.put, List.setIfInBounds_toArray, List.set_cons_zero, List.set_cons_succ]
  refine BigFrame.wpQuiet_want rfl (fun KK hKK => ?_)
  refine quiet_val' (fun w5 hw5 => er_mv _ rfl (.bool true) rfl) ?_
  refine hKK _ ?_
  clear hKK KK
  simp only [Act.put, List.setIfInBounds_toArray, List.set_cons_zero, List.set_cons_succ]
  refine BigFrame.wpQuiet_want rfl (fun KK hKK => ?_)
  refine quiet_val' (fun w5 hw5 => er_mv _ rfl (.pointer (some ⟨d, 0, none⟩)) rfl) ?_
  refine hKK _ ?_
  clear hKK KK
  simp only [Act.put, List.setIfInBounds_toArray, List.set_cons_zero, List.set_cons_succ]
  refine BigFrame.wpQuiet_want rfl (fun KK hKK => ?_)
  refine quiet_call' (fun w5 => er_cOcc _ _ rfl (.pointer (some ⟨d, 0, none⟩)) rfl) (fun w5 hw5 => (KOC.out w5 hw5).mono (fun e w9 he => ⟨he.1, hw5.trans he.2 (fun _ h => h.elim)⟩)) ?_
  refine hKK _ ?_
  clear hKK KK
  simp only [Act.put, List.setIfInBounds_toArray, List.set_cons_zero, List.set_cons_succ]
  refine BigFrame.wpQuiet_want rfl (fun KK hKK => ?_)
  refine quiet_val' (fun w5 hw5 => er_ldX _ rfl z _ _ _ _ rfl (hw5.at' HB4.out (fun h => h))) ?_
  refine hKK _ ?_
  clear hKK KK
  simp only [Act.put, List.setIfInBounds_toArray, List.set_cons_zero, List.set_cons_succ]
  refine BigFrame.wpQuiet_want rfl (fun KK hKK => ?_)
  refine quiet_call' (fun w5 => er_cROcc _ _ rfl (.agg #[.slice a xs.length c, .int .i64 (H : Int), .int .i64 t, .slice la xs.length lc]) rfl) (fun w5 hw5 => (KRO.out w5 hw5).mono (fun e w9 he => ⟨he.1, hw5.trans he.2 (fun _ h => h.elim)⟩)) ?_
  refine hKK _ ?_
  clear hKK KK
  simp only [Act.put, List.setIfInBounds_toArray, List.set_cons_zero, List.set_cons_succ]
  refine BigFrame.wpQuiet_want rfl (fun KK hKK => ?_)
  refine quiet_val' (fun w5 hw5 => er_eqIt _ _ rfl (O : Int) rfl rfl) ?_
  refine hKK _ ?_
  clear hKK KK
  simp only [Act.put, List.setIfInBounds_toArray, List.set_cons_zero, List.set_cons_succ]
  refine BigFrame.wpQuiet_want rfl (fun KK hKK => ?_)
  refine quiet_val' (fun w5 hw5 => er_pickTt _ _ _ rfl (.bool true) rfl rfl) ?_
  refine hKK _ ?_
  clear hKK KK
  simp only [Act.put, List.setIfInBounds_toArray, List.set_cons_zero, List.set_cons_succ]
  refine BigFrame.wpQuiet_want rfl (fun KK hKK => ?_)
  refine quiet_val' (fun w5 hw5 => er_mv _ rfl (.bool true) rfl) ?_
  refine hKK _ ?_
  clear hKK KK
  simp only [Act.put, List.setIfInBounds_toArray, List.set_cons_zero, List.set_cons_succ]
  refine BigFrame.wpQuiet_want rfl (fun KK hKK => ?_)
  refine quiet_val' (fun w5 hw5 => er_mv _ rfl (.pointer (some ⟨d, 0, none⟩)) rfl) ?_
  refine hKK _ ?_
  clear hKK KK
  simp only [Act.put, List.setIfInBounds_toArray, List.set_cons_zero, List.set_cons_succ]
  refine BigFrame.wpQuiet_want rfl (fun KK hKK => ?_)
  refine quiet_call' (fun w5 => er_cUnt _ _ rfl (.pointer (some ⟨d, 0, none⟩)) rfl) (fun w5 hw5 => (KUN.out w5 hw5).mono (fun e w9 he => ⟨he.1, hw5.trans he.2 (fun _ h => h.elim)⟩)) ?_
  refine hKK _ ?_
  clear hKK KK
  simp only [Act.put, List.setIfInBounds_toArray, List.set_cons_zero, List.set_cons_succ]
  refine BigFrame.wpQuiet_want rfl (fun KK hKK => ?_)
  refine quiet_val' (fun w5 hw5 => er_ldX _ rfl z _ _ _ _ rfl (hw5.at' HB4.out (fun h => h))) ?_
  refine hKK _ ?_
  clear hKK KK
  simp only [Act.put, List.setIfInBounds_toArray, List.set_cons_zero, List.set_cons_succ]
  refine BigFrame.wpQuiet_want rfl (fun KK hKK => ?_)
  refine quiet_call' (fun w5 => er_cRUnt _ _ rfl (.agg #[.slice a xs.length c, .int .i64 (H : Int), .int .i64 t, .slice la xs.length lc]) rfl) (fun w5 hw5 => (KRU.out w5 hw5).mono (fun e w9 he => ⟨he.1, hw5.trans he.2 (fun _ h => h.elim)⟩)) ?_
  refine hKK _ ?_
  clear hKK KK
  simp only [Act.put, List.setIfInBounds_toArray, List.set_cons_zero, List.set_cons_succ]
  refine BigFrame.wpQuiet_want rfl (fun KK hKK => ?_)
  refine quiet_val' (fun w5 hw5 => er_eqIt _ _ rfl (U : Int) rfl rfl) ?_
  refine hKK _ ?_
  clear hKK KK
  simp only [Act.put, List.setIfInBounds_toArray, List.set_cons_zero, List.set_cons_succ]
  refine BigFrame.wpQuiet_want rfl (fun KK hKK => ?_)
  refine quiet_val' (fun w5 hw5 => er_pickTt _ _ _ rfl (.bool true) rfl rfl) ?_
  refine hKK _ ?_
  clear hKK KK
  simp only [Act.put, List.setIfInBounds_toArray, List.set_cons_zero, List.set_cons_succ]
  refine BigFrame.wpQuiet_want rfl (fun KK hKK => ?_)
  refine quiet_val' (fun w5 hw5 => er_as _ rfl (.bool true) rfl) ?_
  refine hKK _ ?_
  clear hKK KK
  simp only [Act.put, List.setIfInBounds_toArray, List.set_cons_zero, List.set_cons_succ]
  refine wpQuiet_nil ?_
  intro w6 hw6
  have H6 : Hid (Kept No w4 w6) := hw6
  clear hw6
  go_upto_region 5 with fail
  have hb6 := (H6.out.drew).at' HB4.out (fun h => h)
  have s6 : w6.drew.ownsRow w1.heap.size 3 1 (.slice (some ⟨g1, 0, none⟩) xs.length cg1) xs.length L1 := own_over (own_over (own_over H2.out.2.2.1 H3.out.1 (fun _ _ h => h)) H4.out.1 (fun _ _ h => h)) H6.out.drew (fun _ _ h => h)
  have hsz : z < w1.heap.size := heap_lt HZ.out.2
  have hsz2 : w1.heap.size ≤ w6.drew.heap.size := (HK4.out.trans H6.out.drew (fun _ h => h.elim)).size
  have hsp := (spoilt_any w6.drew s6 hn hsz2).mono (R' := fun e w' => ∃ v, e = .returned v ∧ (w'.cell? ⟨z, 0, none⟩ = some (.slice a xs.length c)) ∧ (v = .int .i64 ((xs.length : Int) + 64) ∧ Kept (fun k => k = g1) w6.drew w')) (by
    rintro e w' ⟨rfl, hk⟩
    exact ⟨_, rfl, cell_of_row (k := 0) (hk.at' hb6 (by have := H2.out.2.2.2.1; omega)) rfl, rfl, hk⟩)
  have e64 : wrap64 ((xs.length : Int) + 64) = (xs.length : Int) + 64 := by unfold wrap64; omega
  refine wp_region_held_drew (S := fun w' => w'.cell? ⟨z, 0, none⟩ = some (.slice a xs.length c)) (by kernel_rfl) (cell_of_row (k := 0) hb6 rfl) (fun hS => ?_)
  refine d_take 0 44 rfl rfl (by kernel_rfl) (by kernel_rfl) (by kernel_rfl) (fun _ _ _ h => h) rfl (fun w' hw' => er_mvw _ rfl (.bool true) rfl) hS ?_
  simp only [Act.put, List.setIfInBounds_toArray, List.set_cons_zero, List.set_cons_succ]
  refine d_take 1 45 rfl rfl (by kernel_rfl) (by kernel_rfl) (by kernel_rfl) (fun _ _ _ h => h) rfl (fun w' hw' => er_mvw _ rfl (.bool true) rfl) hS ?_
  simp only [Act.put, List.setIfInBounds_toArray, List.set_cons_zero, List.set_cons_succ]
  refine d_take 2 46 rfl rfl (by kernel_rfl) (by kernel_rfl) (by kernel_rfl) (fun _ _ _ h => h) rfl (fun w' hw' => er_mvw _ rfl (.slice (some ⟨g1, 0, none⟩) xs.length cg1) rfl) hS ?_
  simp only [Act.put, List.setIfInBounds_toArray, List.set_cons_zero, List.set_cons_succ]
  refine d_take 4 48 rfl rfl (by kernel_rfl) (by kernel_rfl) (by kernel_rfl) (fun _ _ _ h => h) rfl (fun w' hw' => er_faX0 _ rfl z rfl) hS ?_
  simp only [Act.put, List.setIfInBounds_toArray, List.set_cons_zero, List.set_cons_succ]
  refine d_take 5 49 rfl rfl (by kernel_rfl) (by kernel_rfl) (by kernel_rfl) (fun _ _ _ h => h) rfl (fun w' hw' => er_ldS _ rfl z 0 (.slice a xs.length c) rfl hw') hS ?_
  simp only [Act.put, List.setIfInBounds_toArray, List.set_cons_zero, List.set_cons_succ]
  refine d_take 6 50 rfl rfl (by kernel_rfl) (by kernel_rfl) (by kernel_rfl) (fun _ _ _ h => h) rfl (fun w' hw' => er_len _ rfl a xs.length c rfl) hS ?_
  simp only [Act.put, List.setIfInBounds_toArray, List.set_cons_zero, List.set_cons_succ]
  refine d_take 7 51 rfl rfl (by kernel_rfl) (by kernel_rfl) (by kernel_rfl) (fun _ _ _ h => h) rfl (fun w' hw' => er_addI _ _ rfl (xs.length : Int) 64 ((xs.length : Int) + 64) rfl rfl e64) hS ?_
  simp only [Act.put, List.setIfInBounds_toArray, List.set_cons_zero, List.set_cons_succ]
  refine d_callN (fun v w' => v = .int .i64 ((xs.length : Int) + 64) ∧ Kept (fun k => k = g1) w6.drew w') 3 47 (by kernel_rfl) rfl rfl rfl (er_cSpo _ _ rfl (.slice (some ⟨g1, 0, none⟩) xs.length cg1) rfl) hsp (fun v w7 hS7 hT7 => ?_)
  simp only [Act.put, List.setIfInBounds_toArray, List.set_cons_zero, List.set_cons_succ]
  obtain ⟨rfl, hk7⟩ := hT7
  have hsm := (sameInts_rd w7 ((HT2.out.keep H6.out.drew).over hk7 (fun k e h => by injection e with e; have e' : g2 = k := e; have := H3.out.2.2.1; have := H2b.out; omega)) ((H4.out.2.rd.keep H6.out.drew).over hk7 (fun k e h => by have := (World.ownsRow.lt H4.out.2 k e).1; have := H3.out.1.size; have := H2b.out; omega)) hn).mono (R' := fun e w' => ∃ v, e = .returned v ∧ (w'.cell? ⟨z, 0, none⟩ = some (.slice a xs.length c)) ∧ (v = .bool true ∧ Kept No w7 w')) (by
    rintro e w' ⟨rfl, hk⟩
    exact ⟨_, rfl, hk.cell hS7 (fun h => h), rfl, hk⟩)
  refine d_take 8 52 rfl rfl (by kernel_rfl) (by kernel_rfl) (by kernel_rfl) (fun _ _ _ h => h) rfl (fun w' hw' => er_eqIt _ _ rfl ((xs.length : Int) + 64) rfl rfl) hS7 ?_
  simp only [Act.put, List.setIfInBounds_toArray, List.set_cons_zero, List.set_cons_succ]
  refine d_take 9 53 rfl rfl (by kernel_rfl) (by kernel_rfl) (by kernel_rfl) (fun _ _ _ h => h) rfl (fun w' hw' => er_pickTt _ _ _ rfl (.bool true) rfl rfl) hS7 ?_
  simp only [Act.put, List.setIfInBounds_toArray, List.set_cons_zero, List.set_cons_succ]
  refine d_take 10 54 rfl rfl (by kernel_rfl) (by kernel_rfl) (by kernel_rfl) (fun _ _ _ h => h) rfl (fun w' hw' => er_mvw _ rfl (.bool true) rfl) hS7 ?_
  simp only [Act.put, List.setIfInBounds_toArray, List.set_cons_zero, List.set_cons_succ]
  refine d_take 11 55 rfl rfl (by kernel_rfl) (by kernel_rfl) (by kernel_rfl) (fun _ _ _ h => h) rfl (fun w' hw' => er_mvw _ rfl (.slice (some ⟨g2, 0, none⟩) xs.length cg2) rfl) hS7 ?_
  simp only [Act.put, List.setIfInBounds_toArray, List.set_cons_zero, List.set_cons_succ]
  refine d_take 12 56 rfl rfl (by kernel_rfl) (by kernel_rfl) (by kernel_rfl) (fun _ _ _ h => h) rfl (fun w' hw' => er_mvw _ rfl (.slice la3 xs.length lc3) rfl) hS7 ?_
  simp only [Act.put, List.setIfInBounds_toArray, List.set_cons_zero, List.set_cons_succ]
  refine d_callN (fun v w' => v = .bool true ∧ Kept No w7 w') 13 57 (by kernel_rfl) rfl rfl rfl (er_cSam _ _ _ rfl (.slice (some ⟨g2, 0, none⟩) xs.length cg2) (.slice la3 xs.length lc3) rfl rfl) hsm (fun v w8 hS8 hT8 => ?_)
  simp only [Act.put, List.setIfInBounds_toArray, List.set_cons_zero, List.set_cons_succ]
  obtain ⟨rfl, hk8⟩ := hT8
  refine d_take 14 58 rfl rfl (by kernel_rfl) (by kernel_rfl) (by kernel_rfl) (fun _ _ _ h => h) rfl (fun w' hw' => er_pickTt _ _ _ rfl (.bool true) rfl rfl) hS8 ?_
  simp only [Act.put, List.setIfInBounds_toArray, List.set_cons_zero, List.set_cons_succ]
  refine d_read 15 4 (by kernel_rfl) rfl rfl rfl (er_as _ rfl (.bool true) rfl) hS8 ?_
  simp only [Act.put, List.setIfInBounds_toArray, List.set_cons_zero, List.set_cons_succ]
  refine wpAnyH_done (by kernel_rfl) ?_ _
  have HF : Hid (Kept No w w8) := ((HW4.out.trans H6.out.drew (fun _ h => h.elim)).trans hk7 (fun k e => .inr (by have := H2.out.2.2.2.1; have := HZ.out.1; omega))).trans hk8 (fun _ h => h.elim)
  clear hk8 hk7 hS8 hS7 hS hsm hsp s6 hb6
  go_wp2
  go_ret
  exact ⟨rfl, HF.out⟩
end Go.Proofs.YtffgcijicmfmlaaGreatDoor

namespace Go.Proofs.YtffgcijicmfmlaaGreatDoor
open Go.RowKit Plain
set_option linter.unusedVariables false
set_option linter.unusedSimpArgs false
set_option maxRecDepth 100000
attribute [local irreducible] wpQuiet

theorem eqSv (w : World) (p b o q : Int) : (Op.equalIn 10000 36 (.agg #[.int .i64 p, .int .i64 b, .int .i64 o, .int .i64 q]) (.agg #[.int .i64 p, .int .i64 b, .int .i64 o, .int .i64 q])).run Tryz.prog w = .ok true w := by
  rw [show (10000 : Nat) = 9999 + 1 from rfl, run_equalIn_struct w 9999 _ _ _ (by kernel_rfl) (by kernel_rfl)]
  simp [go_sem, Tryz.underlying36]
theorem er_neqS {w : World} {a : Act} {o : Oper} (x y : Operand) (ho : o.op = .binOp .neq 36 x y 36) (p b f q : Int) (hx : a.eval x = .agg #[.int .i64 p, .int .i64 b, .int .i64 f, .int .i64 q]) (hy : a.eval y = .agg #[.int .i64 p, .int .i64 b, .int .i64 f, .int .i64 q]) : (execOp a.eval o).run Tryz.prog w = .ok (.value (.bool false)) w := by
  have hm : Tryz.prog.eqGuardType Tryz.prog.depth 36 = false := by kernel_rfl
  simp only [execOp, ho, hx, hy]
  simp [run_eqGuard_agg w _ _ _ _ _ _ hm, run_neq_struct, eqSv, go_sem]
theorem er_idxS {w : World} {a : Act} {o : Oper} (x y : Operand) (ho : o.op = .indexAddr 22 x y) (b off n c d : Nat) (hd : d < n) (hn : n ≤ 9223372036854775807) (hx : a.eval x = .slice (some ⟨b, off, none⟩) n c) (hy : a.eval y = .int .i64 d) : (execOp a.eval o).run Tryz.prog w = .ok (.value (.pointer (some ⟨b, off + d * 4, none⟩))) w := by
  simp only [execOp, ho, hx, hy]
  simp [go_sem, add_none]
  omega
theorem ldS (w : World) (b off : Nat) (p d f q : Int) (h0 : w.cell? ⟨b, off, none⟩ = some (.int .i64 p)) (h1 : w.cell? ⟨b, off + 1, none⟩ = some (.int .i64 d)) (h2 : w.cell? ⟨b, off + 2, none⟩ = some (.int .i64 f)) (h3 : w.cell? ⟨b, off + 3, none⟩ = some (.int .i64 q)) : (Instr.loadAt 36 (.pointer (some ⟨b, off, none⟩))).run Tryz.prog w = .ok (.agg #[.int .i64 p, .int .i64 d, .int .i64 f, .int .i64 q]) w := by
  simp [go_sem, h0, h1, h2, h3]
theorem Fz.set {w : World} {g : Nat} (h : Fz w g) (p : Addr) (v : Value) : Fz (w.setCell p v) g := fun i => by rw [World.frozen?_setCell]; exact h i
theorem Fz.kept {w w' : World} {g : Nat} {G : Nat → Prop} (h : Fz w g) (k : Kept G w w') (hg : ¬ G g) (hl : g < w.heap.size) : Fz w' g := fun i => by
  have := h i
  obtain ⟨o, ho⟩ : ∃ o, w.heap[g]? = some o := ⟨_, Array.getElem?_eq_getElem hl⟩
  have e := k.at' ho hg
  simp only [World.frozen?, ho] at this
  simp only [World.frozen?, e]
  exact this

/-- one server written in its place -/
theorem Mf.put {w : World} {g N : Nat} {f : Nat → Srv} (h : Mf w g N f) (k : Nat) (x : Srv) (hk : k < N) :
    Mf ((((w.setCell ⟨g, k * 4, none⟩ (.int .i64 x.p)).setCell ⟨g, k * 4 + 1, none⟩ (.int .i64 x.b)).setCell ⟨g, k * 4 + 2, none⟩ (.int .i64 x.o)).setCell ⟨g, k * 4 + 3, none⟩ (.int .i64 x.q)) g N (fun i => if i = k then x else f i) := by
  intro i hi
  obtain ⟨c0, c1, c2, c3⟩ := h i hi
  have key : ∀ off u, w.cell? ⟨g, off, none⟩ = some u → ((((w.setCell ⟨g, k * 4, none⟩ (.int .i64 x.p)).setCell ⟨g, k * 4 + 1, none⟩ (.int .i64 x.b)).setCell ⟨g, k * 4 + 2, none⟩ (.int .i64 x.o)).setCell ⟨g, k * 4 + 3, none⟩ (.int .i64 x.q)).cell? ⟨g, off, none⟩ = some (if off = k * 4 + 3 then .int .i64 x.q else if off = k * 4 + 2 then .int .i64 x.o else if off = k * 4 + 1 then .int .i64 x.b else if off = k * 4 then .int .i64 x.p else u) := fun off u hu => cell_set (cell_set (cell_set (cell_set hu)))
  by_cases e : i = k
  · subst e
    simp only [if_true]
    refine ⟨?_, ?_, ?_, ?_⟩
    · rw [key _ _ c0, if_neg (by omega), if_neg (by omega), if_neg (by omega), if_pos rfl]
    · rw [key _ _ c1, if_neg (by omega), if_neg (by omega), if_pos rfl]
    · rw [key _ _ c2, if_neg (by omega), if_pos rfl]
    · rw [key _ _ c3, if_pos rfl]
  · simp only [if_neg e]
    refine ⟨?_, ?_, ?_, ?_⟩
    · rw [key _ _ c0, if_neg (by omega), if_neg (by omega), if_neg (by omega), if_neg (by omega)]
    · rw [key _ _ c1, if_neg (by omega), if_neg (by omega), if_neg (by omega), if_neg (by omega)]
    · rw [key _ _ c2, if_neg (by omega), if_neg (by omega), if_neg (by omega), if_neg (by omega)]
    · rw [key _ _ c3, if_neg (by omega), if_neg (by omega), if_neg (by omega), if_neg (by omega)]
theorem Fz.put {w : World} {g : Nat} (h : Fz w g) (k : Nat) (x : Srv) : Fz ((((w.setCell ⟨g, k * 4, none⟩ (.int .i64 x.p)).setCell ⟨g, k * 4 + 1, none⟩ (.int .i64 x.b)).setCell ⟨g, k * 4 + 2, none⟩ (.int .i64 x.o)).setCell ⟨g, k * 4 + 3, none⟩ (.int .i64 x.q)) g := (((h.set _ _).set _ _).set _ _).set _ _
theorem put_kept {F : Nat → Prop} {w0 w : World} {q : Nat} (k : Nat) (x : Srv) (h : Kept F w0 w) (hq : F q ∨ w0.heap.size ≤ q) : Kept F w0 ((((w.setCell ⟨q, k * 4, none⟩ (.int .i64 x.p)).setCell ⟨q, k * 4 + 1, none⟩ (.int .i64 x.b)).setCell ⟨q, k * 4 + 2, none⟩ (.int .i64 x.o)).setCell ⟨q, k * 4 + 3, none⟩ (.int .i64 x.q)) :=
  Kept.setCell (p := ⟨q, k * 4 + 3, none⟩) (Kept.setCell (p := ⟨q, k * 4 + 2, none⟩) (Kept.setCell (p := ⟨q, k * 4 + 1, none⟩) (Kept.setCell (p := ⟨q, k * 4, none⟩) h hq _) hq _) hq _) hq _

def mk77 : Srv := ⟨77, 0, 0, 0⟩
def rm (xs : List Srv) (k : Nat) : List Srv := xs ++ List.replicate k mk77
theorem rm_len (xs : List Srv) (k : Nat) : (rm xs k).length = xs.length + k := by simp [rm]
theorem rm_succ (xs : List Srv) (k : Nat) : rm xs (k + 1) = rm xs k ++ [mk77] := by unfold rm; rw [List.replicate_succ', List.append_assoc]
theorem mk77_ok : mk77.ok := by unfold Srv.ok mk77 I6; simp

set_option maxHeartbeats 4000000 in
theorem roomy_any {F : Nat → Prop} {a : Option Addr} {c : Nat} {xs : List Srv} (w : World) (h : Sv w F a xs.length c xs) (hsz : xs.length * 32 ≤ 140737488351232) :
    Calls Tryz.prog 32 #[.slice a xs.length c] w fun e w' => ∃ g cap, e = .returned (.slice (some ⟨g, 0, none⟩) (xs.length + 64) cap) ∧ w'.ownsRow w.heap.size 36 4 (.slice (some ⟨g, 0, none⟩) (xs.length + 64) cap) (xs.length + 64) (fl (rm xs 64)) ∧ Kept No w w' := by
  obtain ⟨i0, hi0, hz0, hz1, hz2⟩ := info_parts Tryz.infoS
  have HS : Hid (Sv w F a xs.length c xs) := h
  have hcap := h.cap
  have hmax := h.max
  clear h
  go_enter Tryz.func32, Tryz.ntmps32
  go_upto_region 3 with (at_builtin; refine wpList_cps rfl _ _ rfl w.heap.size _ rfl (World.ownsRow_nil _ _ _ _) (Nat.le_refl _) a xs.length c rfl F xs HS.out (by omega) ?_; intro v1 w2 OW2 KW2)
  have HK2 : Hid (Kept No w w2) := KW2.out.mono (fun k e => by cases e)
  clear KW2
  go_wp2
  go_loopw [3, 4] (fun v x wr => ∃ k : Nat, k ≤ 64 ∧ x = .int .i64 k ∧ wr.ownsRow w.heap.size 36 4 v (xs.length + k) (fl (rm xs k)) ∧ Kept No w wr) (fun _ x _ => 64 - (intOf x).toNat)
  case atStart => exact ⟨0, by omega, rfl, (by have := OW2.out; rw [show rm xs 0 = xs from List.append_nil xs]; exact this), HK2.out⟩
  case round =>
    obtain ⟨k, hk, rfl, hown, hkr⟩ := hrel
    have HR : Hid (wr.ownsRow w.heap.size 36 4 u3 (xs.length + k) (fl (rm xs k)) ∧ Kept No w wr) := ⟨hown, hkr⟩
    clear hown hkr OW2 HK2
    by_cases hlt : k < 64
    · go_wp2_with (at_builtin; refine wpList_append_own _ rfl _ _ 22 rfl w.heap.size 36 i0 (.agg #[.int .i64 0, .int .i64 0, .int .i64 0, .int .i64 0]) 4 32 Tryz.underlying22 hi0 hz0 hz1 hz2 rfl (by decide) _ _ _ rfl (World.ownsRow.alloc HR.out.1 _) ⟨wr.heap.size, 0, none⟩ 1 1 (fl [mk77]) rfl rfl (cell_four wr mk77 _) (fl_one _) (by unfold maxLen; omega) (by omega) (by have := HR.out.2.size; simp; omega) ?_; intro v9 w10 own10 grow10 _)
      have HN : Hid (w10.ownsRow w.heap.size 36 4 v9 (xs.length + (k + 1)) (fl (rm xs (k + 1))) ∧ Kept No w w10) := ⟨by rw [rm_succ, fl_app]; exact own10, (HR.out.2.alloc _).grown grow10 (fun b e => .inr (World.ownsRow.lt HR.out.1 b e).1)⟩
      clear own10 grow10
      go_wp2
      go_roundw
      case rel => exact ⟨k + 1, by omega, by go_num, HN.out.1, HN.out.2⟩
      case measure => simp [intOf]; omega
    · have hke : k = 64 := by omega
      subst hke
      obtain ⟨g, cap, hvv⟩ : ∃ g cap, u3 = .slice (some ⟨g, 0, none⟩) (xs.length + 64) cap := by
        rcases own_mf HR.out.1 (rm_len _ _) with ⟨_, h0⟩ | ⟨g, cap, h1, _⟩
        · omega
        · exact ⟨g, cap, h1⟩
      subst hvv
      go_wp2
      go_ret
      exact ⟨g, cap, rfl, HR.out.1, HR.out.2⟩

set_option maxHeartbeats 4000000 in
theorem sameS_any {F G : Nat → Prop} {a a2 : Option Addr} {n c c2 : Nat} {xs : List Srv} (w : World) (h : Sv w F a n c xs) (h2 : Sv w G a2 n c2 xs) :
    Calls Tryz.prog 33 #[.slice a n c, .slice a2 n c2] w fun e w' => e = .returned (.bool true) ∧ Kept No w w' := by
  have HS : Hid (Sv w F a n c xs ∧ Sv w G a2 n c2 xs) := ⟨h, h2⟩
  have hcap := h.cap
  have hmax := h.max
  have hcap2 := h2.cap
  clear h h2
  go_enter Tryz.func33, Tryz.ntmps33
  go_wp2
  go_loopw [5] (fun x wr => ∃ k : Nat, k ≤ n ∧ x = .int .i64 k ∧ Kept No w wr) (fun x _ => n - (intOf x).toNat)
  case atStart => exact ⟨0, Nat.zero_le _, rfl, Kept.refl No w⟩
  case round =>
    obtain ⟨k, hk, rfl, hkr⟩ := hrel
    have HKR : Hid (Kept No w wr) := hkr
    clear hkr
    by_cases hlt : k < n
    · have hkx : k < xs.length := by have := HS.out.1.len; omega
      obtain ⟨_, b, o, rfl, _, e0, e1, e2, e3⟩ := HS.out.1.gs4 hkx
      obtain ⟨_, b2, o2, rfl, _, d0, d1, d2, d3⟩ := HS.out.2.gs4 hkx
      generalize (gs xs k).p = yp at *
      generalize (gs xs k).b = yb at *
      generalize (gs xs k).o = yo at *
      generalize (gs xs k).q = yq at *
      have L1 : Hid (∀ w5, Kept No w w5 → (Instr.loadAt 36 (.pointer (some ⟨b, o + k * 4, none⟩))).run Tryz.prog w5 = .ok (.agg #[.int .i64 yp, .int .i64 yb, .int .i64 yo, .int .i64 yq]) w5) := fun w5 h5 => ldS w5 b (o + k * 4) yp yb yo yq (h5.cell e0 (fun h => h)) (h5.cell e1 (fun h => h)) (h5.cell e2 (fun h => h)) (h5.cell e3 (fun h => h))
      have L2 : Hid (∀ w5, Kept No w w5 → (Instr.loadAt 36 (.pointer (some ⟨b2, o2 + k * 4, none⟩))).run Tryz.prog w5 = .ok (.agg #[.int .i64 yp, .int .i64 yb, .int .i64 yo, .int .i64 yq]) w5) := fun w5 h5 => ldS w5 b2 (o2 + k * 4) yp yb yo yq (h5.cell d0 (fun h => h)) (h5.cell d1 (fun h => h)) (h5.cell d2 (fun h => h)) (h5.cell d3 (fun h => h))
      clear e0 e1 e2 e3 d0 d1 d2 d3
      go_upto_region 6 with fail
      refine wp_region_kept w (by kernel_rfl) (by kernel_rfl) HKR.out ?_
      refine BigFrame.wpQuiet_want rfl (fun KK hKK => ?_)
      refine quiet_val' (fun w5 hw5 => er_mv _ rfl (.slice (some ⟨b, o, none⟩) n c) rfl) ?_
      refine hKK _ ?_
      clear hKK KK
      simp only [Act.put, List.setIfInBounds_toArray, List.set_cons_zero, List.set_cons_succ]
      refine BigFrame.wpQuiet_want rfl (fun KK hKK => ?_)
      refine quiet_val' (fun w5 hw5 => er_mv _ rfl (.int .i64 k) rfl) ?_
      refine hKK _ ?_
      clear hKK KK
      simp only [Act.put, List.setIfInBounds_toArray, List.set_cons_zero, List.set_cons_succ]
      refine BigFrame.wpQuiet_want rfl (fun KK hKK => ?_)
      refine quiet_val' (fun w5 hw5 => er_idxS _ _ rfl b o n c k hlt (by omega) rfl rfl) ?_
      refine hKK _ ?_
      clear hKK KK
      simp only [Act.put, List.setIfInBounds_toArray, List.set_cons_zero, List.set_cons_succ]
      refine BigFrame.wpQuiet_want rfl (fun KK hKK => ?_)
      refine quiet_val' (fun w5 hw5 => er_ld _ _ rfl _ _ rfl (L1.out w5 hw5)) ?_
      refine hKK _ ?_
      clear hKK KK
      simp only [Act.put, List.setIfInBounds_toArray, List.set_cons_zero, List.set_cons_succ]
      refine BigFrame.wpQuiet_want rfl (fun KK hKK => ?_)
      refine quiet_val' (fun w5 hw5 => er_mv _ rfl (.slice (some ⟨b2, o2, none⟩) n c2) rfl) ?_
      refine hKK _ ?_
      clear hKK KK
      simp only [Act.put, List.setIfInBounds_toArray, List.set_cons_zero, List.set_cons_succ]
      refine BigFrame.wpQuiet_want rfl (fun KK hKK => ?_)
      refine quiet_val' (fun w5 hw5 => er_mv _ rfl (.int .i64 k) rfl) ?_
      refine hKK _ ?_
      clear hKK KK
      simp only [Act.put, List.setIfInBounds_toArray, List.set_cons_zero, List.set_cons_succ]
      refine BigFrame.wpQuiet_want rfl (fun KK hKK => ?_)
      refine quiet_val' (fun w5 hw5 => er_idxS _ _ rfl b2 o2 n c2 k hlt (by omega) rfl rfl) ?_
      refine hKK _ ?_
      clear hKK KK
      simp only [Act.put, List.setIfInBounds_toArray, List.set_cons_zero, List.set_cons_succ]
      refine BigFrame.wpQuiet_want rfl (fun KK hKK => ?_)
      refine quiet_val' (fun w5 hw5 => er_ld _ _ rfl _ _ rfl (L2.out w5 hw5)) ?_
      refine hKK _ ?_
      clear hKK KK
      simp only [Act.put, List.setIfInBounds_toArray, List.set_cons_zero, List.set_cons_succ]
      refine BigFrame.wpQuiet_want rfl (fun KK hKK => ?_)
      refine quiet_val' (fun w5 hw5 => er_neqS _ _ rfl yp yb yo yq rfl rfl) ?_
      refine hKK _ ?_
      clear hKK KK
      simp only [Act.put, List.setIfInBounds_toArray, List.set_cons_zero, List.set_cons_succ]
      refine wpQuiet_nil ?_
      intro w8 hw8
      have HW8 : Hid (Kept No w w8) := hw8
      clear hw8 L1 L2 HKR
      go_wp2
      go_roundw
      case rel => exact ⟨k + 1, by omega, by go_num, HW8.out⟩
      case measure => simp [intOf]; omega
    · have hke : k = n := by omega
      subst hke
      go_wp2
      go_ret
      exact ⟨rfl, HKR.out⟩
end Go.Proofs.YtffgcijicmfmlaaGreatDoor
