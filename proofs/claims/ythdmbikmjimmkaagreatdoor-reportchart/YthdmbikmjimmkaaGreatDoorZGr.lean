/-
  The places by what their parts of a million leave over.
-/
import Derived.Test.YthdmbikmjimmkaaGreatDoorZSta
import Derived.Test.YthdmbikmjimmkaaGreatDoorZUs
namespace Go.Proofs.YthdmbikmjimmkaaGreatDoor
open Go.RowKit Go.Shelf Plain
set_option linter.unusedVariables false
set_option linter.unusedSimpArgs false
set_option maxRecDepth 100000

/-- what a place's part leaves over -/
def rmK (f : Nat → Int) (H : Int) (i : Nat) : Int := (f i * 1000000) % H
theorem cvK_cmp (f : Nat → Int) (H : Int) (x y : Nat) : (if rmK f H y < rmK f H x then (-1 : Int) else if rmK f H y > rmK f H x then 1 else 0) = cvK (rmK f H) x y := rfl
/-- the two boxes and the row of counts -/
structure Cnb (w : World) (b1 b2 gc n cc : Nat) (f : Nat → Int) (H : Int) : Prop where
  s : w.cell? ⟨b1, 0, none⟩ = some (.slice (some ⟨gc, 0, none⟩) n cc)
  h : w.cell? ⟨b2, 0, none⟩ = some (.int .i64 H)
  c : Cw w gc n f
theorem Cnb.kept {w w' : World} {G : Nat → Prop} {b1 b2 gc n cc : Nat} {f : Nat → Int} {H : Int} (h : Cnb w b1 b2 gc n cc f H) (k : Kept G w w') (h1 : ¬ G b1) (h2 : ¬ G b2) (h3 : ¬ G gc) : Cnb w' b1 b2 gc n cc f H :=
  ⟨k.cell h.s h1, k.cell h.h h2, h.c.kept k h3⟩
section
variable {o : Oper} {a : Act} {w : World}
theorem er_remI (x y : Operand) (ho : o.op = .binOp .rem 3 x y 3) (k l r : Int) (hx : a.eval x = .int .i64 k) (hy : a.eval y = .int .i64 l) (hl : l ≠ 0) (hr : Int.tmod k l = r) : (execOp a.eval o).run Tryz.prog w = .ok (.value (.int .i64 r)) w := by
  subst hr
  simp only [execOp, ho, hx, hy]
  simp [go_sem, hl]
theorem er_mulI (x y : Operand) (ho : o.op = .binOp .mul 3 x y 3) (k l r : Int) (hx : a.eval x = .int .i64 k) (hy : a.eval y = .int .i64 l) (hr : wrap64 (k * l) = r) : (execOp a.eval o).run Tryz.prog w = .ok (.value (.int .i64 r)) w := by
  subst hr
  simp only [execOp, ho, hx, hy]; simp [go_sem, w64i]
theorem er_ldFn (x : Operand) (ho : o.op = .load 106 x) (g off : Nat) (v : Value) (hx : a.eval x = .pointer (some ⟨g, off, none⟩)) (hr : w.cell? ⟨g, off, none⟩ = some v) : (execOp a.eval o).run Tryz.prog w = .ok (.value v) w := by
  simp only [execOp, ho, hx]; simp [go_sem, hr]
theorem er_call1 (x z : Operand) (ho : o.op = .call { callee := .value z, args := #[x], argTypes := #[3] }) (f : Nat) (lb : Array Value) (u : Value) (hz : a.eval z = .func (.func f) #[] lb) (hx : a.eval x = u) (eg : ∀ args w, (callFunc f args).run Tryz.prog w = .ok (.enter f args) w) : (execOp a.eval o).run Tryz.prog w = .ok (.enter f (#[u] ++ lb)) w := by
  generalize a.eval = ev at hx hz ⊢
  simp [execOp, ho, go_sem, resolve, hx, hz, eg]
theorem er_ccmp (x y : Operand) (ho : o.op = .call { callee := .value (.func 53), args := #[x, y], argTypes := #[3, 3] }) (u v : Value) (hx : a.eval x = u) (hy : a.eval y = v) : (execOp a.eval o).run Tryz.prog w = .ok (.enter 53 #[u, v]) w := by
  subst hx hy
  simp [execOp, ho, go_sem, Act.eval]
end
theorem quiet_call1 {C : World → Prop} {a : Act} {o : Oper} {K : Act → Prop} (x z : Operand) (ho : o.op = .call { callee := .value z, args := #[x], argTypes := #[3] }) (f : Nat) (lb : Array Value) (u r : Value) (hz : a.eval z = .func (.func f) #[] lb) (hx : a.eval x = u) (eg : ∀ args w, (callFunc f args).run Tryz.prog w = .ok (.enter f args) w)
    (hc : ∀ w, C w → Calls Tryz.prog f (#[u] ++ lb) w fun e w'' => e = .returned r ∧ C w'') (hk : K (a.put o.dst r)) : o.quiet Tryz.prog a C K :=
  quiet_call' (f := f) (args := #[u] ++ lb) (fun w => er_call1 x z ho f lb u hz hx eg) hc hk
theorem quiet_ccmp {C : World → Prop} {a : Act} {o : Oper} {K : Act → Prop} (x y : Operand) (ho : o.op = .call { callee := .value (.func 53), args := #[x, y], argTypes := #[3, 3] }) (u v r : Value) (hx : a.eval x = u) (hy : a.eval y = v)
    (hc : ∀ w, C w → Calls Tryz.prog 53 #[u, v] w fun e w'' => e = .returned r ∧ C w'') (hk : K (a.put o.dst r)) : o.quiet Tryz.prog a C K :=
  quiet_call' (f := 53) (args := #[u, v]) (fun w => er_ccmp x y ho u v hx hy) hc hk

set_option maxHeartbeats 4000000 in
theorem rem_any {b1 b2 gc n cc x : Nat} {f : Nat → Int} {H : Int} (w : World) (h : Cnb w b1 b2 gc n cc f H) (hx : x < n) (hn : n ≤ 1000) (hH : 1 ≤ H) (hf : 0 ≤ f x ∧ f x ≤ 1099511627776) :
    Calls Tryz.prog 50 #[.int .i64 (x : Int), .pointer (some ⟨b1, 0, none⟩), .pointer (some ⟨b2, 0, none⟩)] w fun e w' => e = .returned (.int .i64 (rmK f H x)) ∧ Kept No w w' := by
  have h1 := h.s
  have h2 := h.h
  have h3 := h.c.at' x hx
  have hx2 : (x : Int) < (n : Int) := by omega
  have hn2 : (n : Int) ≤ 1000 := by omega
  have hR : Hid (rmK f H x = Int.tmod (f x * 1000000) H) := by
    show rmK f H x = _
    unfold rmK
    rw [Int.tmod_eq_emod_of_nonneg (by omega)]
  obtain ⟨v, hv⟩ : ∃ v, v = f x := ⟨_, rfl⟩
  rw [← hv] at h3 hf hR
  have hm : v * 1000000 ≤ 1099511627776000000 := by omega
  have hm0 : 0 ≤ v * 1000000 := by omega
  obtain ⟨m, hmm⟩ : ∃ m, m = v * 1000000 := ⟨_, rfl⟩
  have HM : Hid (wrap64 (v * 1000000) = m) := by
    show wrap64 _ = _
    rw [← hmm]
    rw [← hmm] at hm hm0
    unfold wrap64; omega
  have HT : Hid (Int.tmod m H = Int.tmod (v * 1000000) H ∧ H ≠ 0) := ⟨by rw [hmm], by omega⟩
  have HHH : Hid (∀ W, Kept No w W → W.cell? ⟨b1, 0, none⟩ = some (.slice (some ⟨gc, 0, none⟩) n cc) ∧ W.cell? ⟨b2, 0, none⟩ = some (.int .i64 H) ∧ W.cell? ⟨gc, x, none⟩ = some (.int .i64 v)) := fun W k => ⟨k.cell h1 (fun h => h), k.cell h2 (fun h => h), k.cell h3 (fun h => h)⟩
  have HI : Hid (x < n ∧ n ≤ 9223372036854775807) := ⟨hx, by omega⟩
  clear h hv hf hm hm0 hH hmm h1 h2 h3 hx hn hx2 hn2
  go_enter Tryz.func50, Tryz.ntmps50
  go_upto_region 1 with fail
  refine wp_region_kept w (by kernel_rfl) (by kernel_rfl) (Kept.refl No w) ?_
  refine BigFrame.wpQuiet_want rfl (fun KQ hKQ => ?_)
  refine quiet_val' (fun w5 hw5 => er_ldis _ rfl b1 0 (.slice (some ⟨gc, 0, none⟩) n cc) rfl (HHH.out w5 hw5).1) ?_
  refine hKQ _ ?_
  clear hKQ KQ
  simp only [Act.put, List.setIfInBounds_toArray, List.set_cons_zero, List.set_cons_succ]
  refine BigFrame.wpQuiet_want rfl (fun KQ hKQ => ?_)
  refine quiet_val' (fun w5 hw5 => er_mv _ rfl (.int .i64 (x : Int)) rfl) ?_
  refine hKQ _ ?_
  clear hKQ KQ
  simp only [Act.put, List.setIfInBounds_toArray, List.set_cons_zero, List.set_cons_succ]
  refine BigFrame.wpQuiet_want rfl (fun KQ hKQ => ?_)
  refine quiet_val' (fun w5 hw5 => er_ixi _ _ rfl gc n cc x HI.out.1 HI.out.2 rfl rfl) ?_
  refine hKQ _ ?_
  clear hKQ KQ
  simp only [Act.put, List.setIfInBounds_toArray, List.set_cons_zero, List.set_cons_succ]
  refine BigFrame.wpQuiet_want rfl (fun KQ hKQ => ?_)
  refine quiet_val' (fun w5 hw5 => er_ldI _ rfl gc x (.int .i64 v) rfl (HHH.out w5 hw5).2.2) ?_
  refine hKQ _ ?_
  clear hKQ KQ
  simp only [Act.put, List.setIfInBounds_toArray, List.set_cons_zero, List.set_cons_succ]
  refine BigFrame.wpQuiet_want rfl (fun KQ hKQ => ?_)
  refine quiet_val' (fun w5 hw5 => er_mulI _ _ rfl v 1000000 m rfl rfl HM.out) ?_
  refine hKQ _ ?_
  clear hKQ KQ
  simp only [Act.put, List.setIfInBounds_toArray, List.set_cons_zero, List.set_cons_succ]
  refine BigFrame.wpQuiet_want rfl (fun KQ hKQ => ?_)
  refine quiet_val' (fun w5 hw5 => er_ldI _ rfl b2 0 (.int .i64 H) rfl (HHH.out w5 hw5).2.1) ?_
  refine hKQ _ ?_
  clear hKQ KQ
  simp only [Act.put, List.setIfInBounds_toArray, List.set_cons_zero, List.set_cons_succ]
  refine BigFrame.wpQuiet_want rfl (fun KQ hKQ => ?_)
  refine quiet_val' (fun w5 hw5 => er_remI _ _ rfl m H (Int.tmod (v * 1000000) H) rfl rfl HT.out.2 HT.out.1) ?_
  refine hKQ _ ?_
  clear hKQ KQ
  simp only [Act.put, List.setIfInBounds_toArray, List.set_cons_zero, List.set_cons_succ]
  refine BigFrame.wpQuiet_want rfl (fun KQ hKQ => ?_)
  refine quiet_val' (fun w5 hw5 => er_as _ rfl (.int .i64 (Int.tmod (v * 1000000) H)) rfl) ?_
  refine hKQ _ ?_
  clear hKQ KQ
  simp only [Act.put, List.setIfInBounds_toArray, List.set_cons_zero, List.set_cons_succ]
  refine wpQuiet_nil ?_
  intro w9 k9
  go_wp2
  go_ret
  exact ⟨by rw [hR.out]; rfl, k9⟩

/-- the remainders' variable: its box holds the function -/
def Rfn (w : World) (b3 b1 b2 : Nat) : Prop := w.cell? ⟨b3, 0, none⟩ = some (.func (.func 50) #[] #[.pointer (some ⟨b1, 0, none⟩), .pointer (some ⟨b2, 0, none⟩)])
theorem eg_rem : Tyg 50 := enters_of Tryz.func50 (by kernel_rfl) rfl
theorem eg_cmp : Tyg 52 := enters_of Tryz.func52 (by kernel_rfl) rfl
set_option maxHeartbeats 4000000 in
theorem cmp_any {b1 b2 b3 gc n cc x y : Nat} {f : Nat → Int} {H : Int} (w : World) (h : Cnb w b1 b2 gc n cc f H) (h3 : Rfn w b3 b1 b2) (hx : x < n) (hy : y < n) (hn : n ≤ 1000) (hH : 1 ≤ H) (hf : ∀ i, i < n → 0 ≤ f i ∧ f i ≤ 1099511627776) :
    Calls Tryz.prog 52 (#[.int .i64 (x : Int), .int .i64 (y : Int)] ++ #[.pointer (some ⟨b3, 0, none⟩)]) w fun e w' => e = .returned (.int .i64 (cvK (rmK f H) x y)) ∧ Kept No w w' := by
  have HA : Hid (∀ (W : World) (z : Nat), Kept No w W → z < n → Calls Tryz.prog 50 (#[.int .i64 (z : Int)] ++ #[.pointer (some ⟨b1, 0, none⟩), .pointer (some ⟨b2, 0, none⟩)]) W fun e w' => e = .returned (.int .i64 (rmK f H z)) ∧ Kept No W w') := fun W z k hz => rem_any W (h.kept k (fun h => h) (fun h => h) (fun h => h)) hz hn hH (hf z hz)
  have HB : Hid (∀ W, Kept No w W → W.cell? ⟨b3, 0, none⟩ = some (.func (.func 50) #[] #[.pointer (some ⟨b1, 0, none⟩), .pointer (some ⟨b2, 0, none⟩)])) := fun W k => k.cell h3 (fun h => h)
  have HXY : Hid (x < n ∧ y < n) := ⟨hx, hy⟩
  have HCP : Hid (∀ W, Calls Tryz.prog 53 #[.int .i64 (rmK f H y), .int .i64 (rmK f H x)] W fun ex w' => ex = .returned (.int .i64 (cvK (rmK f H) x y)) ∧ w' = W) := fun W => compare_any _ _ W
  clear h h3 hx hy hn hH hf
  show Calls Tryz.prog 52 #[.int .i64 (x : Int), .int .i64 (y : Int), .pointer (some ⟨b3, 0, none⟩)] w _
  go_enter Tryz.func52, Tryz.ntmps52
  go_upto_region 1 with fail
  refine wp_region_kept w (by kernel_rfl) (by kernel_rfl) (Kept.refl No w) ?_
  refine BigFrame.wpQuiet_want rfl (fun KQ hKQ => ?_)
  refine quiet_val' (fun w5 hw5 => er_ldFn _ rfl b3 0 (.func (.func 50) #[] #[.pointer (some ⟨b1, 0, none⟩), .pointer (some ⟨b2, 0, none⟩)]) rfl (HB.out w5 hw5)) ?_
  refine hKQ _ ?_
  clear hKQ KQ
  simp only [Act.put, List.setIfInBounds_toArray, List.set_cons_zero, List.set_cons_succ]
  refine BigFrame.wpQuiet_want rfl (fun KQ hKQ => ?_)
  refine quiet_val' (fun w5 hw5 => er_mv _ rfl (.int .i64 (y : Int)) rfl) ?_
  refine hKQ _ ?_
  clear hKQ KQ
  simp only [Act.put, List.setIfInBounds_toArray, List.set_cons_zero, List.set_cons_succ]
  refine BigFrame.wpQuiet_want rfl (fun KQ hKQ => ?_)
  refine quiet_call1 _ _ rfl 50 #[.pointer (some ⟨b1, 0, none⟩), .pointer (some ⟨b2, 0, none⟩)] (.int .i64 (y : Int)) (.int .i64 (rmK f H y)) rfl rfl eg_rem (fun w5 hw5 => (HA.out w5 y hw5 HXY.out.2).mono (fun e w6 he => ⟨he.1, hw5.trans he.2 (fun _ x => x.elim)⟩)) ?_
  refine hKQ _ ?_
  clear hKQ KQ
  simp only [Act.put, List.setIfInBounds_toArray, List.set_cons_zero, List.set_cons_succ]
  refine BigFrame.wpQuiet_want rfl (fun KQ hKQ => ?_)
  refine quiet_val' (fun w5 hw5 => er_ldFn _ rfl b3 0 (.func (.func 50) #[] #[.pointer (some ⟨b1, 0, none⟩), .pointer (some ⟨b2, 0, none⟩)]) rfl (HB.out w5 hw5)) ?_
  refine hKQ _ ?_
  clear hKQ KQ
  simp only [Act.put, List.setIfInBounds_toArray, List.set_cons_zero, List.set_cons_succ]
  refine BigFrame.wpQuiet_want rfl (fun KQ hKQ => ?_)
  refine quiet_val' (fun w5 hw5 => er_mv _ rfl (.int .i64 (x : Int)) rfl) ?_
  refine hKQ _ ?_
  clear hKQ KQ
  simp only [Act.put, List.setIfInBounds_toArray, List.set_cons_zero, List.set_cons_succ]
  refine BigFrame.wpQuiet_want rfl (fun KQ hKQ => ?_)
  refine quiet_call1 _ _ rfl 50 #[.pointer (some ⟨b1, 0, none⟩), .pointer (some ⟨b2, 0, none⟩)] (.int .i64 (x : Int)) (.int .i64 (rmK f H x)) rfl rfl eg_rem (fun w5 hw5 => (HA.out w5 x hw5 HXY.out.1).mono (fun e w6 he => ⟨he.1, hw5.trans he.2 (fun _ x => x.elim)⟩)) ?_
  refine hKQ _ ?_
  clear hKQ KQ
  simp only [Act.put, List.setIfInBounds_toArray, List.set_cons_zero, List.set_cons_succ]
  refine BigFrame.wpQuiet_want rfl (fun KQ hKQ => ?_)
  refine quiet_ccmp _ _ rfl (.int .i64 (rmK f H y)) (.int .i64 (rmK f H x)) (.int .i64 (cvK (rmK f H) x y)) rfl rfl (fun w5 hw5 => (HCP.out w5).mono (fun e w6 he => ⟨he.1, by rw [he.2]; exact hw5⟩)) ?_
  refine hKQ _ ?_
  clear hKQ KQ
  simp only [Act.put, List.setIfInBounds_toArray, List.set_cons_zero, List.set_cons_succ]
  refine BigFrame.wpQuiet_want rfl (fun KQ hKQ => ?_)
  refine quiet_val' (fun w5 hw5 => er_as _ rfl (.int .i64 (cvK (rmK f H) x y)) rfl) ?_
  refine hKQ _ ?_
  clear hKQ KQ
  simp only [Act.put, List.setIfInBounds_toArray, List.set_cons_zero, List.set_cons_succ]
  refine wpQuiet_nil ?_
  intro w9 k9
  go_wp2
  go_ret
  exact ⟨rfl, k9⟩
end Go.Proofs.YthdmbikmjimmkaaGreatDoor
