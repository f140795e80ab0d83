/-
  One text: ZIns.
-/
import Derived.Test.YtibmgpinfdcaoaaGreatDoorG09
import Derived.Test.YtibmgpinfdcaoaaGreatDoorHOHeld
import Derived.Deep.RegionHeld
import Derived.BigFrame
namespace Go.Proofs.YtibmgpinfdcaoaaGreatDoor
open Go.RowKit Go.Shelf Plain
set_option linter.unusedVariables false
set_option linter.unusedSimpArgs false
set_option maxRecDepth 100000

section
variable {o : Oper} {a : Act} {w : World}
theorem er_gtI (x y : Operand) (ho : o.op = .binOp .gtr 3 x y 3) (k l : Int) (b : Bool) (hx : a.eval x = .int .i64 k) (hy : a.eval y = .int .i64 l) (hb : decide (l < k) = b) : (execOp a.eval o).run Tryz.prog w = .ok (.value (.bool b)) w := by
  subst hb; simp only [execOp, ho, hx, hy]; simp [go_sem]
theorem er_ltI (x y : Operand) (ho : o.op = .binOp .lss 3 x y 3) (k l : Int) (b : Bool) (hx : a.eval x = .int .i64 k) (hy : a.eval y = .int .i64 l) (hb : decide (k < l) = b) : (execOp a.eval o).run Tryz.prog w = .ok (.value (.bool b)) w := by
  subst hb; simp only [execOp, ho, hx, hy]; simp [go_sem]
theorem er_notB (x : Operand) (ho : o.op = .unOp .not 4 x) (b c : Bool) (hx : a.eval x = .bool b) (hc : (!b) = c) : (execOp a.eval o).run Tryz.prog w = .ok (.value (.bool c)) w := by
  subst hc; simp only [execOp, ho, hx]; simp [go_sem]
theorem er_pkT (c x y : Operand) (ho : o.op = .pick c x y) (v : Value) (hc : a.eval c = .bool true) (hx : a.eval x = v) : (execOp a.eval o).run Tryz.prog w = .ok (.value v) w := by
  simp only [execOp, ho, hc, hx]; simp [go_sem]
theorem er_ixi (x y : Operand) (ho : o.op = .indexAddr 25 x y) (b n c d : Nat) (hd : d < n) (hn : n ≤ 9223372036854775807) (hx : a.eval x = .slice (some ⟨b, 0, none⟩) n c) (hy : a.eval y = .int .i64 d) : (execOp a.eval o).run Tryz.prog w = .ok (.value (.pointer (some ⟨b, d, none⟩))) w := by
  simp only [execOp, ho, hx, hy]
  simp [go_sem, add_none]
  omega
theorem er_ldI (x : Operand) (ho : o.op = .load 3 x) (g off : Nat) (v : Value) (hx : a.eval x = .pointer (some ⟨g, off, none⟩)) (hr : w.cell? ⟨g, off, none⟩ = some v) : (execOp a.eval o).run Tryz.prog w = .ok (.value v) w := by
  simp only [execOp, ho, hx]; simp [go_sem, hr]
theorem er_cmp (x y z : Operand) (ho : o.op = .call { callee := .value z, args := #[x, y], argTypes := #[3, 3] }) (f : Nat) (lb : Array Value) (u v : Value) (hz : a.eval z = .func (.func f) #[] lb) (hx : a.eval x = u) (hy : a.eval y = v) (eg : ∀ args w, (callFunc f args).run Tryz.prog w = .ok (.enter f args) w) : (execOp a.eval o).run Tryz.prog w = .ok (.enter f (#[u, v] ++ lb)) w := by
  generalize a.eval = ev at hx hy hz ⊢
  simp [execOp, ho, go_sem, resolve, hx, hy, hz, eg]
end
theorem quiet_cmp {C : World → Prop} {a : Act} {o : Oper} {K : Act → Prop} (x y z : Operand) (ho : o.op = .call { callee := .value z, args := #[x, y], argTypes := #[3, 3] }) (f : Nat) (lb : Array Value) (u v r : Value) (hz : a.eval z = .func (.func f) #[] lb) (hx : a.eval x = u) (hy : a.eval y = v) (eg : ∀ args w, (callFunc f args).run Tryz.prog w = .ok (.enter f args) w)
    (hc : ∀ w, C w → Calls Tryz.prog f (#[u, v] ++ lb) w fun e w'' => e = .returned r ∧ C w'') (hk : K (a.put o.dst r)) : o.quiet Tryz.prog a C K :=
  quiet_call' (f := f) (args := #[u, v] ++ lb) (fun w => er_cmp x y z ho f lb u v hz hx hy eg) hc hk
def cvK (K : Nat → Int) (x y : Nat) : Int := if K y < K x then -1 else if K x < K y then 1 else 0
theorem cvK_neg (K : Nat → Int) (x y : Nat) : decide (cvK K x y < 0) = decide (K y < K x) := by
  unfold cvK
  by_cases h : K y < K x
  · rw [if_pos h, decide_eq_true h]; rfl
  · rw [if_neg h, decide_eq_false h]; split <;> rfl
/-- what is asked of the comparison -/
def CmpK (w0 : World) (g f : Nat) (lb : Array Value) (N : Nat) (K : Nat → Int) : Prop :=
  ∀ W, Kept (fun k => k = g) w0 W → ∀ x y : Nat, x < N → y < N → Calls Tryz.prog f (#[.int .i64 (x : Int), .int .i64 (y : Int)] ++ lb) W fun e w' => e = .returned (.int .i64 (cvK K x y)) ∧ Kept No W w'
theorem CmpK.on {w0 w1 : World} {g f N : Nat} {lb : Array Value} {K : Nat → Int} (h : CmpK w0 g f lb N K) (k : Kept (fun k => k = g) w0 w1) : CmpK w1 g f lb N K := fun W kw => h W (k.trans kw (fun _ h => .inl h))
/-- the row of places -/
def Rp (w : World) (g n : Nat) (D : Nat → Nat) : Prop := Cw w g n (fun i => (D i : Int))
theorem Rp.swap {w : World} {g n i j : Nat} {D : Nat → Nat} (h : Rp w g n D) : Rp ((w.setCell ⟨g, i, none⟩ (.int .i64 (D j))).setCell ⟨g, j, none⟩ (.int .i64 (D i))) g n (swD D i j) := by
  have h1 := (Cw.set h i (D j)).set j (D i)
  refine h1.congr' (fun t ht => ?_)
  unfold swD upI
  by_cases e1 : t = j
  · subst e1
    rw [if_pos rfl]
    by_cases e2 : t = i
    · subst e2; rw [if_pos rfl]
    · rw [if_neg e2, if_pos rfl]
  · rw [if_neg e1]
    by_cases e2 : t = i
    · rw [if_pos e2, if_pos e2]
    · rw [if_neg e2, if_neg e2, if_neg e1]

set_option maxHeartbeats 8000000 in
theorem ins_any {w0 : World} {g f n a b : Nat} {pb : Nat} {lb : Array Value} {N : Nat} {K : Nat → Int} {D : Nat → Nat} (hab : a ≤ b) (hb : b ≤ n) (hn : n ≤ 1000) (hlb : lb = #[.pointer (some ⟨pb, 0, none⟩)]) (hc : CmpK w0 g f lb N K) (hR : Rp w0 g n D) (hN : ∀ i, i < n → D i < N) (hU : Up a b D) (hE : ∀ args w, (callFunc f args).run Tryz.prog w = .ok (.enter f args) w) :
    Calls Tryz.prog 76 #[.slice (some ⟨g, 0, none⟩) n n, .int .i64 (a : Int), .int .i64 (b : Int), .func (.func f) #[] lb] w0 fun e w' => e = .returned (.tuple #[]) ∧ Kept (fun k => k = g) w0 w' ∧ ∃ D', Rp w' g n D' ∧ Pm a b D D' ∧ So K a b D' := by
  subst hlb
  have HC : Hid (CmpK w0 g f #[.pointer (some ⟨pb, 0, none⟩)] N K) := hc
  have HNN : Hid (∀ i, i < n → D i < N) := hN
  have HU : Hid (Up a b D) := hU
  have HEn : Hid (∀ args w, (callFunc f args).run Tryz.prog w = .ok (.enter f args) w) := hE
  have HR0 : Hid (Rp w0 g n D) := hR
  have HAB : Hid (a ≤ b ∧ b ≤ n ∧ n ≤ 1000) := ⟨hab, hb, hn⟩
  clear hc hN hU hE hR
  go_enter Tryz.func76, Tryz.ntmps76
  go_wp2
  go_loopw [8] (fun i wr => ∃ (k : Nat) (D' : Nat → Nat), a < k ∧ (k ≤ b ∨ k = a + 1) ∧ i = .int .i64 k ∧ Kept (fun k => k = g) w0 wr ∧ Rp wr g n D' ∧ Pm a (min k b) D D' ∧ So K a (min k b) D') (fun i _ => b - (intOf i).toNat)
  case atStart => exact ⟨a + 1, D, by omega, .inr rfl, by go_num, Kept.refl _ _, HR0.out, Pm.refl _ _ _, fun s t s1 st t1 => by omega⟩
  case round =>
    obtain ⟨k, D1, hk1, hk2, rfl, K1, hR1, hP1, hS1⟩ := hrel
    have HJ : Hid (Kept (fun k => k = g) w0 wr ∧ Rp wr g n D1 ∧ Pm a (min k b) D D1 ∧ So K a (min k b) D1) := ⟨K1, hR1, hP1, hS1⟩
    have hab2 := HAB.out
    clear K1 hR1 hP1 hS1
    by_cases hlt : k < b
    · have HJ2 : Hid (Pm a k D D1 ∧ So K a k D1) := by
        have := HJ.out.2.2
        rw [show min k b = k by omega] at this
        exact this
      have HL : Hid (∀ t, a ≤ t → t < k → D1 t < D1 k) := fun t t1 t2 => by
        obtain ⟨s, s1, s2, e⟩ := HJ2.out.1.mem t t1 t2
        rw [e, HJ2.out.1.oth k (by omega)]
        exact HU.out s k s1 s2 hlt
      have HJ3 : Hid (Kept (fun k => k = g) w0 wr ∧ Rp wr g n D1) := ⟨HJ.out.1, HJ.out.2.1⟩
      clear HJ
      generalize wr = wo at *
      have g1 : (k : Int) < (b : Int) := by omega
      clear hab2
      go_wp2
      go_loopw [9] (fun j wr => ∃ (q : Nat) (D2 : Nat → Nat), j = .int .i64 q ∧ Ins1 K a k q D1 D2 ∧ Kept (fun k => k = g) w0 wr ∧ Rp wr g n D2) (fun j _ => (intOf j).toNat)
      case atStart => exact ⟨k, D1, rfl, Ins1.start HJ2.out.2 HL.out (by omega), HJ3.out.1, HJ3.out.2⟩
      case round =>
        obtain ⟨q, D2, rfl, hI, K2, hR2⟩ := hrel
        have HI : Hid (Ins1 K a k q D1 D2 ∧ Kept (fun k => k = g) w0 wr ∧ Rp wr g n D2) := ⟨hI, K2, hR2⟩
        clear hI K2 hR2
        by_cases hq : a < q
        · obtain ⟨z, rfl⟩ : ∃ z, q = z + 1 := ⟨q - 1, by omega⟩
          have hab3 := HAB.out
          have hz : z < n ∧ z + 1 < n := by have := HI.out.1.ji; omega
          have HV : Hid (∀ t, t < n → D2 t < N) := fun t ht => by
            by_cases hc : a ≤ t ∧ t < k + 1
            · obtain ⟨s, s1, s2, e⟩ := HI.out.1.pm.mem t hc.1 hc.2
              rw [e]
              by_cases hc2 : s < k
              · obtain ⟨r, r1, r2, e2⟩ := HJ2.out.1.mem s s1 hc2
                rw [e2]; exact HNN.out r (by omega)
              · rw [HJ2.out.1.oth s (by omega)]; exact HNN.out s (by omega)
            · rw [HI.out.1.pm.oth t (by omega), HJ2.out.1.oth t (by omega)]
              exact HNN.out t ht
          have c0 : ∀ W, Kept No wr W → W.cell? ⟨g, z, none⟩ = some (.int .i64 (D2 z)) := fun W k => (Cw.keep HI.out.2.2 k).at' z hz.1
          have c1 : ∀ W, Kept No wr W → W.cell? ⟨g, z + 1, none⟩ = some (.int .i64 (D2 (z + 1))) := fun W k => (Cw.keep HI.out.2.2 k).at' (z + 1) hz.2
          have HCM : Hid (∀ W, Kept No wr W → Calls Tryz.prog f (#[.int .i64 (D2 (z + 1) : Int), .int .i64 (D2 z : Int)] ++ #[.pointer (some ⟨pb, 0, none⟩)]) W fun e w' => e = .returned (.int .i64 (cvK K (D2 (z + 1)) (D2 z))) ∧ Kept No W w') := fun W k => HC.out W (HI.out.2.1.trans k (fun _ h => h.elim)) _ _ (HV.out _ hz.2) (HV.out _ hz.1)
          have e1 : wrap64 ((z : Int) + 1 - 1) = (z : Int) := by unfold wrap64; omega
          have HE1 : Hid (wrap64 ((z : Int) + 1 - 1) = (z : Int)) := e1
          have g2 : decide ((a : Int) < (z : Int) + 1) = true := decide_eq_true (by omega)
          have HG2 : Hid (decide ((a : Int) < (z : Int) + 1) = true) := g2
          have HZ : Hid (z < n ∧ z + 1 < n ∧ n ≤ 9223372036854775807) := ⟨hz.1, hz.2, by omega⟩
          have HCC : Hid ((∀ W, Kept No wr W → W.cell? ⟨g, z, none⟩ = some (.int .i64 (D2 z))) ∧ (∀ W, Kept No wr W → W.cell? ⟨g, z + 1, none⟩ = some (.int .i64 (D2 (z + 1))))) := ⟨c0, c1⟩
          clear hz hab3 e1 g2 c0 c1
          try simp only [Int.natCast_add, Int.natCast_one]
          go_upto_region 4 with fail
          refine wp_region_kept wr (by kernel_rfl) (by kernel_rfl) (Kept.refl No wr) ?_
          refine BigFrame.wpQuiet_want rfl (fun KQ hKQ => ?_)
          refine quiet_val' (fun w5 hw5 => er_mv _ rfl (.int .i64 ((z : Int) + 1)) rfl) ?_
          refine hKQ _ ?_
          clear hKQ KQ
          simp only [Act.put, List.setIfInBounds_toArray, List.set_cons_zero, List.set_cons_succ]
          refine BigFrame.wpQuiet_want rfl (fun KQ hKQ => ?_)
          refine quiet_val' (fun w5 hw5 => er_mv _ rfl (.int .i64 (a : Int)) rfl) ?_
          refine hKQ _ ?_
          clear hKQ KQ
          simp only [Act.put, List.setIfInBounds_toArray, List.set_cons_zero, List.set_cons_succ]
          refine BigFrame.wpQuiet_want rfl (fun KQ hKQ => ?_)
          refine quiet_val' (fun w5 hw5 => er_gtI _ _ rfl ((z : Int) + 1) (a : Int) true rfl rfl HG2.out) ?_
          refine hKQ _ ?_
          clear hKQ KQ
          simp only [Act.put, List.setIfInBounds_toArray, List.set_cons_zero, List.set_cons_succ]
          refine BigFrame.wpQuiet_want rfl (fun KQ hKQ => ?_)
          refine quiet_val' (fun w5 hw5 => er_mv _ rfl (.bool true) rfl) ?_
          refine hKQ _ ?_
          clear hKQ KQ
          simp only [Act.put, List.setIfInBounds_toArray, List.set_cons_zero, List.set_cons_succ]
          refine BigFrame.wpQuiet_want rfl (fun KQ hKQ => ?_)
          refine quiet_val' (fun w5 hw5 => er_mv _ rfl (.func (.func f) #[] #[.pointer (some ⟨pb, 0, none⟩)]) rfl) ?_
          refine hKQ _ ?_
          clear hKQ KQ
          simp only [Act.put, List.setIfInBounds_toArray, List.set_cons_zero, List.set_cons_succ]
          refine BigFrame.wpQuiet_want rfl (fun KQ hKQ => ?_)
          refine quiet_val' (fun w5 hw5 => er_mv _ rfl (.slice (some ⟨g, 0, none⟩) n n) rfl) ?_
          refine hKQ _ ?_
          clear hKQ KQ
          simp only [Act.put, List.setIfInBounds_toArray, List.set_cons_zero, List.set_cons_succ]
          refine BigFrame.wpQuiet_want rfl (fun KQ hKQ => ?_)
          refine quiet_val' (fun w5 hw5 => er_mv _ rfl (.int .i64 ((z : Int) + 1)) rfl) ?_
          refine hKQ _ ?_
          clear hKQ KQ
          simp only [Act.put, List.setIfInBounds_toArray, List.set_cons_zero, List.set_cons_succ]
          refine BigFrame.wpQuiet_want rfl (fun KQ hKQ => ?_)
          refine quiet_val' (fun w5 hw5 => er_ixi _ _ rfl g n n (z + 1) HZ.out.2.1 HZ.out.2.2 rfl rfl) ?_
          refine hKQ _ ?_
          clear hKQ KQ
          simp only [Act.put, List.setIfInBounds_toArray, List.set_cons_zero, List.set_cons_succ]
          refine BigFrame.wpQuiet_want rfl (fun KQ hKQ => ?_)
          refine quiet_val' (fun w5 hw5 => er_ldI _ rfl g (z + 1) _ rfl (HCC.out.2 w5 hw5)) ?_
          refine hKQ _ ?_
          clear hKQ KQ
          simp only [Act.put, List.setIfInBounds_toArray, List.set_cons_zero, List.set_cons_succ]
          refine BigFrame.wpQuiet_want rfl (fun KQ hKQ => ?_)
          refine quiet_val' (fun w5 hw5 => er_mv _ rfl (.slice (some ⟨g, 0, none⟩) n n) rfl) ?_
          refine hKQ _ ?_
          clear hKQ KQ
          simp only [Act.put, List.setIfInBounds_toArray, List.set_cons_zero, List.set_cons_succ]
          refine BigFrame.wpQuiet_want rfl (fun KQ hKQ => ?_)
          refine quiet_val' (fun w5 hw5 => er_mv _ rfl (.int .i64 ((z : Int) + 1)) rfl) ?_
          refine hKQ _ ?_
          clear hKQ KQ
          simp only [Act.put, List.setIfInBounds_toArray, List.set_cons_zero, List.set_cons_succ]
          refine BigFrame.wpQuiet_want rfl (fun KQ hKQ => ?_)
          refine quiet_val' (fun w5 hw5 => er_sub _ _ rfl ((z : Int) + 1) 1 (z : Int) rfl rfl HE1.out) ?_
          refine hKQ _ ?_
          clear hKQ KQ
          simp only [Act.put, List.setIfInBounds_toArray, List.set_cons_zero, List.set_cons_succ]
          refine BigFrame.wpQuiet_want rfl (fun KQ hKQ => ?_)
          refine quiet_val' (fun w5 hw5 => er_ixi _ _ rfl g n n z HZ.out.1 HZ.out.2.2 rfl rfl) ?_
          refine hKQ _ ?_
          clear hKQ KQ
          simp only [Act.put, List.setIfInBounds_toArray, List.set_cons_zero, List.set_cons_succ]
          refine BigFrame.wpQuiet_want rfl (fun KQ hKQ => ?_)
          refine quiet_val' (fun w5 hw5 => er_ldI _ rfl g z _ rfl (HCC.out.1 w5 hw5)) ?_
          refine hKQ _ ?_
          clear hKQ KQ
          simp only [Act.put, List.setIfInBounds_toArray, List.set_cons_zero, List.set_cons_succ]
          refine BigFrame.wpQuiet_want rfl (fun KQ hKQ => ?_)
          refine quiet_cmp _ _ _ rfl f #[.pointer (some ⟨pb, 0, none⟩)] (.int .i64 (D2 (z + 1) : Int)) (.int .i64 (D2 z : Int)) (.int .i64 (cvK K (D2 (z + 1)) (D2 z))) rfl rfl rfl HEn.out (fun w5 hw5 => (HCM.out w5 hw5).mono (fun e w6 he => ⟨he.1, hw5.trans he.2 (fun _ x => x.elim)⟩)) ?_
          refine hKQ _ ?_
          clear hKQ KQ
          simp only [Act.put, List.setIfInBounds_toArray, List.set_cons_zero, List.set_cons_succ]
          refine BigFrame.wpQuiet_want rfl (fun KQ hKQ => ?_)
          refine quiet_val' (fun w5 hw5 => er_ltI _ _ rfl (cvK K (D2 (z + 1)) (D2 z)) 0 (decide (K (D2 z) < K (D2 (z + 1)))) rfl rfl (cvK_neg _ _ _)) ?_
          refine hKQ _ ?_
          clear hKQ KQ
          simp only [Act.put, List.setIfInBounds_toArray, List.set_cons_zero, List.set_cons_succ]
          refine BigFrame.wpQuiet_want rfl (fun KQ hKQ => ?_)
          refine quiet_val' (fun w5 hw5 => er_pkT _ _ _ rfl (.bool (decide (K (D2 z) < K (D2 (z + 1))))) rfl rfl) ?_
          refine hKQ _ ?_
          clear hKQ KQ
          simp only [Act.put, List.setIfInBounds_toArray, List.set_cons_zero, List.set_cons_succ]
          refine wpQuiet_nil ?_
          intro w9 k9
          have HK9 : Hid (Kept No wr w9) := k9
          clear k9
          by_cases hk : K (D2 z) < K (D2 (z + 1))
          · rw [decide_eq_true hk]
            have c0 := HCC.out.1 w9 HK9.out
            have c1 := HCC.out.2 w9 HK9.out
            have HR9 : Hid (Rp w9 g n D2) := Cw.keep HI.out.2.2 HK9.out
            have hfz := (Cw.keep HI.out.2.2 HK9.out).fz
            have HST : Hid (Ins1 K a k z D1 (swD D2 (z + 1) z)) := HI.out.1.step (by omega) hk
            have HKS : Hid (Kept (fun k => k = g) w0 w9) := HI.out.2.1.trans HK9.out (fun _ h => h.elim)
            have hz1 : (z : Int) + 1 < (n : Int) := by have := HZ.out; omega
            have hz0 : (z : Int) < (n : Int) := by omega
            have e1 : ((z : Int) + 1) - 1 = (z : Int) := by omega
            have hzn : (n : Int) ≤ 1000 := by have := HAB.out; omega
            clear HCC HCM HJ2
            go_upto_region 6 with fail
            go_region
            go_wp2
            go_roundw
            case rel =>
              refine ⟨z, swD D2 (z + 1) z, rfl, HST.out, ?_, ?_⟩
              · exact (((HKS.out.trans kept_set (fun _ h => .inl h)).trans kept_set (fun _ h => .inl h))).drew
              · exact Cw.keep (Rp.swap (i := z + 1) (j := z) HR9.out) ((Kept.refl No _).drew)
            case measure => simp [intOf]
          · rw [decide_eq_false hk]
            have HFI : Hid (So K a (k + 1) D2) := HI.out.1.done (.inr ⟨hq, hk⟩)
            have HFP : Hid (Pm a (k + 1) D D2) := (HJ2.out.1.wide (Nat.le_refl _) (by omega)).trans HI.out.1.pm
            have HKS : Hid (Kept (fun k => k = g) w0 w9) := HI.out.2.1.trans HK9.out (fun _ h => h.elim)
            have HR9 : Hid (Rp w9 g n D2) := Cw.keep HI.out.2.2 HK9.out
            clear HCC HCM HJ2
            go_wp2
            go_roundw
            case rel => exact ⟨k + 1, D2, by omega, .inl (by omega), by go_num, HKS.out, HR9.out, by rw [show min (k + 1) b = k + 1 by omega]; exact HFP.out, by rw [show min (k + 1) b = k + 1 by omega]; exact HFI.out⟩
            case measure => simp [intOf]; omega
        · have hqa : q = a := by have := HI.out.1.ja; omega
          have HFI : Hid (So K a (k + 1) D2) := HI.out.1.done (.inl hqa)
          have HFP : Hid (Pm a (k + 1) D D2) := (HJ2.out.1.wide (Nat.le_refl _) (by omega)).trans HI.out.1.pm
          have HKS : Hid (Kept (fun k => k = g) w0 wr ∧ Rp wr g n D2) := HI.out.2
          have g2 : decide ((a : Int) < (q : Int)) = false := decide_eq_false (by omega)
          have g3 : ¬ (a : Int) < (q : Int) := by omega
          clear HJ2 HI hqa hq
          go_upto_region 4 with fail
          go_quiet (fail)
          go_wp2
          go_roundw
          case rel => exact ⟨k + 1, D2, by omega, .inl (by omega), by go_num, HKS.out.1.drewN _, Cw.keep HKS.out.2 ((Kept.refl No _).drewN _), by rw [show min (k + 1) b = k + 1 by omega]; exact HFP.out, by rw [show min (k + 1) b = k + 1 by omega]; exact HFI.out⟩
          case measure => simp [intOf]; omega
    · have hf : ¬ (k : Int) < (b : Int) := by omega
      have HJ4 : Hid (Pm a b D D1 ∧ So K a b D1) := by
        rcases hk2 with h | h
        · have := HJ.out.2.2
          rw [show min k b = b by omega] at this
          exact this
        · have := HJ.out.2.2
          rw [show min k b = b by omega] at this
          exact this
      have HJ5 : Hid (Kept (fun k => k = g) w0 wr ∧ Rp wr g n D1) := ⟨HJ.out.1, HJ.out.2.1⟩
      clear hab2 HJ
      go_wp2
      go_end0
      exact ⟨rfl, HJ5.out.1, D1, HJ5.out.2, HJ4.out.1, HJ4.out.2⟩
end Go.Proofs.YtibmgpinfdcaoaaGreatDoor
