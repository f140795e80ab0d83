/-
  One text: ZUs, ZGr.
-/
import Derived.Test.YtibmgpinfdcaoaaGreatDoorG09
import Derived.Test.YtibmgpinfdcaoaaGreatDoorG26
import Derived.BigRegion
import Derived.Test.YtibmgpinfdcaoaaGreatDoorG20
namespace Go.Proofs.YtibmgpinfdcaoaaGreatDoor
open Go.RowKit Go.Shelf Plain
set_option linter.unusedVariables false
set_option linter.unusedSimpArgs false
set_option maxRecDepth 100000

theorem spanE_yes {F : Nat → Prop} {a : Option Addr} {c : Nat} {xs : List Srv} (fr be : Nat) (w : World) (hg : Gl w) (h : Sv w F a xs.length c xs) (ht : timF xs xs.length = none) (h1 : fr ≤ be) (h2 : be ≤ 1099511627776) :
    Calls Tryz.prog 18 #[.slice a xs.length c, .int .i64 (fr : Int), .int .i64 (be : Int)] w fun e w' => e = .returned (.int .i64 0) ∧ Kept No w w' := by
  have hc := hyper_any F a xs.length c xs w hg h
  rw [(tim_yes ht).1, (tim_yes ht).2] at hc
  have g0 : ¬ (fr : Int) < 0 := by omega
  have g1 : ¬ (be : Int) < (fr : Int) := by omega
  have g2 : ¬ (1099511627776 : Int) < (be : Int) := by omega
  have k0 : decide ((fr : Int) < 0) = false := decide_eq_false g0
  have k1 : decide ((be : Int) < (fr : Int)) = false := decide_eq_false g1
  have k2 : decide ((1099511627776 : Int) < (be : Int)) = false := decide_eq_false g2
  clear h ht hg h1 h2
  go_enter Tryz.func18, Tryz.ntmps18
  go_wp2_with (go_at_call 24; refine hc.mono ?_; rintro e w1 ⟨rfl, hk1⟩; have HK1 : Hid (Kept No w w1) := hk1; clear hk1 hc)
  go_ret
  exact ⟨rfl, HK1.out⟩

/-- ticks of partition p -/
def cqU (xs : List Srv) (fr be p : Nat) : Int := (Rule.cnt (Rule.occ (sys xs)) p be : Int) - (Rule.cnt (Rule.occ (sys xs)) p fr : Int)
def smU (xs : List Srv) (fr be : Nat) : Nat → Int
  | 0 => 0
  | k + 1 => smU xs fr be k + cqU xs fr be (k + 1)
theorem cqU_bd (xs : List Srv) {fr be : Nat} (h : fr ≤ be) (p : Nat) : 0 ≤ cqU xs fr be p ∧ cqU xs fr be p ≤ (be : Int) - fr := by
  have := Rule.cnt_mono (Rule.occ (sys xs)) p h
  have := Rule.cnt_diff (Rule.occ (sys xs)) p h
  unfold cqU
  omega
theorem smU_bd (xs : List Srv) {fr be : Nat} (h : fr ≤ be) : ∀ k, 0 ≤ smU xs fr be k ∧ smU xs fr be k ≤ k * ((be : Int) - fr)
  | 0 => by simp [smU]
  | k + 1 => by
    have := smU_bd xs h k
    have := cqU_bd xs h (k + 1)
    rw [smU, Int.natCast_add, Int.add_mul]
    simp
    omega
/-- what Used tells: nobody's, then each partition's -/
def usR (xs : List Srv) (fr be k : Nat) : Nat → Int := fun j => if j = 0 then ((be : Int) - fr) - smU xs fr be k else if j ≤ k then cqU xs fr be j else 0
def usF (xs : List Srv) (fr be : Nat) : Nat → Int := usR xs fr be xs.length
theorem usR_step (xs : List Srv) (fr be k : Nat) : upI (upI (usR xs fr be k) (k + 1) (cqU xs fr be (k + 1))) 0 (usR xs fr be k 0 - cqU xs fr be (k + 1)) = usR xs fr be (k + 1) := by
  funext j
  unfold upI usR
  by_cases h0 : j = 0
  · subst h0
    simp only [if_true]
    rw [smU]; omega
  · rw [if_neg h0, if_neg h0, if_neg h0]
    by_cases h1 : j = k + 1
    · subst h1; rw [if_pos rfl, if_pos (Nat.le_refl _)]
    · rw [if_neg h1]
      by_cases h2 : j ≤ k
      · rw [if_pos h2, if_pos (by omega)]
      · rw [if_neg h2, if_neg (by omega)]

set_option maxHeartbeats 16000000 in
theorem used_yes {F : Nat → Prop} {a : Option Addr} {c : Nat} {xs : List Srv} (fr be : Nat) (w : World) (hg : Gl w) (h : Sv w F a xs.length c xs) (hF : ∀ k, F k → k < w.heap.size) (ht : timF xs xs.length = none) (h1 : fr ≤ be) (h2 : be ≤ 1099511627776) :
    Calls Tryz.prog 5 #[.slice a xs.length c, .int .i64 (fr : Int), .int .i64 (be : Int)] w fun e w' => ∃ g, e = .returned (.tuple #[.slice (some ⟨g, 0, none⟩) (xs.length + 1) (xs.length + 1), .int .i64 0]) ∧ w.heap.size ≤ g ∧ Cw w' g (xs.length + 1) (usF xs fr be) ∧ Kept No w w' := by
  have hsp := spanE_yes fr be w hg h ht h1 h2
  have hn := (vd_of ht).num
  have HSU : Hid (∀ (W : World) (p : Nat), Kept No w W → 1 ≤ p → p ≤ xs.length → Calls Tryz.prog 19 #[.slice a xs.length c, .int .i64 p, .int .i64 fr, .int .i64 be] W fun e w' => e = .returned (.tuple #[.int .i64 (cqU xs fr be p), .int .i64 0]) ∧ Kept No W w') := fun W p k p1 p2 => supply_yes p fr be W (hg.kept k) (h.keep k) (fun q hq => Nat.lt_of_lt_of_le (hF q hq) k.size) ht p1 p2 h1 h2
  have HB : Hid (fr ≤ be ∧ be ≤ 1099511627776) := ⟨h1, h2⟩
  have HN : Hid (xs.length ≤ 32) := hn
  have hfr : (fr : Int) ≤ 1099511627776 := by omega
  have hbe : (be : Int) ≤ 1099511627776 := by omega
  obtain ⟨n, hnn⟩ : ∃ n, n = xs.length := ⟨_, rfl⟩
  have HNN : Hid (n = xs.length) := hnn
  rw [← hnn] at hsp hn
  rw [← hnn] at HSU
  rw [← hnn] at HN
  rw [← hnn]
  have hn2 : (n : Int) ≤ 32 := by omega
  clear hg h hF ht h1 h2 hnn
  go_enter Tryz.func5, Tryz.ntmps5
  go_upto_region 4 with (go_at_call 18; refine hsp.mono ?_; rintro e w1 ⟨rfl, hk1⟩; have HK1 : Hid (Kept No w w1) := hk1; clear hk1 hsp)
  obtain ⟨w2, hm, hcw, hk2, hs2⟩ := make_row w1 (n + 1) (by omega)
  rw [show ((n + 1 : Nat) : Int) = (n : Int) + 1 by omega] at hm
  have c0 := hcw.at' 0 (by omega)
  have hfz := hcw.fz
  obtain ⟨g, hgg⟩ : ∃ g, g = w1.heap.size := ⟨_, rfl⟩
  have HG : Hid (g = w1.heap.size) := hgg
  rw [← hgg] at hm hcw c0 hfz
  have H2 : Hid (Cw w2 g (n + 1) (fun _ => 0) ∧ Kept No w1 w2) := ⟨hcw, hk2⟩
  clear hcw hk2 hs2 hgg
  have hd : (0 : Int) ≤ (be : Int) - (fr : Int) := by have := HB.out; omega
  have hz : (0 : Int) < (n : Int) + 1 := by omega
  go_upto_region 6 with fail
  have H3 : Hid (Cw (w2.setCell ⟨g, 0, none⟩ (.int .i64 ((be : Int) - (fr : Int)))) g (n + 1) (usR xs fr be 0) ∧ Kept (fun k => k = g) w1 (w2.setCell ⟨g, 0, none⟩ (.int .i64 ((be : Int) - (fr : Int))))) := by
    refine ⟨(H2.out.1.set 0 ((be : Int) - fr)).congr' (fun j hj => ?_), (H2.out.2.mono (fun _ h => h.elim)).trans kept_set (fun _ h => .inl h)⟩
    unfold upI usR
    by_cases h0 : j = 0
    · rw [if_pos h0, if_pos h0, smU]; omega
    · rw [if_neg h0, if_neg h0, if_neg (by omega)]
  generalize w2.setCell ⟨g, 0, none⟩ (.int .i64 ((be : Int) - (fr : Int))) = w3 at *
  clear c0 hfz hm H2
  go_wp2
  go_loopw [29] (fun x wr => ∃ k : Nat, x = .int .i64 k ∧ k ≤ n ∧ Cw wr g (n + 1) (usR xs fr be k) ∧ Kept (fun k => k = g) w1 wr) (fun x _ => n - (intOf x).toNat)
  case atStart => exact ⟨0, rfl, Nat.zero_le _, H3.out.1, H3.out.2⟩
  case round =>
    obtain ⟨k, rfl, hk, hcw, K⟩ := hrel
    have HL := And.intro hcw K
    have HL : Hid (Cw wr g (n + 1) (usR xs fr be k) ∧ Kept (fun k => k = g) w1 wr) := HL
    clear hcw K H3
    by_cases hlt : k < n
    · have hkn : (k : Int) < (n : Int) := by omega
      have hkn2 : (k : Int) + 1 < (n : Int) + 1 := by omega
      have HW : Hid (Kept No w wr) := HK1.out.trans HL.out.2 (fun b e => .inr (by have := HK1.out.size; rw [e, HG.out]; exact this))
      have hsu := HSU.out wr (k + 1) HW.out (by omega) (by omega)
      have HQ : Hid (0 ≤ cqU xs fr be (k + 1) ∧ cqU xs fr be (k + 1) ≤ 1099511627776) := by
        have := cqU_bd xs HB.out.1 (k + 1)
        have := HB.out
        show _ ∧ _
        omega
      have HR0 : Hid (-100000000000000 ≤ usR xs fr be k 0 ∧ usR xs fr be k 0 ≤ 1099511627776) := by
        have e : usR xs fr be k 0 = ((be : Int) - fr) - smU xs fr be k := by unfold usR; rw [if_pos rfl]
        have h := smU_bd xs HB.out.1 k
        have h2 : (k : Int) * ((be : Int) - fr) ≤ 32 * 1099511627776 := Int.mul_le_mul (by have := HN.out; omega) (by have := HB.out; omega) (by have := HB.out; omega) (by omega)
        have := HB.out
        show _ ∧ _
        rw [e]
        omega
      have HST : Hid (upI (upI (usR xs fr be k) (k + 1) (cqU xs fr be (k + 1))) 0 (usR xs fr be k 0 - cqU xs fr be (k + 1)) = usR xs fr be (k + 1)) := usR_step xs fr be k
      obtain ⟨z, hz2⟩ : ∃ z, z = cqU xs fr be (k + 1) := ⟨_, rfl⟩
      obtain ⟨R, hR⟩ : ∃ R, R = usR xs fr be k := ⟨_, rfl⟩
      rw [← hz2] at hsu HQ HST
      rw [← hR] at HL HR0 HST
      have ec : (((k + 1 : Nat)) : Int) = (k : Int) + 1 := by omega
      rw [ec] at hsu
      clear hz2 hR ec
      go_wp2_with (go_at_call 19; refine hsu.mono ?_; rintro e w4 ⟨rfl, k4⟩; have H4 : Hid (Kept No wr w4) := k4; clear hsu k4; have c1 := (HL.out.1.keep H4.out).at' (k + 1) (by omega); have hfz := (HL.out.1.keep H4.out).fz)
      have H5 : Hid (Cw (w4.setCell ⟨g, k + 1, none⟩ (.int .i64 z)) g (n + 1) (upI R (k + 1) z) ∧ Kept (fun k => k = g) w1 (w4.setCell ⟨g, k + 1, none⟩ (.int .i64 z))) := ⟨(HL.out.1.keep H4.out).set (k + 1) z, (HL.out.2.trans H4.out (fun _ h => h.elim)).trans kept_set (fun _ h => .inl h)⟩
      go_upto_region 10 with fail
      generalize w4.setCell ⟨g, k + 1, none⟩ (.int .i64 z) = w5 at *
      have d0 := H5.out.1.at' 0 (by omega)
      have d1 := H5.out.1.at' (k + 1) (by omega)
      have hf5 := H5.out.1.fz
      rw [upI_same] at d1
      rw [show upI R (k + 1) z 0 = R 0 from upI_oth _ _ (by omega)] at d0
      have q0 := HR0.out
      have q1 := HQ.out
      have hz3 : (0 : Int) < (n : Int) + 1 := by omega
      clear c1 hfz
      go_region
      go_wp2
      go_roundw
      case rel =>
        refine ⟨k + 1, by go_num, by omega, ?_, ((H5.out.2.trans kept_set (fun _ h => .inl h))).drew⟩
        rw [← HST.out]
        exact (H5.out.1.set 0 (R 0 - z)).keep ((Kept.refl No _).drew)
      case measure => simp [intOf]; omega
    · have e : k = n := by omega
      subst e
      go_wp2
      go_ret2
      refine ⟨g, rfl, ?_, ?_, HK1.out.trans HL.out.2 (fun b e => .inr (by have := HK1.out.size; rw [e, HG.out]; exact this))⟩
      · rw [HG.out]; exact HK1.out.size
      · have := HL.out.1
        unfold usF
        rw [← HNN.out]
        exact this
end Go.Proofs.YtibmgpinfdcaoaaGreatDoor

namespace Go.Proofs.YtibmgpinfdcaoaaGreatDoor
open Go.RowKit Go.Shelf Plain
set_option linter.unusedVariables false
set_option linter.unusedSimpArgs false
set_option maxRecDepth 100000

/-- what a place's part leaves over -/
def rmK (f : Nat → Int) (H : Int) (i : Nat) : Int := (f i * 1000000) % H
theorem cvK_cmp (f : Nat → Int) (H : Int) (x y : Nat) : (if rmK f H y < rmK f H x then (-1 : Int) else if rmK f H y > rmK f H x then 1 else 0) = cvK (rmK f H) x y := rfl
/-- the two boxes and the row of counts -/
structure Cnb (w : World) (b1 b2 gc n cc : Nat) (f : Nat → Int) (H : Int) : Prop where
  s : w.cell? ⟨b1, 0, none⟩ = some (.slice (some ⟨gc, 0, none⟩) n cc)
  h : w.cell? ⟨b2, 0, none⟩ = some (.int .i64 H)
  c : Cw w gc n f
theorem Cnb.kept {w w' : World} {G : Nat → Prop} {b1 b2 gc n cc : Nat} {f : Nat → Int} {H : Int} (h : Cnb w b1 b2 gc n cc f H) (k : Kept G w w') (h1 : ¬ G b1) (h2 : ¬ G b2) (h3 : ¬ G gc) : Cnb w' b1 b2 gc n cc f H :=
  ⟨k.cell h.s h1, k.cell h.h h2, h.c.kept k h3⟩
section
variable {o : Oper} {a : Act} {w : World}
theorem er_remI (x y : Operand) (ho : o.op = .binOp .rem 3 x y 3) (k l r : Int) (hx : a.eval x = .int .i64 k) (hy : a.eval y = .int .i64 l) (hl : l ≠ 0) (hr : Int.tmod k l = r) : (execOp a.eval o).run Tryz.prog w = .ok (.value (.int .i64 r)) w := by
  subst hr
  simp only [execOp, ho, hx, hy]
  simp [go_sem, hl]
theorem er_mulI (x y : Operand) (ho : o.op = .binOp .mul 3 x y 3) (k l r : Int) (hx : a.eval x = .int .i64 k) (hy : a.eval y = .int .i64 l) (hr : wrap64 (k * l) = r) : (execOp a.eval o).run Tryz.prog w = .ok (.value (.int .i64 r)) w := by
  subst hr
  simp only [execOp, ho, hx, hy]; simp [go_sem, w64i]
theorem er_ldFn (x : Operand) (ho : o.op = .load 71 x) (g off : Nat) (v : Value) (hx : a.eval x = .pointer (some ⟨g, off, none⟩)) (hr : w.cell? ⟨g, off, none⟩ = some v) : (execOp a.eval o).run Tryz.prog w = .ok (.value v) w := by
  simp only [execOp, ho, hx]; simp [go_sem, hr]
theorem er_call1 (x z : Operand) (ho : o.op = .call { callee := .value z, args := #[x], argTypes := #[3] }) (f : Nat) (lb : Array Value) (u : Value) (hz : a.eval z = .func (.func f) #[] lb) (hx : a.eval x = u) (eg : ∀ args w, (callFunc f args).run Tryz.prog w = .ok (.enter f args) w) : (execOp a.eval o).run Tryz.prog w = .ok (.enter f (#[u] ++ lb)) w := by
  generalize a.eval = ev at hx hz ⊢
  simp [execOp, ho, go_sem, resolve, hx, hz, eg]
theorem er_ccmp (x y : Operand) (ho : o.op = .call { callee := .value (.func 42), args := #[x, y], argTypes := #[3, 3] }) (u v : Value) (hx : a.eval x = u) (hy : a.eval y = v) : (execOp a.eval o).run Tryz.prog w = .ok (.enter 42 #[u, v]) w := by
  subst hx hy
  simp [execOp, ho, go_sem, Act.eval]
end
theorem quiet_call1 {C : World → Prop} {a : Act} {o : Oper} {K : Act → Prop} (x z : Operand) (ho : o.op = .call { callee := .value z, args := #[x], argTypes := #[3] }) (f : Nat) (lb : Array Value) (u r : Value) (hz : a.eval z = .func (.func f) #[] lb) (hx : a.eval x = u) (eg : ∀ args w, (callFunc f args).run Tryz.prog w = .ok (.enter f args) w)
    (hc : ∀ w, C w → Calls Tryz.prog f (#[u] ++ lb) w fun e w'' => e = .returned r ∧ C w'') (hk : K (a.put o.dst r)) : o.quiet Tryz.prog a C K :=
  quiet_call' (f := f) (args := #[u] ++ lb) (fun w => er_call1 x z ho f lb u hz hx eg) hc hk
theorem quiet_ccmp {C : World → Prop} {a : Act} {o : Oper} {K : Act → Prop} (x y : Operand) (ho : o.op = .call { callee := .value (.func 42), args := #[x, y], argTypes := #[3, 3] }) (u v r : Value) (hx : a.eval x = u) (hy : a.eval y = v)
    (hc : ∀ w, C w → Calls Tryz.prog 42 #[u, v] w fun e w'' => e = .returned r ∧ C w'') (hk : K (a.put o.dst r)) : o.quiet Tryz.prog a C K :=
  quiet_call' (f := 42) (args := #[u, v]) (fun w => er_ccmp x y ho u v hx hy) hc hk

set_option maxHeartbeats 4000000 in
theorem rem_any {b1 b2 gc n cc x : Nat} {f : Nat → Int} {H : Int} (w : World) (h : Cnb w b1 b2 gc n cc f H) (hx : x < n) (hn : n ≤ 1000) (hH : 1 ≤ H) (hf : 0 ≤ f x ∧ f x ≤ 1099511627776) :
    Calls Tryz.prog 39 #[.int .i64 (x : Int), .pointer (some ⟨b1, 0, none⟩), .pointer (some ⟨b2, 0, none⟩)] w fun e w' => e = .returned (.int .i64 (rmK f H x)) ∧ Kept No w w' := by
  have h1 := h.s
  have h2 := h.h
  have h3 := h.c.at' x hx
  have hx2 : (x : Int) < (n : Int) := by omega
  have hn2 : (n : Int) ≤ 1000 := by omega
  have hR : Hid (rmK f H x = Int.tmod (f x * 1000000) H) := by
    show rmK f H x = _
    unfold rmK
    rw [Int.tmod_eq_emod_of_nonneg (by omega)]
  obtain ⟨v, hv⟩ : ∃ v, v = f x := ⟨_, rfl⟩
  rw [← hv] at h3 hf hR
  have hm : v * 1000000 ≤ 1099511627776000000 := by omega
  have hm0 : 0 ≤ v * 1000000 := by omega
  obtain ⟨m, hmm⟩ : ∃ m, m = v * 1000000 := ⟨_, rfl⟩
  have HM : Hid (wrap64 (v * 1000000) = m) := by
    show wrap64 _ = _
    rw [← hmm]
    rw [← hmm] at hm hm0
    unfold wrap64; omega
  have HT : Hid (Int.tmod m H = Int.tmod (v * 1000000) H ∧ H ≠ 0) := ⟨by rw [hmm], by omega⟩
  have HHH : Hid (∀ W, Kept No w W → W.cell? ⟨b1, 0, none⟩ = some (.slice (some ⟨gc, 0, none⟩) n cc) ∧ W.cell? ⟨b2, 0, none⟩ = some (.int .i64 H) ∧ W.cell? ⟨gc, x, none⟩ = some (.int .i64 v)) := fun W k => ⟨k.cell h1 (fun h => h), k.cell h2 (fun h => h), k.cell h3 (fun h => h)⟩
  have HI : Hid (x < n ∧ n ≤ 9223372036854775807) := ⟨hx, by omega⟩
  clear h hv hf hm hm0 hH hmm h1 h2 h3 hx hn hx2 hn2
  go_enter Tryz.func39, Tryz.ntmps39
  go_upto_region 1 with fail
  refine wp_region_kept w (by kernel_rfl) (by kernel_rfl) (Kept.refl No w) ?_
  refine BigFrame.wpQuiet_want rfl (fun KQ hKQ => ?_)
  refine quiet_val' (fun w5 hw5 => er_ldis _ rfl b1 0 (.slice (some ⟨gc, 0, none⟩) n cc) rfl (HHH.out w5 hw5).1) ?_
  refine hKQ _ ?_
  clear hKQ KQ
  simp only [Act.put, List.setIfInBounds_toArray, List.set_cons_zero, List.set_cons_succ]
  refine BigFrame.wpQuiet_want rfl (fun KQ hKQ => ?_)
  refine quiet_val' (fun w5 hw5 => er_mv _ rfl (.int .i64 (x : Int)) rfl) ?_
  refine hKQ _ ?_
  clear hKQ KQ
  simp only [Act.put, List.setIfInBounds_toArray, List.set_cons_zero, List.set_cons_succ]
  refine BigFrame.wpQuiet_want rfl (fun KQ hKQ => ?_)
  refine quiet_val' (fun w5 hw5 => er_ixi _ _ rfl gc n cc x HI.out.1 HI.out.2 rfl rfl) ?_
  refine hKQ _ ?_
  clear hKQ KQ
  simp only [Act.put, List.setIfInBounds_toArray, List.set_cons_zero, List.set_cons_succ]
  refine BigFrame.wpQuiet_want rfl (fun KQ hKQ => ?_)
  refine quiet_val' (fun w5 hw5 => er_ldI _ rfl gc x (.int .i64 v) rfl (HHH.out w5 hw5).2.2) ?_
  refine hKQ _ ?_
  clear hKQ KQ
  simp only [Act.put, List.setIfInBounds_toArray, List.set_cons_zero, List.set_cons_succ]
  refine BigFrame.wpQuiet_want rfl (fun KQ hKQ => ?_)
  refine quiet_val' (fun w5 hw5 => er_mulI _ _ rfl v 1000000 m rfl rfl HM.out) ?_
  refine hKQ _ ?_
  clear hKQ KQ
  simp only [Act.put, List.setIfInBounds_toArray, List.set_cons_zero, List.set_cons_succ]
  refine BigFrame.wpQuiet_want rfl (fun KQ hKQ => ?_)
  refine quiet_val' (fun w5 hw5 => er_ldI _ rfl b2 0 (.int .i64 H) rfl (HHH.out w5 hw5).2.1) ?_
  refine hKQ _ ?_
  clear hKQ KQ
  simp only [Act.put, List.setIfInBounds_toArray, List.set_cons_zero, List.set_cons_succ]
  refine BigFrame.wpQuiet_want rfl (fun KQ hKQ => ?_)
  refine quiet_val' (fun w5 hw5 => er_remI _ _ rfl m H (Int.tmod (v * 1000000) H) rfl rfl HT.out.2 HT.out.1) ?_
  refine hKQ _ ?_
  clear hKQ KQ
  simp only [Act.put, List.setIfInBounds_toArray, List.set_cons_zero, List.set_cons_succ]
  refine BigFrame.wpQuiet_want rfl (fun KQ hKQ => ?_)
  refine quiet_val' (fun w5 hw5 => er_as _ rfl (.int .i64 (Int.tmod (v * 1000000) H)) rfl) ?_
  refine hKQ _ ?_
  clear hKQ KQ
  simp only [Act.put, List.setIfInBounds_toArray, List.set_cons_zero, List.set_cons_succ]
  refine wpQuiet_nil ?_
  intro w9 k9
  go_wp2
  go_ret
  exact ⟨by rw [hR.out]; rfl, k9⟩

/-- the remainders' variable: its box holds the function -/
def Rfn (w : World) (b3 b1 b2 : Nat) : Prop := w.cell? ⟨b3, 0, none⟩ = some (.func (.func 39) #[] #[.pointer (some ⟨b1, 0, none⟩), .pointer (some ⟨b2, 0, none⟩)])
theorem eg_rem : Tyg 39 := enters_of Tryz.func39 (by kernel_rfl) rfl
theorem eg_cmp : Tyg 41 := enters_of Tryz.func41 (by kernel_rfl) rfl
set_option maxHeartbeats 4000000 in
theorem cmp_any {b1 b2 b3 gc n cc x y : Nat} {f : Nat → Int} {H : Int} (w : World) (h : Cnb w b1 b2 gc n cc f H) (h3 : Rfn w b3 b1 b2) (hx : x < n) (hy : y < n) (hn : n ≤ 1000) (hH : 1 ≤ H) (hf : ∀ i, i < n → 0 ≤ f i ∧ f i ≤ 1099511627776) :
    Calls Tryz.prog 41 (#[.int .i64 (x : Int), .int .i64 (y : Int)] ++ #[.pointer (some ⟨b3, 0, none⟩)]) w fun e w' => e = .returned (.int .i64 (cvK (rmK f H) x y)) ∧ Kept No w w' := by
  have HA : Hid (∀ (W : World) (z : Nat), Kept No w W → z < n → Calls Tryz.prog 39 (#[.int .i64 (z : Int)] ++ #[.pointer (some ⟨b1, 0, none⟩), .pointer (some ⟨b2, 0, none⟩)]) W fun e w' => e = .returned (.int .i64 (rmK f H z)) ∧ Kept No W w') := fun W z k hz => rem_any W (h.kept k (fun h => h) (fun h => h) (fun h => h)) hz hn hH (hf z hz)
  have HB : Hid (∀ W, Kept No w W → W.cell? ⟨b3, 0, none⟩ = some (.func (.func 39) #[] #[.pointer (some ⟨b1, 0, none⟩), .pointer (some ⟨b2, 0, none⟩)])) := fun W k => k.cell h3 (fun h => h)
  have HXY : Hid (x < n ∧ y < n) := ⟨hx, hy⟩
  have HCP : Hid (∀ W, Calls Tryz.prog 42 #[.int .i64 (rmK f H y), .int .i64 (rmK f H x)] W fun ex w' => ex = .returned (.int .i64 (cvK (rmK f H) x y)) ∧ w' = W) := fun W => compare_any _ _ W
  clear h h3 hx hy hn hH hf
  show Calls Tryz.prog 41 #[.int .i64 (x : Int), .int .i64 (y : Int), .pointer (some ⟨b3, 0, none⟩)] w _
  go_enter Tryz.func41, Tryz.ntmps41
  go_upto_region 1 with fail
  refine wp_region_kept w (by kernel_rfl) (by kernel_rfl) (Kept.refl No w) ?_
  refine BigFrame.wpQuiet_want rfl (fun KQ hKQ => ?_)
  refine quiet_val' (fun w5 hw5 => er_ldFn _ rfl b3 0 (.func (.func 39) #[] #[.pointer (some ⟨b1, 0, none⟩), .pointer (some ⟨b2, 0, none⟩)]) rfl (HB.out w5 hw5)) ?_
  refine hKQ _ ?_
  clear hKQ KQ
  simp only [Act.put, List.setIfInBounds_toArray, List.set_cons_zero, List.set_cons_succ]
  refine BigFrame.wpQuiet_want rfl (fun KQ hKQ => ?_)
  refine quiet_val' (fun w5 hw5 => er_mv _ rfl (.int .i64 (y : Int)) rfl) ?_
  refine hKQ _ ?_
  clear hKQ KQ
  simp only [Act.put, List.setIfInBounds_toArray, List.set_cons_zero, List.set_cons_succ]
  refine BigFrame.wpQuiet_want rfl (fun KQ hKQ => ?_)
  refine quiet_call1 _ _ rfl 39 #[.pointer (some ⟨b1, 0, none⟩), .pointer (some ⟨b2, 0, none⟩)] (.int .i64 (y : Int)) (.int .i64 (rmK f H y)) rfl rfl eg_rem (fun w5 hw5 => (HA.out w5 y hw5 HXY.out.2).mono (fun e w6 he => ⟨he.1, hw5.trans he.2 (fun _ x => x.elim)⟩)) ?_
  refine hKQ _ ?_
  clear hKQ KQ
  simp only [Act.put, List.setIfInBounds_toArray, List.set_cons_zero, List.set_cons_succ]
  refine BigFrame.wpQuiet_want rfl (fun KQ hKQ => ?_)
  refine quiet_val' (fun w5 hw5 => er_ldFn _ rfl b3 0 (.func (.func 39) #[] #[.pointer (some ⟨b1, 0, none⟩), .pointer (some ⟨b2, 0, none⟩)]) rfl (HB.out w5 hw5)) ?_
  refine hKQ _ ?_
  clear hKQ KQ
  simp only [Act.put, List.setIfInBounds_toArray, List.set_cons_zero, List.set_cons_succ]
  refine BigFrame.wpQuiet_want rfl (fun KQ hKQ => ?_)
  refine quiet_val' (fun w5 hw5 => er_mv _ rfl (.int .i64 (x : Int)) rfl) ?_
  refine hKQ _ ?_
  clear hKQ KQ
  simp only [Act.put, List.setIfInBounds_toArray, List.set_cons_zero, List.set_cons_succ]
  refine BigFrame.wpQuiet_want rfl (fun KQ hKQ => ?_)
  refine quiet_call1 _ _ rfl 39 #[.pointer (some ⟨b1, 0, none⟩), .pointer (some ⟨b2, 0, none⟩)] (.int .i64 (x : Int)) (.int .i64 (rmK f H x)) rfl rfl eg_rem (fun w5 hw5 => (HA.out w5 x hw5 HXY.out.1).mono (fun e w6 he => ⟨he.1, hw5.trans he.2 (fun _ x => x.elim)⟩)) ?_
  refine hKQ _ ?_
  clear hKQ KQ
  simp only [Act.put, List.setIfInBounds_toArray, List.set_cons_zero, List.set_cons_succ]
  refine BigFrame.wpQuiet_want rfl (fun KQ hKQ => ?_)
  refine quiet_ccmp _ _ rfl (.int .i64 (rmK f H y)) (.int .i64 (rmK f H x)) (.int .i64 (cvK (rmK f H) x y)) rfl rfl (fun w5 hw5 => (HCP.out w5).mono (fun e w6 he => ⟨he.1, by rw [he.2]; exact hw5⟩)) ?_
  refine hKQ _ ?_
  clear hKQ KQ
  simp only [Act.put, List.setIfInBounds_toArray, List.set_cons_zero, List.set_cons_succ]
  refine BigFrame.wpQuiet_want rfl (fun KQ hKQ => ?_)
  refine quiet_val' (fun w5 hw5 => er_as _ rfl (.int .i64 (cvK (rmK f H) x y)) rfl) ?_
  refine hKQ _ ?_
  clear hKQ KQ
  simp only [Act.put, List.setIfInBounds_toArray, List.set_cons_zero, List.set_cons_succ]
  refine wpQuiet_nil ?_
  intro w9 k9
  go_wp2
  go_ret
  exact ⟨rfl, k9⟩
end Go.Proofs.YtibmgpinfdcaoaaGreatDoor
