/-
  One text: CImg, CStep, CInner2, CAct, CPtTab.
-/
import Derived.Test.YtnmhcnppdhdhfaaGreatDoorG24
import Derived.Test.YtnmhcnppdhdhfaaGreatDoorG11
import Derived.Deep.RegionWith
import Derived.Test.YtnmhcnppdhdhfaaGreatDoorG21
import Derived.Test.YtnmhcnppdhdhfaaGreatDoorG20
import Derived.Deep.DeepCutAuto
namespace Go.Proofs.YtnmhcnppdhdhfaaGreatDoor
open Go.RowKit
set_option linter.unusedVariables false
set_option linter.unusedSimpArgs false
set_option maxRecDepth 100000

theorem img1 (a0 : Option Addr) (n0 c0 : Nat) (v1 v2 : Value) (hn : n0 ≤ 9223372036854775807) (w : World) : Calls Tryz.prog 101 #[.agg #[.slice a0 n0 c0, v1, v2]] w fun e w' => e = .returned (.bool (decide ((n0 : Int) ≤ 32))) ∧ Kept No w w' := by
  have HK : Hid (Kept No w (w.alloc (.cells #[.slice a0 n0 c0, v1, v2] 26))) := (Kept.refl No w).alloc _
  go_enter Tryz.func101, Tryz.ntmps101
  go_wp2
  go_ret
  exact ⟨rfl, HK.out⟩
theorem img2 (v0 : Value) (a1 : Option Addr) (n1 c1 : Nat) (v2 : Value) (hn : n1 ≤ 9223372036854775807) (w : World) : Calls Tryz.prog 102 #[.agg #[v0, .slice a1 n1 c1, v2]] w fun e w' => e = .returned (.bool (decide ((n1 : Int) ≤ 64))) ∧ Kept No w w' := by
  have HK : Hid (Kept No w (w.alloc (.cells #[v0, .slice a1 n1 c1, v2] 26))) := (Kept.refl No w).alloc _
  go_enter Tryz.func102, Tryz.ntmps102
  go_wp2
  go_ret
  exact ⟨rfl, HK.out⟩
theorem img3 (v0 v1 : Value) (a2 : Option Addr) (n2 c2 : Nat) (hn : n2 ≤ 9223372036854775807) (w : World) : Calls Tryz.prog 103 #[.agg #[v0, v1, .slice a2 n2 c2]] w fun e w' => e = .returned (.bool (decide ((n2 : Int) ≤ 64))) ∧ Kept No w w' := by
  have HK : Hid (Kept No w (w.alloc (.cells #[v0, v1, .slice a2 n2 c2] 26))) := (Kept.refl No w).alloc _
  go_enter Tryz.func103, Tryz.ntmps103
  go_wp2
  go_ret
  exact ⟨rfl, HK.out⟩
def rsIm : Nat → Rw
  | 0 => ⟨100, .func (.func 101) #[] #[], .nilFunc, .nilFunc, rfl, rfl, rfl⟩
  | 1 => ⟨100, .func (.func 102) #[] #[], .nilFunc, .nilFunc, rfl, rfl, rfl⟩
  | _ => ⟨100, .func (.func 103) #[] #[], .nilFunc, .nilFunc, rfl, rfl, rfl⟩
theorem tableIm (w : World) : Calls Tryz.prog 65 #[] w fun e w' => ∃ tb, e = .returned (.slice (some ⟨tb, 0, none⟩) 3 3) ∧ Tb w' tb 3 rsIm ∧ Kept No w w' := by
  have HK : Hid (∀ o, Kept No w (w.alloc o)) := fun o => (Kept.refl No w).alloc o
  go_enter Tryz.func65, Tryz.ntmps65
  go_wp2
  go_ret
  refine ⟨_, rfl, ?_, HK.out _⟩
  intro j hj
  match j, hj with
  | 0, _ => exact ⟨by simp [rsIm], by simp [rsIm], by simp [rsIm], by simp [rsIm]⟩
  | 1, _ => exact ⟨by simp [rsIm], by simp [rsIm], by simp [rsIm], by simp [rsIm]⟩
  | 2, _ => exact ⟨by simp [rsIm], by simp [rsIm], by simp [rsIm], by simp [rsIm]⟩
def bIm (n0 n1 n2 : Nat) : Nat → Bool
  | 0 => decide ((n0 : Int) ≤ 32)
  | 1 => decide ((n1 : Int) ≤ 64)
  | _ => decide ((n2 : Int) ≤ 64)

set_option maxHeartbeats 2000000 in
theorem wholeIm (a0 : Option Addr) (n0 c0 : Nat) (a1 : Option Addr) (n1 c1 : Nat) (a2 : Option Addr) (n2 c2 : Nat) (tb : Nat) (w : World) (h0 : n0 ≤ 9223372036854775807) (h1 : n1 ≤ 9223372036854775807) (h2 : n2 ≤ 9223372036854775807) (hT : Tb w tb 3 rsIm) :
    Calls Tryz.prog 64 #[.agg #[.slice a0 n0 c0, .slice a1 n1 c1, .slice a2 n2 c2], .slice (some ⟨tb, 0, none⟩) 3 3] w fun e w' => e = .returned (fv (if n0 ≤ 32 ∧ n1 ≤ 64 ∧ n2 ≤ 64 then none else some (100, 0))) ∧ Kept No w w' := by
  have HK : Hid (Kept No w ((w.alloc (.cells #[.slice a0 n0 c0, .slice a1 n1 c1, .slice a2 n2 c2] 26)).alloc (.cells #[.slice a0 n0 c0, .slice a1 n1 c1, .slice a2 n2 c2] 26))) := ((Kept.refl No w).alloc _).alloc _
  have hc := eachIm 0 (some ⟨w.heap.size + 1, 0, none⟩) 1 1 (fun _ => .slice a0 n0 c0) (fun _ => .slice a1 n1 c1) (fun _ => .slice a2 n2 c2) tb 3 3 rsIm (fun _ j => if bIm n0 n1 n2 j then 0 else 100) ((w.alloc (.cells #[.slice a0 n0 c0, .slice a1 n1 c1, .slice a2 n2 c2] 26)).alloc (.cells #[.slice a0 n0 c0, .slice a1 n1 c1, .slice a2 n2 c2] 26)) (by omega) (by omega)
    (fun i hi => ⟨w.heap.size + 1, 0, rfl, by obtain rfl : i = 0 := by omega
                                              simp [World.cell?_alloc_at], by obtain rfl : i = 0 := by omega
                                                                              simp [World.cell?_alloc_at], by obtain rfl : i = 0 := by omega
                                                                                                              simp [World.cell?_alloc_at]⟩)
    (fun i hi => ⟨rfl, rfl, rfl⟩) (by omega) (hT.kept HK.out) (by omega) (by omega) (fun i j w' hi hj hw => by
      match j, hj with
      | 0, _ => exact findsIm_alone 100 _ #[] _ _ _ _ i 1 w' (enters_of Tryz.func101 (by kernel_rfl) rfl) _ (fun w2 _ => img1 a0 n0 c0 _ _ h0 w2)
      | 1, _ => exact findsIm_alone 100 _ #[] _ _ _ _ i 1 w' (enters_of Tryz.func102 (by kernel_rfl) rfl) _ (fun w2 _ => img2 _ a1 n1 c1 _ h1 w2)
      | 2, _ => exact findsIm_alone 100 _ #[] _ _ _ _ i 1 w' (enters_of Tryz.func103 (by kernel_rfl) rfl) _ (fun w2 _ => img3 _ _ a2 n2 c2 h2 w2))
  have e1 : eachF (fun i => rowsF (fun j => if bIm n0 n1 n2 j then 0 else 100) 3) 0 1 = (if n0 ≤ 32 ∧ n1 ≤ 64 ∧ n2 ≤ 64 then none else some (100, 0)) := by
    have i0 : decide ((n0 : Int) ≤ 32) = decide (n0 ≤ 32) := by congr 1; simp; omega
    have i1 : decide ((n1 : Int) ≤ 64) = decide (n1 ≤ 64) := by congr 1; simp; omega
    have i2 : decide ((n2 : Int) ≤ 64) = decide (n2 ≤ 64) := by congr 1; simp; omega
    simp only [eachF, rowsF, bIm, i0, i1, i2]
    by_cases g0 : n0 ≤ 32 <;> by_cases g1 : n1 ≤ 64 <;> by_cases g2 : n2 ≤ 64 <;> simp [g0, g1, g2]
  rw [e1] at hc
  clear hT e1
  generalize (if n0 ≤ 32 ∧ n1 ≤ 64 ∧ n2 ≤ 64 then none else some ((100 : Int), (0 : Int))) = z at *
  go_enter Tryz.func64, Tryz.ntmps64
  go_wp2_with (go_at_call 100; refine hc.mono ?_; rintro e w' ⟨rfl, hk2⟩; have HW6 : Hid (Kept No w w') := HK.out.trans hk2 (fun _ h => h.elim); clear hk2)
  go_ret
  exact ⟨rfl, HW6.out⟩
end Go.Proofs.YtnmhcnppdhdhfaaGreatDoor

namespace Go.Proofs.YtnmhcnppdhdhfaaGreatDoor
open Go.RowKit
set_option linter.unusedVariables false
set_option linter.unusedSimpArgs false
set_option maxRecDepth 100000

set_option maxHeartbeats 4000000 in
theorem step1 (a0 : Option Addr) (n0 c0 : Nat) (a1 : Option Addr) (n1 c1 : Nat) (a2 : Option Addr) (n2 c2 : Nat) (w : World) (h0 : n0 ≤ 9223372036854775807) (h1 : n1 ≤ 9223372036854775807) (h2 : n2 ≤ 9223372036854775807) :
    Calls Tryz.prog 63 #[.agg #[.slice a0 n0 c0, .slice a1 n1 c1, .slice a2 n2 c2]] w fun e w' => e = .returned (fv (if n0 ≤ 32 ∧ n1 ≤ 64 ∧ n2 ≤ 64 then none else some (100, 0))) ∧ Kept No w w' := by
  have HK : Hid (Kept No w (w.alloc (.cells #[.slice a0 n0 c0, .slice a1 n1 c1, .slice a2 n2 c2] 26))) := (Kept.refl No w).alloc _
  have HC : Hid (∀ w' tb, Tb w' tb 3 rsIm → Calls Tryz.prog 64 #[.agg #[.slice a0 n0 c0, .slice a1 n1 c1, .slice a2 n2 c2], .slice (some ⟨tb, 0, none⟩) 3 3] w' fun e w'' => e = .returned (fv (if n0 ≤ 32 ∧ n1 ≤ 64 ∧ n2 ≤ 64 then none else some (100, 0))) ∧ Kept No w' w'') := fun w' tb hT => wholeIm a0 n0 c0 a1 n1 c1 a2 n2 c2 tb w' h0 h1 h2 hT
  have HM : Hid (∀ w', Kept No (w.alloc (.cells #[.slice a0 n0 c0, .slice a1 n1 c1, .slice a2 n2 c2] 26)) w' → w'.cell? ⟨w.heap.size, 0, none⟩ = some (.slice a0 n0 c0) ∧ w'.cell? ⟨w.heap.size, 1, none⟩ = some (.slice a1 n1 c1) ∧ w'.cell? ⟨w.heap.size, 2, none⟩ = some (.slice a2 n2 c2)) := fun w' k => ⟨k.cell (by simp) (fun h => h), k.cell (by simp) (fun h => h), k.cell (by simp) (fun h => h)⟩
  clear h0 h1 h2
  generalize (if n0 ≤ 32 ∧ n1 ≤ 64 ∧ n2 ≤ 64 then none else some ((100 : Int), (0 : Int))) = z at *
  go_enter Tryz.func63, Tryz.ntmps63
  go_upto_region 1 with fail
  generalize w.alloc (.cells #[.slice a0 n0 c0, .slice a1 n1 c1, .slice a2 n2 c2] 26) = w0 at *
  obtain ⟨m0, m1, m2⟩ := HM.out w0 (Kept.refl No w0)
  go_region_with (first
    | (go_at_call 65; refine (tableIm _).mono ?_; rintro e w1 ⟨tb, rfl, hT, hk1⟩; have HT : Hid (Tb w1 tb 3 rsIm) := hT; have HK1 : Hid (Kept No w0 w1) := (Kept.refl No w0).drew.trans hk1 (fun _ h => h.elim); obtain ⟨p0, p1, p2⟩ := HM.out w1 HK1.out; clear hT hk1)
    | (go_at_call 64; refine (HC.out _ _ HT.out).mono ?_; rintro e w2 ⟨rfl, hk2⟩; have HK2 : Hid (Kept No w0 w2) := HK1.out.trans hk2 (fun _ h => h.elim); clear hk2))
  all_goals (try go_wp2)
  all_goals (go_ret; exact ⟨rfl, HK.out.trans HK2.out (fun _ h => h.elim)⟩)
end Go.Proofs.YtnmhcnppdhdhfaaGreatDoor

namespace Go.Proofs.YtnmhcnppdhdhfaaGreatDoor
open Go.RowKit
set_option linter.unusedVariables false
set_option linter.unusedSimpArgs false
set_option maxRecDepth 100000

theorem lsPrc_keep {w w' : World} {F : Nat → Prop} {a : Option Addr} {n c : Nat} {xs : List Prc} (h : Ls 6 elPrc w F a n c xs) (k : Kept No w w') : Ls 6 elPrc w' F a n c xs := h.kept k (fun _ _ h => h) (elPrc_kept k (fun _ _ h => h))

set_option maxHeartbeats 8000000 in
theorem part4 (F : Nat → Prop) (cs : List Value) (ca : Option Addr) (cn cc : Nat) (a : Option Addr) (n c : Nat) (xs : List Prc) (w : World) (hcn : cn ≤ 9223372036854775807) (h7 : cs[7]? = some (.slice ca cn cc)) (h8 : cs[8]? = some (.slice a n c)) (hL : Ls 6 elPrc w F a n c xs) :
    Calls Tryz.prog 115 #[.agg cs.toArray] w fun e w' => e = .returned (fv (eachF (fun i => rowsF (fun j => if bPrc cn (xs.getD i ⟨0, 0, 0, 0, 0, false⟩) j then 0 else 105) 6) 1 n)) ∧ Kept No w w' := by
  have HK : Hid (Kept No w (w.alloc (.cells cs.toArray 48))) := (Kept.refl No w).alloc _
  have HC : Hid (∀ w' g tb, Kept No w w' → w'.cell? ⟨g, 0, none⟩ = some (.int .i64 cn) → Tb w' tb 6 (rsPrc g) → Calls Tryz.prog 116 #[.slice a n c, .int .i64 1, .slice (some ⟨tb, 0, none⟩) 6 6] w' fun e w'' => e = .returned (fv (eachF (fun i => rowsF (fun j => if bPrc cn (xs.getD i ⟨0, 0, 0, 0, 0, false⟩) j then 0 else 105) 6) 1 n)) ∧ Kept No w' w'') := fun w' g tb hw hg hT => each_Prc F a n c xs tb g cn w' (lsPrc_keep hL hw) hg hT
  have HM : Hid (∀ w', Kept No (w.alloc (.cells cs.toArray 48)) w' → w'.cell? ⟨w.heap.size, 7, none⟩ = some (.slice ca cn cc) ∧ w'.cell? ⟨w.heap.size, 8, none⟩ = some (.slice a n c)) := fun w' k => ⟨k.cell (pn_cell w cs _ 7 _ h7) (fun h => h), k.cell (pn_cell w cs _ 8 _ h8) (fun h => h)⟩
  clear h7 h8 hL
  generalize eachF (fun i => rowsF (fun j => if bPrc cn (xs.getD i ⟨0, 0, 0, 0, 0, false⟩) j then 0 else 105) 6) 1 n = z at *
  go_enter Tryz.func115, Tryz.ntmps115
  go_upto_region 1 with fail
  generalize w.alloc (.cells cs.toArray 48) = w0 at *
  generalize Value.agg cs.toArray = av at *
  obtain ⟨m0, m1⟩ := HM.out w0 (Kept.refl No w0)
  go_region_with (first
    | (go_at_call 117; refine (tablePrc _ _).mono ?_; rintro e w1 ⟨g, tb, rfl, hT, hg, hk1⟩; have HT : Hid (Tb w1 tb 6 (rsPrc g)) := hT; have HGG : Hid (w1.cell? ⟨g, 0, none⟩ = some (.int .i64 cn)) := hg; have HK1 : Hid (Kept No w0 w1) := (Kept.refl No w0).drew.trans hk1 (fun _ h => h.elim); obtain ⟨p0, p1⟩ := HM.out w1 HK1.out; clear hT hk1 hg)
    | (go_at_call 116; refine (HC.out _ _ _ (HK.out.trans HK1.out (fun _ h => h.elim)) HGG.out HT.out).mono ?_; rintro e w2 ⟨rfl, hk2⟩; have HK2 : Hid (Kept No w0 w2) := HK1.out.trans hk2 (fun _ h => h.elim); clear hk2))
  all_goals (try go_wp2)
  all_goals (go_ret; exact ⟨rfl, HK.out.trans HK2.out (fun _ h => h.elim)⟩)
end Go.Proofs.YtnmhcnppdhdhfaaGreatDoor

namespace Go.Proofs.YtnmhcnppdhdhfaaGreatDoor
open Go.RowKit
set_option linter.unusedVariables false
set_option linter.unusedSimpArgs false
set_option maxRecDepth 100000

theorem er_ix {w : World} {a : Act} {o : Oper} (x y : Operand) (ho : o.op = .index 43 x y) (u v r : Value) (hx : a.eval x = u) (hy : a.eval y = v) (hr : (Instr.index 43 u v).run Tryz.prog w = .ok r w) : (execOp a.eval o).run Tryz.prog w = .ok (.value r) w := by
  simp only [execOp, ho, hx, hy, Sem.run_bind, hr]; rfl
def hv8 (h0 h1 h2 h3 h4 h5 h6 h7 : Int) : Nat → Int
  | 0 => h0
  | 1 => h1
  | 2 => h2
  | 3 => h3
  | 4 => h4
  | 5 => h5
  | 6 => h6
  | _ => h7
def actF (f : Nat → Int) : Nat → Bool
  | 0 => true
  | k + 1 => actF f k && inB (f k) 0 5
theorem actF_no {f : Nat → Int} {k : Nat} (h : inB (f k) 0 5 = false) : ∀ n, k < n → actF f n = false
  | 0, hn => by omega
  | n + 1, hn => by
    rcases Nat.lt_or_eq_of_le (Nat.lt_succ_iff.1 hn) with h1 | h1
    · rw [actF, actF_no h n h1]; rfl
    · subst h1; rw [actF, h, Bool.and_false]

set_option maxHeartbeats 8000000 in
theorem hasActions_any (cs : List Value) (h0 h1 h2 h3 h4 h5 h6 h7 : Int) (w : World) (g0 : cs[10]? = some (.int .i64 h0)) (g1 : cs[11]? = some (.int .i64 h1)) (g2 : cs[12]? = some (.int .i64 h2)) (g3 : cs[13]? = some (.int .i64 h3)) (g4 : cs[14]? = some (.int .i64 h4)) (g5 : cs[15]? = some (.int .i64 h5)) (g6 : cs[16]? = some (.int .i64 h6)) (g7 : cs[17]? = some (.int .i64 h7)) :
    Calls Tryz.prog 125 #[.agg cs.toArray] w fun e w' => e = .returned (.bool (actF (hv8 h0 h1 h2 h3 h4 h5 h6 h7) 8)) ∧ Kept No w w' := by
  have HK : Hid (Kept No w (w.alloc (.cells cs.toArray 48))) := (Kept.refl No w).alloc _
  have d0 := pn_cell w cs 48 10 _ g0
  have d1 := pn_cell w cs 48 11 _ g1
  have d2 := pn_cell w cs 48 12 _ g2
  have d3 := pn_cell w cs 48 13 _ g3
  have d4 := pn_cell w cs 48 14 _ g4
  have d5 := pn_cell w cs 48 15 _ g5
  have d6 := pn_cell w cs 48 16 _ g6
  have d7 := pn_cell w cs 48 17 _ g7
  obtain ⟨R, hR⟩ : ∃ R, R = actF (hv8 h0 h1 h2 h3 h4 h5 h6 h7) 8 := ⟨_, rfl⟩
  rw [← hR]
  have HR : Hid (R = actF (hv8 h0 h1 h2 h3 h4 h5 h6 h7) 8) := hR
  clear hR g0 g1 g2 g3 g4 g5 g6 g7
  go_enter Tryz.func125, Tryz.ntmps125
  go_wp2
  clear d0 d1 d2 d3 d4 d5 d6 d7
  generalize w.alloc (.cells cs.toArray 48) = w0 at *
  go_loopw [7] (fun x wr => ∃ k : Nat, k ≤ 8 ∧ x = .int .i64 k ∧ wr = w0 ∧ actF (hv8 h0 h1 h2 h3 h4 h5 h6 h7) k = true) (fun x _ => 8 - (intOf x).toNat)
  case atStart => exact ⟨0, by omega, rfl, rfl, rfl⟩
  case round =>
    obtain ⟨k, hk, rfl, rfl, hno⟩ := hrel
    have HNO : Hid (actF (hv8 h0 h1 h2 h3 h4 h5 h6 h7) k = true) := hno
    clear hno
    match k, hk with
    | 0, _ =>
      have q := fun w => within_any h0 0 5 w
      cases hb : inB h0 0 5
      · have HF : Hid (R = false) := HR.out.trans (actF_no (k := 0) hb 8 (by omega))
        rw [hb] at q
        clear hb
        rw [show (((0 : Nat)) : Int) = (0 : Int) from rfl]
        go_upto_region 3 with fail
        refine wp_region_lit ?_
        refine l_take 9 rfl rfl (er_ix _ _ rfl (.agg #[.int .i64 h0, .int .i64 h1, .int .i64 h2, .int .i64 h3, .int .i64 h4, .int .i64 h5, .int .i64 h6, .int .i64 h7]) (.int .i64 0) (.int .i64 h0) rfl rfl (by kernel_rfl)) ?_
        simp only [Act.put, List.setIfInBounds_toArray, List.set_cons_zero, List.set_cons_succ]
        go_wp2_with (go_at_call 106; refine (q _).mono ?_; rintro e w' ⟨rfl, rfl⟩)
        go_ret
        exact ⟨by rw [HF.out]; rfl, HK.out⟩
      · have HF : Hid (actF (hv8 h0 h1 h2 h3 h4 h5 h6 h7) (0 + 1) = true) := by
          have e : actF (hv8 h0 h1 h2 h3 h4 h5 h6 h7) (0 + 1) = (actF (hv8 h0 h1 h2 h3 h4 h5 h6 h7) 0 && inB h0 0 5) := rfl
          rw [HNO.out, hb] at e
          exact e
        rw [hb] at q
        clear hb
        rw [show (((0 : Nat)) : Int) = (0 : Int) from rfl]
        go_upto_region 3 with fail
        refine wp_region_lit ?_
        refine l_take 9 rfl rfl (er_ix _ _ rfl (.agg #[.int .i64 h0, .int .i64 h1, .int .i64 h2, .int .i64 h3, .int .i64 h4, .int .i64 h5, .int .i64 h6, .int .i64 h7]) (.int .i64 0) (.int .i64 h0) rfl rfl (by kernel_rfl)) ?_
        simp only [Act.put, List.setIfInBounds_toArray, List.set_cons_zero, List.set_cons_succ]
        go_wp2_with (go_at_call 106; refine (q _).mono ?_; rintro e w' ⟨rfl, rfl⟩)
        go_roundw
        case rel => exact ⟨0 + 1, by omega, rfl, by first | trivial | rfl, HF.out⟩
        case measure => simp [intOf]
    | 1, _ =>
      have q := fun w => within_any h1 0 5 w
      cases hb : inB h1 0 5
      · have HF : Hid (R = false) := HR.out.trans (actF_no (k := 1) hb 8 (by omega))
        rw [hb] at q
        clear hb
        rw [show (((1 : Nat)) : Int) = (1 : Int) from rfl]
        go_upto_region 3 with fail
        refine wp_region_lit ?_
        refine l_take 9 rfl rfl (er_ix _ _ rfl (.agg #[.int .i64 h0, .int .i64 h1, .int .i64 h2, .int .i64 h3, .int .i64 h4, .int .i64 h5, .int .i64 h6, .int .i64 h7]) (.int .i64 1) (.int .i64 h1) rfl rfl (by kernel_rfl)) ?_
        simp only [Act.put, List.setIfInBounds_toArray, List.set_cons_zero, List.set_cons_succ]
        go_wp2_with (go_at_call 106; refine (q _).mono ?_; rintro e w' ⟨rfl, rfl⟩)
        go_ret
        exact ⟨by rw [HF.out]; rfl, HK.out⟩
      · have HF : Hid (actF (hv8 h0 h1 h2 h3 h4 h5 h6 h7) (1 + 1) = true) := by
          have e : actF (hv8 h0 h1 h2 h3 h4 h5 h6 h7) (1 + 1) = (actF (hv8 h0 h1 h2 h3 h4 h5 h6 h7) 1 && inB h1 0 5) := rfl
          rw [HNO.out, hb] at e
          exact e
        rw [hb] at q
        clear hb
        rw [show (((1 : Nat)) : Int) = (1 : Int) from rfl]
        go_upto_region 3 with fail
        refine wp_region_lit ?_
        refine l_take 9 rfl rfl (er_ix _ _ rfl (.agg #[.int .i64 h0, .int .i64 h1, .int .i64 h2, .int .i64 h3, .int .i64 h4, .int .i64 h5, .int .i64 h6, .int .i64 h7]) (.int .i64 1) (.int .i64 h1) rfl rfl (by kernel_rfl)) ?_
        simp only [Act.put, List.setIfInBounds_toArray, List.set_cons_zero, List.set_cons_succ]
        go_wp2_with (go_at_call 106; refine (q _).mono ?_; rintro e w' ⟨rfl, rfl⟩)
        go_roundw
        case rel => exact ⟨1 + 1, by omega, rfl, by first | trivial | rfl, HF.out⟩
        case measure => simp [intOf]
    | 2, _ =>
      have q := fun w => within_any h2 0 5 w
      cases hb : inB h2 0 5
      · have HF : Hid (R = false) := HR.out.trans (actF_no (k := 2) hb 8 (by omega))
        rw [hb] at q
        clear hb
        rw [show (((2 : Nat)) : Int) = (2 : Int) from rfl]
        go_upto_region 3 with fail
        refine wp_region_lit ?_
        refine l_take 9 rfl rfl (er_ix _ _ rfl (.agg #[.int .i64 h0, .int .i64 h1, .int .i64 h2, .int .i64 h3, .int .i64 h4, .int .i64 h5, .int .i64 h6, .int .i64 h7]) (.int .i64 2) (.int .i64 h2) rfl rfl (by kernel_rfl)) ?_
        simp only [Act.put, List.setIfInBounds_toArray, List.set_cons_zero, List.set_cons_succ]
        go_wp2_with (go_at_call 106; refine (q _).mono ?_; rintro e w' ⟨rfl, rfl⟩)
        go_ret
        exact ⟨by rw [HF.out]; rfl, HK.out⟩
      · have HF : Hid (actF (hv8 h0 h1 h2 h3 h4 h5 h6 h7) (2 + 1) = true) := by
          have e : actF (hv8 h0 h1 h2 h3 h4 h5 h6 h7) (2 + 1) = (actF (hv8 h0 h1 h2 h3 h4 h5 h6 h7) 2 && inB h2 0 5) := rfl
          rw [HNO.out, hb] at e
          exact e
        rw [hb] at q
        clear hb
        rw [show (((2 : Nat)) : Int) = (2 : Int) from rfl]
        go_upto_region 3 with fail
        refine wp_region_lit ?_
        refine l_take 9 rfl rfl (er_ix _ _ rfl (.agg #[.int .i64 h0, .int .i64 h1, .int .i64 h2, .int .i64 h3, .int .i64 h4, .int .i64 h5, .int .i64 h6, .int .i64 h7]) (.int .i64 2) (.int .i64 h2) rfl rfl (by kernel_rfl)) ?_
        simp only [Act.put, List.setIfInBounds_toArray, List.set_cons_zero, List.set_cons_succ]
        go_wp2_with (go_at_call 106; refine (q _).mono ?_; rintro e w' ⟨rfl, rfl⟩)
        go_roundw
        case rel => exact ⟨2 + 1, by omega, rfl, by first | trivial | rfl, HF.out⟩
        case measure => simp [intOf]
    | 3, _ =>
      have q := fun w => within_any h3 0 5 w
      cases hb : inB h3 0 5
      · have HF : Hid (R = false) := HR.out.trans (actF_no (k := 3) hb 8 (by omega))
        rw [hb] at q
        clear hb
        rw [show (((3 : Nat)) : Int) = (3 : Int) from rfl]
        go_upto_region 3 with fail
        refine wp_region_lit ?_
        refine l_take 9 rfl rfl (er_ix _ _ rfl (.agg #[.int .i64 h0, .int .i64 h1, .int .i64 h2, .int .i64 h3, .int .i64 h4, .int .i64 h5, .int .i64 h6, .int .i64 h7]) (.int .i64 3) (.int .i64 h3) rfl rfl (by kernel_rfl)) ?_
        simp only [Act.put, List.setIfInBounds_toArray, List.set_cons_zero, List.set_cons_succ]
        go_wp2_with (go_at_call 106; refine (q _).mono ?_; rintro e w' ⟨rfl, rfl⟩)
        go_ret
        exact ⟨by rw [HF.out]; rfl, HK.out⟩
      · have HF : Hid (actF (hv8 h0 h1 h2 h3 h4 h5 h6 h7) (3 + 1) = true) := by
          have e : actF (hv8 h0 h1 h2 h3 h4 h5 h6 h7) (3 + 1) = (actF (hv8 h0 h1 h2 h3 h4 h5 h6 h7) 3 && inB h3 0 5) := rfl
          rw [HNO.out, hb] at e
          exact e
        rw [hb] at q
        clear hb
        rw [show (((3 : Nat)) : Int) = (3 : Int) from rfl]
        go_upto_region 3 with fail
        refine wp_region_lit ?_
        refine l_take 9 rfl rfl (er_ix _ _ rfl (.agg #[.int .i64 h0, .int .i64 h1, .int .i64 h2, .int .i64 h3, .int .i64 h4, .int .i64 h5, .int .i64 h6, .int .i64 h7]) (.int .i64 3) (.int .i64 h3) rfl rfl (by kernel_rfl)) ?_
        simp only [Act.put, List.setIfInBounds_toArray, List.set_cons_zero, List.set_cons_succ]
        go_wp2_with (go_at_call 106; refine (q _).mono ?_; rintro e w' ⟨rfl, rfl⟩)
        go_roundw
        case rel => exact ⟨3 + 1, by omega, rfl, by first | trivial | rfl, HF.out⟩
        case measure => simp [intOf]
    | 4, _ =>
      have q := fun w => within_any h4 0 5 w
      cases hb : inB h4 0 5
      · have HF : Hid (R = false) := HR.out.trans (actF_no (k := 4) hb 8 (by omega))
        rw [hb] at q
        clear hb
        rw [show (((4 : Nat)) : Int) = (4 : Int) from rfl]
        go_upto_region 3 with fail
        refine wp_region_lit ?_
        refine l_take 9 rfl rfl (er_ix _ _ rfl (.agg #[.int .i64 h0, .int .i64 h1, .int .i64 h2, .int .i64 h3, .int .i64 h4, .int .i64 h5, .int .i64 h6, .int .i64 h7]) (.int .i64 4) (.int .i64 h4) rfl rfl (by kernel_rfl)) ?_
        simp only [Act.put, List.setIfInBounds_toArray, List.set_cons_zero, List.set_cons_succ]
        go_wp2_with (go_at_call 106; refine (q _).mono ?_; rintro e w' ⟨rfl, rfl⟩)
        go_ret
        exact ⟨by rw [HF.out]; rfl, HK.out⟩
      · have HF : Hid (actF (hv8 h0 h1 h2 h3 h4 h5 h6 h7) (4 + 1) = true) := by
          have e : actF (hv8 h0 h1 h2 h3 h4 h5 h6 h7) (4 + 1) = (actF (hv8 h0 h1 h2 h3 h4 h5 h6 h7) 4 && inB h4 0 5) := rfl
          rw [HNO.out, hb] at e
          exact e
        rw [hb] at q
        clear hb
        rw [show (((4 : Nat)) : Int) = (4 : Int) from rfl]
        go_upto_region 3 with fail
        refine wp_region_lit ?_
        refine l_take 9 rfl rfl (er_ix _ _ rfl (.agg #[.int .i64 h0, .int .i64 h1, .int .i64 h2, .int .i64 h3, .int .i64 h4, .int .i64 h5, .int .i64 h6, .int .i64 h7]) (.int .i64 4) (.int .i64 h4) rfl rfl (by kernel_rfl)) ?_
        simp only [Act.put, List.setIfInBounds_toArray, List.set_cons_zero, List.set_cons_succ]
        go_wp2_with (go_at_call 106; refine (q _).mono ?_; rintro e w' ⟨rfl, rfl⟩)
        go_roundw
        case rel => exact ⟨4 + 1, by omega, rfl, by first | trivial | rfl, HF.out⟩
        case measure => simp [intOf]
    | 5, _ =>
      have q := fun w => within_any h5 0 5 w
      cases hb : inB h5 0 5
      · have HF : Hid (R = false) := HR.out.trans (actF_no (k := 5) hb 8 (by omega))
        rw [hb] at q
        clear hb
        rw [show (((5 : Nat)) : Int) = (5 : Int) from rfl]
        go_upto_region 3 with fail
        refine wp_region_lit ?_
        refine l_take 9 rfl rfl (er_ix _ _ rfl (.agg #[.int .i64 h0, .int .i64 h1, .int .i64 h2, .int .i64 h3, .int .i64 h4, .int .i64 h5, .int .i64 h6, .int .i64 h7]) (.int .i64 5) (.int .i64 h5) rfl rfl (by kernel_rfl)) ?_
        simp only [Act.put, List.setIfInBounds_toArray, List.set_cons_zero, List.set_cons_succ]
        go_wp2_with (go_at_call 106; refine (q _).mono ?_; rintro e w' ⟨rfl, rfl⟩)
        go_ret
        exact ⟨by rw [HF.out]; rfl, HK.out⟩
      · have HF : Hid (actF (hv8 h0 h1 h2 h3 h4 h5 h6 h7) (5 + 1) = true) := by
          have e : actF (hv8 h0 h1 h2 h3 h4 h5 h6 h7) (5 + 1) = (actF (hv8 h0 h1 h2 h3 h4 h5 h6 h7) 5 && inB h5 0 5) := rfl
          rw [HNO.out, hb] at e
          exact e
        rw [hb] at q
        clear hb
        rw [show (((5 : Nat)) : Int) = (5 : Int) from rfl]
        go_upto_region 3 with fail
        refine wp_region_lit ?_
        refine l_take 9 rfl rfl (er_ix _ _ rfl (.agg #[.int .i64 h0, .int .i64 h1, .int .i64 h2, .int .i64 h3, .int .i64 h4, .int .i64 h5, .int .i64 h6, .int .i64 h7]) (.int .i64 5) (.int .i64 h5) rfl rfl (by kernel_rfl)) ?_
        simp only [Act.put, List.setIfInBounds_toArray, List.set_cons_zero, List.set_cons_succ]
        go_wp2_with (go_at_call 106; refine (q _).mono ?_; rintro e w' ⟨rfl, rfl⟩)
        go_roundw
        case rel => exact ⟨5 + 1, by omega, rfl, by first | trivial | rfl, HF.out⟩
        case measure => simp [intOf]
    | 6, _ =>
      have q := fun w => within_any h6 0 5 w
      cases hb : inB h6 0 5
      · have HF : Hid (R = false) := HR.out.trans (actF_no (k := 6) hb 8 (by omega))
        rw [hb] at q
        clear hb
        rw [show (((6 : Nat)) : Int) = (6 : Int) from rfl]
        go_upto_region 3 with fail
        refine wp_region_lit ?_
        refine l_take 9 rfl rfl (er_ix _ _ rfl (.agg #[.int .i64 h0, .int .i64 h1, .int .i64 h2, .int .i64 h3, .int .i64 h4, .int .i64 h5, .int .i64 h6, .int .i64 h7]) (.int .i64 6) (.int .i64 h6) rfl rfl (by kernel_rfl)) ?_
        simp only [Act.put, List.setIfInBounds_toArray, List.set_cons_zero, List.set_cons_succ]
        go_wp2_with (go_at_call 106; refine (q _).mono ?_; rintro e w' ⟨rfl, rfl⟩)
        go_ret
        exact ⟨by rw [HF.out]; rfl, HK.out⟩
      · have HF : Hid (actF (hv8 h0 h1 h2 h3 h4 h5 h6 h7) (6 + 1) = true) := by
          have e : actF (hv8 h0 h1 h2 h3 h4 h5 h6 h7) (6 + 1) = (actF (hv8 h0 h1 h2 h3 h4 h5 h6 h7) 6 && inB h6 0 5) := rfl
          rw [HNO.out, hb] at e
          exact e
        rw [hb] at q
        clear hb
        rw [show (((6 : Nat)) : Int) = (6 : Int) from rfl]
        go_upto_region 3 with fail
        refine wp_region_lit ?_
        refine l_take 9 rfl rfl (er_ix _ _ rfl (.agg #[.int .i64 h0, .int .i64 h1, .int .i64 h2, .int .i64 h3, .int .i64 h4, .int .i64 h5, .int .i64 h6, .int .i64 h7]) (.int .i64 6) (.int .i64 h6) rfl rfl (by kernel_rfl)) ?_
        simp only [Act.put, List.setIfInBounds_toArray, List.set_cons_zero, List.set_cons_succ]
        go_wp2_with (go_at_call 106; refine (q _).mono ?_; rintro e w' ⟨rfl, rfl⟩)
        go_roundw
        case rel => exact ⟨6 + 1, by omega, rfl, by first | trivial | rfl, HF.out⟩
        case measure => simp [intOf]
    | 7, _ =>
      have q := fun w => within_any h7 0 5 w
      cases hb : inB h7 0 5
      · have HF : Hid (R = false) := HR.out.trans (actF_no (k := 7) hb 8 (by omega))
        rw [hb] at q
        clear hb
        rw [show (((7 : Nat)) : Int) = (7 : Int) from rfl]
        go_upto_region 3 with fail
        refine wp_region_lit ?_
        refine l_take 9 rfl rfl (er_ix _ _ rfl (.agg #[.int .i64 h0, .int .i64 h1, .int .i64 h2, .int .i64 h3, .int .i64 h4, .int .i64 h5, .int .i64 h6, .int .i64 h7]) (.int .i64 7) (.int .i64 h7) rfl rfl (by kernel_rfl)) ?_
        simp only [Act.put, List.setIfInBounds_toArray, List.set_cons_zero, List.set_cons_succ]
        go_wp2_with (go_at_call 106; refine (q _).mono ?_; rintro e w' ⟨rfl, rfl⟩)
        go_ret
        exact ⟨by rw [HF.out]; rfl, HK.out⟩
      · have HF : Hid (actF (hv8 h0 h1 h2 h3 h4 h5 h6 h7) (7 + 1) = true) := by
          have e : actF (hv8 h0 h1 h2 h3 h4 h5 h6 h7) (7 + 1) = (actF (hv8 h0 h1 h2 h3 h4 h5 h6 h7) 7 && inB h7 0 5) := rfl
          rw [HNO.out, hb] at e
          exact e
        rw [hb] at q
        clear hb
        rw [show (((7 : Nat)) : Int) = (7 : Int) from rfl]
        go_upto_region 3 with fail
        refine wp_region_lit ?_
        refine l_take 9 rfl rfl (er_ix _ _ rfl (.agg #[.int .i64 h0, .int .i64 h1, .int .i64 h2, .int .i64 h3, .int .i64 h4, .int .i64 h5, .int .i64 h6, .int .i64 h7]) (.int .i64 7) (.int .i64 h7) rfl rfl (by kernel_rfl)) ?_
        simp only [Act.put, List.setIfInBounds_toArray, List.set_cons_zero, List.set_cons_succ]
        go_wp2_with (go_at_call 106; refine (q _).mono ?_; rintro e w' ⟨rfl, rfl⟩)
        go_roundw
        case rel => exact ⟨7 + 1, by omega, rfl, by first | trivial | rfl, HF.out⟩
        case measure => simp [intOf]
    | 8, _ =>
      rw [show (((8 : Nat)) : Int) = (8 : Int) from rfl]
      go_wp2
      go_ret
      exact ⟨by rw [HR.out, HNO.out]; rfl, HK.out⟩
end Go.Proofs.YtnmhcnppdhdhfaaGreatDoor

namespace Go.Proofs.YtnmhcnppdhdhfaaGreatDoor
open Go.RowKit
set_option linter.unusedVariables false
set_option linter.unusedSimpArgs false
set_option maxRecDepth 100000

def rsPt : Nat → Rw
  | 0 => ⟨110, .func (.func 112) #[] #[], .nilFunc, .nilFunc, rfl, rfl, rfl⟩
  | 1 => ⟨110, .func (.func 113) #[] #[], .nilFunc, .nilFunc, rfl, rfl, rfl⟩
  | 2 => ⟨104, .func (.func 114) #[] #[], .nilFunc, .nilFunc, rfl, rfl, rfl⟩
  | 3 => ⟨0, .nilFunc, .nilFunc, .func (.func 115) #[] #[], rfl, rfl, rfl⟩
  | 4 => ⟨0, .nilFunc, .nilFunc, .func (.func 118) #[] #[], rfl, rfl, rfl⟩
  | 5 => ⟨0, .nilFunc, .nilFunc, .func (.func 121) #[] #[], rfl, rfl, rfl⟩
  | 6 => ⟨109, .func (.func 124) #[] #[], .nilFunc, .nilFunc, rfl, rfl, rfl⟩
  | 7 => ⟨109, .func (.func 125) #[] #[], .nilFunc, .nilFunc, rfl, rfl, rfl⟩
  | _ => ⟨109, .func (.func 126) #[] #[], .nilFunc, .nilFunc, rfl, rfl, rfl⟩
theorem tablePt (w : World) : Calls Tryz.prog 72 #[] w fun e w' => ∃ tb, e = .returned (.slice (some ⟨tb, 0, none⟩) 9 9) ∧ Tb w' tb 9 rsPt ∧ Kept No w w' := by
  have HK : Hid (∀ o, Kept No w (w.alloc o)) := fun o => (Kept.refl No w).alloc o
  go_enter Tryz.func72, Tryz.ntmps72
  go_wp2
  go_ret
  refine ⟨_, rfl, ?_, HK.out _⟩
  intro j hj
  match j, hj with
  | 0, _ => exact ⟨by simp [rsPt], by simp [rsPt], by simp [rsPt], by simp [rsPt]⟩
  | 1, _ => exact ⟨by simp [rsPt], by simp [rsPt], by simp [rsPt], by simp [rsPt]⟩
  | 2, _ => exact ⟨by simp [rsPt], by simp [rsPt], by simp [rsPt], by simp [rsPt]⟩
  | 3, _ => exact ⟨by simp [rsPt], by simp [rsPt], by simp [rsPt], by simp [rsPt]⟩
  | 4, _ => exact ⟨by simp [rsPt], by simp [rsPt], by simp [rsPt], by simp [rsPt]⟩
  | 5, _ => exact ⟨by simp [rsPt], by simp [rsPt], by simp [rsPt], by simp [rsPt]⟩
  | 6, _ => exact ⟨by simp [rsPt], by simp [rsPt], by simp [rsPt], by simp [rsPt]⟩
  | 7, _ => exact ⟨by simp [rsPt], by simp [rsPt], by simp [rsPt], by simp [rsPt]⟩
  | 8, _ => exact ⟨by simp [rsPt], by simp [rsPt], by simp [rsPt], by simp [rsPt]⟩
/-- the error of a partition by each rule -/
def ePt (x : Pn) : Nat → Int
  | 0 => if inB x.fi 0 x.wo then 0 else 110
  | 1 => if decide ((x.init.length : Int) ≤ x.wo) then 0 else 110
  | 2 => if decide ((x.code.length : Int) > 0) then 0 else 104
  | 3 => fe (eachF (fun i => rowsF (fun j => if bPrc x.code.length (x.procs.getD i ⟨0, 0, 0, 0, 0, false⟩) j then 0 else 105) 6) 1 x.procs.length)
  | 4 => fe (eachF (fun i => rowsF (fun j => if bSm (x.sems.getD i ⟨0, 0⟩) j then 0 else 106) 2) 1 x.sems.length)
  | 5 => fe (eachF (fun i => rowsF (fun j => if bBf (x.bufs.getD i ⟨0, 0⟩) j then 0 else 106) 2) 1 x.bufs.length)
  | 6 => if x.h0 == 0 then 0 else 109
  | 7 => if actF (hv8 x.h0 x.h1 x.h2 x.h3 x.h4 x.h5 x.h6 x.h7) 8 then 0 else 109
  | _ => if hanF x.ha x.procs x.procs.length then 0 else 109

set_option maxHeartbeats 2000000 in
theorem each_Pt (F : Nat → Prop) (a : Option Addr) (n c : Nat) (xs : List Pn) (tb : Nat) (w : World) (hg : Gl w) (h : Ls 21 elPn w F a n c xs) (hT : Tb w tb 9 rsPt) :
    Calls Tryz.prog 67 #[.slice a n c, .int .i64 1, .slice (some ⟨tb, 0, none⟩) 9 9] w fun e w' => e = .returned (fv (eachF (fun i => rowsF (ePt (xs.getD i dPn)) 9) 1 n)) ∧ Kept No w w' := by
  obtain ⟨cs, hcs⟩ := pn_cells h
  refine eachPn 1 a n c cs tb 9 9 rsPt (fun i j => ePt (xs.getD i dPn) j) w h.cap h.max (fun i hi => (hcs i hi).1) (fun i hi => ⟨(hcs i hi).2.1, (hcs i hi).2.2.1⟩) (by omega) hT (by omega) (by omega) ?_
  intro i j w' hi hj hw
  obtain ⟨_, hl, _, hE⟩ := hcs i hi
  have hE' := elPn_kept hw (fun _ _ h => h) _ _ hE
  have hg' : Gl w' := hg.kept hw
  obtain ⟨a0, n0, c0, a1, n1, c1, a2, n2, c2, a3, n3, c3, a4, n4, c4, a5, n5, c5, e, l0, l1, l2, l3, l4, l5⟩ := hE'.sl
  have q0 := l0.len
  have q1 := l1.len
  have q2 := l2.len
  have q3 := l3.len
  have q5 := l5.len
  clear hE hE'
  generalize xs.getD i dPn = x at *
  generalize cs i = ci at *
  subst q0 q1 q2 q3 q5
  have f4 : ci[4]? = some (.int .i64 x.wo) := by rw [e]; rfl
  have f5 : ci[5]? = some (.int .i64 x.fi) := by rw [e]; rfl
  have f6 : ci[6]? = some (.slice a0 x.init.length c0) := by rw [e]; rfl
  have f7 : ci[7]? = some (.slice a1 x.code.length c1) := by rw [e]; rfl
  have f8 : ci[8]? = some (.slice a2 x.procs.length c2) := by rw [e]; rfl
  have f9 : ci[9]? = some (.int .i64 x.ha) := by rw [e]; rfl
  have f18 : ci[18]? = some (.slice a3 x.sems.length c3) := by rw [e]; rfl
  have f20 : ci[20]? = some (.slice a5 x.bufs.length c5) := by rw [e]; rfl
  match j, hj with
  | 0, _ => exact findsPn_al 110 _ #[] ci hl a i c w' (enters_of Tryz.func112 (by kernel_rfl) rfl) _ (fun w2 _ => part1 ci x.wo x.fi w2 f4 f5)
  | 1, _ => exact findsPn_al 110 _ #[] ci hl a i c w' (enters_of Tryz.func113 (by kernel_rfl) rfl) _ (fun w2 _ => part2 ci x.wo a0 _ c0 (Nat.le_trans l0.cap l0.max) w2 f4 f6)
  | 2, _ => exact findsPn_al 104 _ #[] ci hl a i c w' (enters_of Tryz.func114 (by kernel_rfl) rfl) _ (fun w2 _ => part3 ci a1 _ c1 (Nat.le_trans l1.cap l1.max) w2 f7)
  | 3, _ => exact findsPn_inner 0 _ #[] ci hl a i c w' hg' (enters_of Tryz.func115 (by kernel_rfl) rfl) _ (fun w2 hw2 => part4 F ci a1 _ c1 a2 _ c2 x.procs w2 (Nat.le_trans l1.cap l1.max) f7 f8 (lsPrc_keep l2 hw2))
  | 4, _ => exact findsPn_inner 0 _ #[] ci hl a i c w' hg' (enters_of Tryz.func118 (by kernel_rfl) rfl) _ (fun w2 hw2 => part5 F ci a3 _ c3 x.sems w2 f18 (lsSm_keep l3 hw2))
  | 5, _ => exact findsPn_inner 0 _ #[] ci hl a i c w' hg' (enters_of Tryz.func121 (by kernel_rfl) rfl) _ (fun w2 hw2 => part6 F ci a5 _ c5 x.bufs w2 f20 (lsBf_keep l5 hw2))
  | 6, _ => exact findsPn_al 109 _ #[] ci hl a i c w' (enters_of Tryz.func124 (by kernel_rfl) rfl) _ (fun w2 _ => part7 ci x.h0 w2 (by rw [e]; rfl))
  | 7, _ => exact findsPn_al 109 _ #[] ci hl a i c w' (enters_of Tryz.func125 (by kernel_rfl) rfl) _ (fun w2 _ => hasActions_any ci x.h0 x.h1 x.h2 x.h3 x.h4 x.h5 x.h6 x.h7 w2 (by rw [e]; rfl) (by rw [e]; rfl) (by rw [e]; rfl) (by rw [e]; rfl) (by rw [e]; rfl) (by rw [e]; rfl) (by rw [e]; rfl) (by rw [e]; rfl))
  | 8, _ => exact findsPn_al 109 _ #[] ci hl a i c w' (enters_of Tryz.func126 (by kernel_rfl) rfl) _ (fun w2 hw2 => hasHandler_any F ci x.ha a2 _ c2 x.procs w2 f9 f8 (lsPrc_keep l2 hw2))
end Go.Proofs.YtnmhcnppdhdhfaaGreatDoor
