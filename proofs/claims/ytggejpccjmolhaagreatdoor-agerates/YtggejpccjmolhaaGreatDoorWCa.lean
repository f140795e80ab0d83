/-
  age.carrier, age.rate.
-/
import Derived.Test.YtggejpccjmolhaaGreatDoorG41
import Derived.Test.YtggejpccjmolhaaGreatDoorG41
import Derived.Deep.RegionWith
namespace Go.Proofs.YtggejpccjmolhaaGreatDoor
open Go.RowKit Plain
set_option linter.unusedVariables false
set_option linter.unusedSimpArgs false
set_option maxRecDepth 100000

/-- a channel of that number carries -/
def cnB (L : List Ch) (k : Int) : Bool := inB k 1 L.length && ((chNo L k).kd == 1 && (chNo L k).fr != 0)
theorem bk_push (w : World) (cs : List Value) (t : TypeId) : Bk (w.alloc (.cells cs.toArray t)) w.heap.size cs t := heap_alloc_new w _
theorem bk_two (w : World) (o : Obj) (cs : List Value) (t : TypeId) : Bk ((w.alloc o).alloc (.cells cs.toArray t)) (w.heap.size + 1) cs t := heap_two w o _

set_option maxHeartbeats 8000000 in
theorem carrier_any (F : Nat → Prop) (v0 v1 : Value) (a : Option Addr) (n c : Nat) (L : List Ch) (k : Int) (w : World) (hL : Ls 5 elCh w F a n c L) (hk6 : -9223372036854775808 ≤ k ∧ k ≤ 9223372036854775807) :
    Calls Tryz.prog 38 #[.agg #[v0, v1, .slice a n c], .int .i64 k] w fun e w' => ∃ ta tn tc, e = .returned (.tuple #[.agg #[.int .i64 (chNo L k).kd, .int .i64 (chNo L k).fr, .slice ta tn tc, .int .i64 (chNo L k).ph, .int .i64 (chNo L k).pe], .bool (cnB L k)]) ∧ Kept No w w' := by
  have hlen := hL.len
  obtain ⟨R, hR⟩ : ∃ R, R = cnB L k := ⟨_, rfl⟩
  rw [← hR]
  unfold cnB at hR
  rw [hlen] at hR
  have HK : Hid (Kept No w ((w.alloc (.cells #[v0, v1, .slice a n c] 26)).alloc (.cells #[.int .i64 0, .int .i64 0, .slice none 0 0, .int .i64 0, .int .i64 0] 34))) := ((Kept.refl No w).alloc _).alloc _
  have B4 : Hid (Bk ((w.alloc (.cells #[v0, v1, .slice a n c] 26)).alloc (.cells #[.int .i64 0, .int .i64 0, .slice none 0 0, .int .i64 0, .int .i64 0] 34)) (w.heap.size + 1) [.int .i64 0, .int .i64 0, .slice none 0 0, .int .i64 0, .int .i64 0] 34) := bk_two w _ _ _
  have cC := achanOf_any F v0 v1 a n c L k _ (hL.kept HK.out (fun _ _ h => h) (elCh_kept HK.out (fun _ _ h => h))) hk6
  generalize chNo L k = z at *
  obtain ⟨z0, z1, z2, z3, z4⟩ := z
  simp only at hR cC
  simp only
  generalize inB k 1 n = ok at *
  have HR := hid hR
  clear hL hR hlen
  go_enter Tryz.func38, Tryz.ntmps38
  go_upto_region 2 with (go_at_call 13; refine cC.mono ?_; clear cC; rintro e w1 ⟨ta, tn, tc, rfl, k1⟩; have K1 : Hid (Kept No w w1) := HK.out.trans k1 (fun _ h => h.elim); have B1 : Hid (Bk w1 (w.heap.size + 1) [.int .i64 0, .int .i64 0, .slice none 0 0, .int .i64 0, .int .i64 0] 34) := B4.out.kept k1 (fun h => h); clear k1)
  have B6 : Hid (Bk (w1.alloc (.cells #[.int .i64 z0, .int .i64 z1, .slice ta tn tc, .int .i64 z3, .int .i64 z4] 34)) w1.heap.size [.int .i64 z0, .int .i64 z1, .slice ta tn tc, .int .i64 z3, .int .i64 z4] 34) := bk_push w1 _ _
  have B2 : Hid (Bk (w1.alloc (.cells #[.int .i64 z0, .int .i64 z1, .slice ta tn tc, .int .i64 z3, .int .i64 z4] 34)) (w.heap.size + 1) [.int .i64 0, .int .i64 0, .slice none 0 0, .int .i64 0, .int .i64 0] 34) := B1.out.kept ((Kept.refl No w1).alloc _) (fun h => h)
  have K2 : Hid (Kept No w (w1.alloc (.cells #[.int .i64 z0, .int .i64 z1, .slice ta tn tc, .int .i64 z3, .int .i64 z4] 34))) := K1.out.alloc _
  have HLT : Hid (w.heap.size + 1 < w1.heap.size) := B1.out.lt
  generalize w1.alloc (.cells #[.int .i64 z0, .int .i64 z1, .slice ta tn tc, .int .i64 z3, .int .i64 z4] 34) = w2 at *
  obtain ⟨b6, hb6⟩ : ∃ b6, b6 = w1.heap.size := ⟨_, rfl⟩
  obtain ⟨b4, hb4⟩ : ∃ b4, b4 = w.heap.size + 1 := ⟨_, rfl⟩
  rw [← hb6] at B6 HLT ⊢
  rw [← hb4] at B2 HLT ⊢
  have HB4 := hid hb4
  clear hb6 hb4 B1 K1 B4 HK
  have c0 := B6.out.cell (j := 0) rfl
  have c1 := B6.out.cell (j := 1) rfl
  have c2 := B6.out.cell (j := 2) rfl
  have c3 := B6.out.cell (j := 3) rfl
  have c4 := B6.out.cell (j := 4) rfl
  have d0 := B2.out.cell (j := 0) rfl
  have d1 := B2.out.cell (j := 1) rfl
  have d2 := B2.out.cell (j := 2) rfl
  have d3 := B2.out.cell (j := 3) rfl
  have d4 := B2.out.cell (j := 4) rfl
  have f0 := B2.out.fz 0
  have f1 := B2.out.fz 1
  have f2 := B2.out.fz 2
  have f3 := B2.out.fz 3
  have f4 := B2.out.fz 4
  clear B6
  have HS : Hid (∀ W, Kept No w2 W → Bk ((((( W.setCell ⟨b4, 0, none⟩ (.int .i64 z0)).setCell ⟨b4, 1, none⟩ (.int .i64 z1)).setCell ⟨b4, 2, none⟩ (.slice ta tn tc)).setCell ⟨b4, 3, none⟩ (.int .i64 z3)).setCell ⟨b4, 4, none⟩ (.int .i64 z4)) b4 [.int .i64 z0, .int .i64 z1, .slice ta tn tc, .int .i64 z3, .int .i64 z4] 34) := fun W k => (((((B2.out.kept k (fun h => h)).set 0 _).set 1 _).set 2 _).set 3 _).set 4 _
  have HKS : Hid (∀ W, Kept No w2 W → Kept No w ((((( W.setCell ⟨b4, 0, none⟩ (.int .i64 z0)).setCell ⟨b4, 1, none⟩ (.int .i64 z1)).setCell ⟨b4, 2, none⟩ (.slice ta tn tc)).setCell ⟨b4, 3, none⟩ (.int .i64 z3)).setCell ⟨b4, 4, none⟩ (.int .i64 z4))) := fun W k => by
    have k5 : Kept (fun i => i = b4) W ((((( W.setCell ⟨b4, 0, none⟩ (.int .i64 z0)).setCell ⟨b4, 1, none⟩ (.int .i64 z1)).setCell ⟨b4, 2, none⟩ (.slice ta tn tc)).setCell ⟨b4, 3, none⟩ (.int .i64 z3)).setCell ⟨b4, 4, none⟩ (.int .i64 z4)) := (((((Kept.refl (fun i => i = b4) W).setCell (p := ⟨b4, 0, none⟩) (.inl rfl) _).setCell (p := ⟨b4, 1, none⟩) (.inl rfl) _).setCell (p := ⟨b4, 2, none⟩) (.inl rfl) _).setCell (p := ⟨b4, 3, none⟩) (.inl rfl) _).setCell (p := ⟨b4, 4, none⟩) (.inl rfl) _
    exact (K2.out.trans k (fun _ h => h.elim)).trans k5 (fun i hi => .inr (by subst hi; have := HB4.out; omega))
  have ne1 : ¬ b6 = b4 := by have := HLT.out; omega
  have ne2 : ¬ b4 = b6 := by have := HLT.out; omega
  clear B2 K2
  cases ok
  · have HR2 : Hid (R = false) := by rw [HR.out]; rfl
    clear HR
    go_region
    (try go_wp2)
    (try simp only [Exit.inBlock, Exit.then])
    refine bodyPost_ret (results_ctA rfl _ _ b4 (.agg #[.int .i64 z0, .int .i64 z1, .slice ta tn tc, .int .i64 z3, .int .i64 z4]) rfl ?_) rfl ?_
    · exact run_loadVar_row (P := Tryz.prog) _ b4 34 34 #[.int .i64 z0, .int .i64 z1, .slice ta tn tc, .int .i64 z3, .int .i64 z4] (0, 0) _ (HS.out w2 (Kept.refl _ _)) Tryz.underlying34 rfl (by kernel_rfl)
    · exact ⟨ta, tn, tc, by rw [HR2.out]; rfl, (HKS.out w2 (Kept.refl _ _)).drew⟩
  · by_cases h0 : z0 = 1
    · subst h0
      by_cases h1 : z1 = 0
      · subst h1
        have HR2 : Hid (R = false) := by rw [HR.out]; rfl
        clear HR
        go_region
        (try go_wp2)
        (try simp only [Exit.inBlock, Exit.then])
        refine bodyPost_ret (results_ctA rfl _ _ b4 (.agg #[.int .i64 1, .int .i64 0, .slice ta tn tc, .int .i64 z3, .int .i64 z4]) rfl ?_) rfl ?_
        · exact run_loadVar_row (P := Tryz.prog) _ b4 34 34 #[.int .i64 1, .int .i64 0, .slice ta tn tc, .int .i64 z3, .int .i64 z4] (0, 0) _ (HS.out w2 (Kept.refl _ _)) Tryz.underlying34 rfl (by kernel_rfl)
        · exact ⟨ta, tn, tc, by rw [HR2.out]; rfl, (HKS.out w2 (Kept.refl _ _)).drew⟩
      · have g1 : (z1 != 0) = true := by simpa using h1
        have g1' : (z1 == 0) = false := by simpa using h1
        have HR2 : Hid (R = true) := by rw [HR.out, g1]; rfl
        clear HR
        go_region
        (try go_wp2)
        (try simp only [Exit.inBlock, Exit.then])
        refine bodyPost_ret (results_ctA rfl _ _ b4 (.agg #[.int .i64 1, .int .i64 z1, .slice ta tn tc, .int .i64 z3, .int .i64 z4]) rfl ?_) rfl ?_
        · exact run_loadVar_row (P := Tryz.prog) _ b4 34 34 #[.int .i64 1, .int .i64 z1, .slice ta tn tc, .int .i64 z3, .int .i64 z4] (0, 0) _ (HS.out w2 (Kept.refl _ _)) Tryz.underlying34 rfl (by kernel_rfl)
        · exact ⟨ta, tn, tc, by rw [HR2.out]; rfl, (HKS.out w2 (Kept.refl _ _)).drew⟩
    · have g0 : (z0 == 1) = false := by simpa using h0
      have HR2 : Hid (R = false) := by rw [HR.out, g0]; rfl
      clear HR
      go_region
      (try go_wp2)
      (try simp only [Exit.inBlock, Exit.then])
      refine bodyPost_ret (results_ctA rfl _ _ b4 (.agg #[.int .i64 z0, .int .i64 z1, .slice ta tn tc, .int .i64 z3, .int .i64 z4]) rfl ?_) rfl ?_
      · exact run_loadVar_row (P := Tryz.prog) _ b4 34 34 #[.int .i64 z0, .int .i64 z1, .slice ta tn tc, .int .i64 z3, .int .i64 z4] (0, 0) _ (HS.out w2 (Kept.refl _ _)) Tryz.underlying34 rfl (by kernel_rfl)
      · exact ⟨ta, tn, tc, by rw [HR2.out]; rfl, (HKS.out w2 (Kept.refl _ _)).drew⟩

/-- what rate tells -/
def rtB (L : List Ch) (k t : Int) : Bool := cnB L k && (inB t 0 1099511627776 && countB 0 (chNo L k).pe)
def rtV (L : List Ch) (k t : Int) : Int := if cnB L k && inB t 0 1099511627776 then countV 0 (chNo L k).pe 0 t else 0
set_option maxHeartbeats 8000000 in
theorem rate_any (F : Nat → Prop) (v0 v1 : Value) (a : Option Addr) (n c : Nat) (L : List Ch) (k t : Int) (w : World) (hL : Ls 5 elCh w F a n c L) (hk6 : -9223372036854775808 ≤ k ∧ k ≤ 9223372036854775807) :
    Calls Tryz.prog 24 #[.agg #[v0, v1, .slice a n c], .int .i64 k, .int .i64 t] w fun e w' => e = .returned (.tuple #[.int .i64 (rtV L k t), .bool (rtB L k t)]) ∧ Kept No w w' := by
  have K0 : Kept No w (w.alloc (.cells #[v0, v1, .slice a n c] 26)) := (Kept.refl No w).alloc _
  have HK := hid K0
  have cC := carrier_any F v0 v1 a n c L k _ (hL.kept HK.out (fun _ _ h => h) (elCh_kept HK.out (fun _ _ h => h))) hk6
  obtain ⟨V, hV⟩ : ∃ V, V = rtV L k t := ⟨_, rfl⟩
  obtain ⟨B, hB⟩ : ∃ B, B = rtB L k t := ⟨_, rfl⟩
  rw [← hV, ← hB]
  unfold rtV at hV
  unfold rtB at hB
  generalize chNo L k = z at *
  generalize cnB L k = ok at *
  obtain ⟨z0, z1, z2, z3, z4⟩ := z
  simp only at hV hB cC
  clear hL K0
  cases ok
  · have HV := hid (show V = 0 from hV)
    have HB := hid (show B = false from hB)
    clear hV hB
    go_enter Tryz.func24, Tryz.ntmps24
    go_wp2_with (go_at_call 38; refine cC.mono ?_; clear cC; rintro e w1 ⟨ta, tn, tc, rfl, k1⟩; have K1 : Hid (Kept No w w1) := HK.out.trans k1 (fun _ h => h.elim); clear k1)
    go_ret2
    exact ⟨by rw [HV.out, HB.out]; rfl, K1.out.alloc _⟩
  · cases hb : inB t 0 1099511627776
    · have HV := hid (show V = 0 by rw [hV, hb]; rfl)
      have HB := hid (show B = false by rw [hB, hb]; rfl)
      have cW : Hid (∀ W, Calls Tryz.prog 14 #[.int .i64 t, .int .i64 0] W fun e w' => e = .returned (.bool false) ∧ w' = W) := fun W => by rw [← hb]; exact awithin_any t 0 W
      clear hV hB hb
      go_enter Tryz.func24, Tryz.ntmps24
      go_wp2_with (first
        | (go_at_call 38; refine cC.mono ?_; clear cC; rintro e w1 ⟨ta, tn, tc, rfl, k1⟩; have K1 : Hid (Kept No w w1) := HK.out.trans k1 (fun _ h => h.elim); clear k1)
        | (go_at_call 14; refine (cW.out _).mono ?_; rintro e w2 ⟨rfl, rfl⟩))
      go_ret2
      exact ⟨by rw [HV.out, HB.out]; rfl, K1.out.alloc _⟩
    · have hb2 : 0 ≤ t ∧ t ≤ 1099511627776 := by unfold inB at hb; simp only [Bool.and_eq_true, decide_eq_true_eq] at hb; exact hb
      have HV := hid (show V = countV 0 z4 0 t by rw [hV, hb]; rfl)
      have HB := hid (show B = countB 0 z4 by rw [hB, hb]; rfl)
      have cW : Hid (∀ W, Calls Tryz.prog 14 #[.int .i64 t, .int .i64 0] W fun e w' => e = .returned (.bool true) ∧ w' = W) := fun W => by rw [← hb]; exact awithin_any t 0 W
      have cN : Hid (∀ W, Calls Tryz.prog 39 #[.int .i64 0, .int .i64 z4, .int .i64 0, .int .i64 t] W fun e w' => e = .returned (.tuple #[.int .i64 V, .bool B]) ∧ w' = W) := fun W => by rw [HV.out, HB.out]; exact count_any 0 z4 0 t W ⟨by omega, by omega⟩ ⟨by omega, by omega⟩
      clear hV hB hb hb2
      go_enter Tryz.func24, Tryz.ntmps24
      go_wp2_with (first
        | (go_at_call 38; refine cC.mono ?_; clear cC; rintro e w1 ⟨ta, tn, tc, rfl, k1⟩; have K1 : Hid (Kept No w w1) := HK.out.trans k1 (fun _ h => h.elim); clear k1)
        | (go_at_call 14; refine (cW.out _).mono ?_; rintro e w2 ⟨rfl, rfl⟩)
        | (go_at_call 39; refine (cN.out _).mono ?_; rintro e w2 ⟨rfl, rfl⟩))
      go_ret2
      exact ⟨rfl, K1.out.alloc _⟩
end Go.Proofs.YtggejpccjmolhaaGreatDoor
