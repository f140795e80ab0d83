/-
  The walk of OccBudget, in its range.
-/
import Derived.Test.YticnkekedhhbaaaGreatDoorOBudW
namespace Go.Proofs.YticnkekedhhbaaaGreatDoor
open Go.RowKit Go.Shelf Plain
set_option linter.unusedVariables false
set_option maxRecDepth 100000
attribute [local irreducible] wpQuiet

theorem cells4' {w : World} {z : Nat} {v0 v1 v2 v3 : Value} {t : TypeId} (h : w.heap[z]? = some (.cells #[v0, v1, v2, v3] t)) : w.cell? ⟨z, 0, none⟩ = some v0 ∧ w.cell? ⟨z, 1, none⟩ = some v1 ∧ w.cell? ⟨z, 2, none⟩ = some v2 ∧ w.cell? ⟨z, 3, none⟩ = some v3 := by
  simp only [World.cell?, h]
  exact ⟨rfl, rfl, rfl, rfl⟩

section
variable {o : Oper} {a : Act} {w : World}
theorem er_idxS (x y : Operand) (ho : o.op = .indexAddr 22 x y) (b off n c d : Nat) (hd : d < n) (hn : n ≤ 9223372036854775807) (hx : a.eval x = .slice (some ⟨b, off, none⟩) n c) (hy : a.eval y = .int .i64 d) : (execOp a.eval o).run Tryz.prog w = .ok (.value (.pointer (some ⟨b, off + d * 4, none⟩))) w := by
  simp only [execOp, ho, hx, hy]
  simp [go_sem, add_none]
  omega
theorem er_leq (x y : Operand) (ho : o.op = .binOp .leq 3 x y 3) (k l : Int) (hx : a.eval x = .int .i64 k) (hy : a.eval y = .int .i64 l) : (execOp a.eval o).run Tryz.prog w = .ok (.value (.bool (decide (k ≤ l)))) w := by
  simp only [execOp, ho, hx, hy]; simp [go_sem]
theorem er_pickT (c x y : Operand) (ho : o.op = .pick c x y) (v : Value) (hc : a.eval c = .bool true) (hx : a.eval x = v) : (execOp a.eval o).run Tryz.prog w = .ok (.value v) w := by
  subst hx
  simp only [execOp, ho, hc]; simp [go_sem]
theorem er_pickF (c x y : Operand) (ho : o.op = .pick c x y) (v : Value) (hc : a.eval c = .bool false) (hx : a.eval y = v) : (execOp a.eval o).run Tryz.prog w = .ok (.value v) w := by
  subst hx
  simp only [execOp, ho, hc]; simp [go_sem]
end
theorem list_val {ops : Array Oper} {Q : Exit → Act → World → Prop} {a : Act} {w : World} {rest : List Oper} {o : Oper} {v : Value} (hg : o.guard = none) (hr : (execOp a.eval o).run Tryz.prog w = .ok (.value v) w) (h : wpList Tryz.prog ops Q rest (a.put o.dst v) w) : wpList Tryz.prog ops Q (o :: rest) a w := by
  unfold wpList
  rw [if_pos (by simp [Region.wanted, hg])]
  left
  unfold Oper.wp
  rw [hr]
  exact h

set_option maxHeartbeats 4000000 in
theorem budget_in {F : Nat → Prop} {a : Option Addr} {c : Nat} {xs : List Srv} (i K : Nat) (w : World) (hg : Gl w) (h : Sv w F a xs.length c xs) (hF : ∀ k, F k → k < w.heap.size) (htm : timF xs xs.length = none) (hi : i < xs.length) (hK : K < 1099511627776) :
    Calls Tryz.prog 5 #[.slice a xs.length c, .int .i64 ((i : Int) + 1), .int .i64 K] w fun e w' => e = .returned (.bool true) ∧ Below w.heap.size w w' := by
  have hv := vd_of htm
  have hn := hv.num
  have hc := hyper_any F a xs.length c xs w hg h
  rw [(tim_yes htm).1, (tim_yes htm).2] at hc
  have HWK : Hid (∀ W, Kept No w W → Calls Tryz.prog 9 #[] W fun e w' => e = .returned (.bool true) ∧ Kept No W w') := fun W hk => works_any W (hg.kept hk)
  have HSP : Hid (∀ W fr below, fr ≤ below → below ≤ 1099511627776 → Kept No w W → Calls Tryz.prog 14 #[.slice a xs.length c, .int .i64 ((i : Int) + 1), .int .i64 (fr : Nat), .int .i64 (below : Nat)] W fun e w' => e = .returned (.tuple #[.int .i64 ((Rule.cnt (Rule.occ (sys xs)) (i + 1) below : Int) - (Rule.cnt (Rule.occ (sys xs)) (i + 1) fr : Int)), .int .i64 0]) ∧ Kept No W w') := fun W fr below h1 h2 hk => supply_yes (i + 1) fr below W (hg.kept hk) (h.keep hk) (fun k hk' => by have := hF k hk'; have := hk.size; omega) htm (by omega) (by omega) h1 h2
  obtain ⟨x, hx⟩ : ∃ x, xs[i]? = some x := ⟨xs[i], by rw [List.getElem?_eq_getElem hi]⟩
  have hgs : gs xs i = x := by unfold gs; rw [List.getD_eq_getElem?_getD, hx]; rfl
  have hP := hv.per i hi
  have hB := hv.bud i hi
  have hO := hv.off i hi
  rw [hgs] at hP hB hO
  have hok := (h.at' i x hx).1.2.2.2
  have HV : Hid (Vd xs) := hv
  have HS : Hid (Sv w F a xs.length c xs ∧ (∀ k, F k → k < w.heap.size)) := ⟨h, hF⟩
  have hPn : (sys xs).P i = x.p.toNat := by show (gs xs i).p.toNat = _; rw [hgs]
  have hBn : (sys xs).B i = x.b.toNat := by show (gs xs i).b.toNat = _; rw [hgs]
  have hOn : (sys xs).O i = x.o.toNat := by show (gs xs i).o.toNat = _; rw [hgs]
  have hqn : (sys xs).pr i = x.q := by show (gs xs i).q = _; rw [hgs]
  obtain ⟨P, B, O, q⟩ := x
  dsimp only at hP hB hO hPn hBn hOn hqn hok
  obtain ⟨P, rfl⟩ : ∃ n : Nat, P = (n : Int) := ⟨P.toNat, by omega⟩
  obtain ⟨B, rfl⟩ : ∃ n : Nat, B = (n : Int) := ⟨B.toNat, by omega⟩
  obtain ⟨O, rfl⟩ : ∃ n : Nat, O = (n : Int) := ⟨O.toNat, by omega⟩
  rw [Int.toNat_natCast] at hPn hBn hOn
  have HX : Hid (xs[i]? = some ⟨(P : Int), (B : Int), (O : Int), q⟩ ∧ gs xs i = ⟨(P : Int), (B : Int), (O : Int), q⟩) := ⟨hx, hgs⟩
  have HN : Hid ((sys xs).P i = P ∧ (sys xs).B i = B ∧ (sys xs).O i = O ∧ (sys xs).pr i = q) := ⟨hPn, hBn, hOn, hqn⟩
  unfold I6 at hok
  clear h hF hg htm hv hx hgs hPn hBn hOn hqn
  have eI : ((i : Int) + 1) - 1 = (i : Int) := by omega
  obtain ⟨D, hD⟩ : ∃ D, (1099511627776 - (O : Int)) / P = D := ⟨_, rfl⟩
  have d1 : 0 ≤ D := by rw [← hD]; exact Int.ediv_nonneg (by omega) (by omega)
  have d2 : D ≤ 1099511627776 - (O : Int) := by rw [← hD]; exact Int.ediv_le_self _ (by omega)
  have eD : Int.tdiv (1099511627776 - (O : Int)) (P : Int) = D := by rw [Int.tdiv_eq_ediv_of_nonneg (by omega)]; exact hD
  have HD : Hid ((1099511627776 - (O : Int)) / P = D) := hD
  clear hD
  go_enter Tryz.func5, Tryz.ntmps5
  go_upto_region 4 with (go_at_call 10; refine hc.mono ?_; rintro e w1 ⟨rfl, hk1⟩; have HK1 : Hid (Kept No w w1) := hk1; clear hk1 hc)
  obtain ⟨b, o, rfl, hb, c0, c1, c2, c3⟩ := ((HS.out.1.keep HK1.out).at' i _ HX.out.1).2
  have hcap := HS.out.1.cap
  have hmax := HS.out.1.max
  go_upto_region 5 with fail
  have k2 : Kept No w (w1.alloc (.cells #[.int .i64 (P : Int), .int .i64 (B : Int), .int .i64 (O : Int), .int .i64 q] 25)) := HK1.out.trans ((Kept.refl No w1).alloc _) (fun _ h => h.elim)
  have b2 := World.alloc_heap_new w1 (.cells #[.int .i64 (P : Int), .int .i64 (B : Int), .int .i64 (O : Int), .int .i64 q] 25)
  have HK2 : Hid (Kept No w (w1.alloc (.cells #[.int .i64 (P : Int), .int .i64 (B : Int), .int .i64 (O : Int), .int .i64 q] 25)) ∧ (w1.alloc (.cells #[.int .i64 (P : Int), .int .i64 (B : Int), .int .i64 (O : Int), .int .i64 q] 25)).heap[w1.heap.size]? = some (.cells #[.int .i64 (P : Int), .int .i64 (B : Int), .int .i64 (O : Int), .int .i64 q] 25)) := ⟨k2, b2⟩
  clear k2 b2 c0 c1 c2 c3
  generalize w1.alloc (.cells #[.int .i64 (P : Int), .int .i64 (B : Int), .int .i64 (O : Int), .int .i64 q] 25) = w2 at *
  obtain ⟨c0, c1, c2, c3⟩ := cells4' HK2.out.2
  generalize hz : w1.heap.size = z at *
  clear hz
  generalize decide ((i : Int) + 1 < 1) = B1 at *
  generalize decide ((xs.length : Int) < (i : Int) + 1) = B2 at *
  generalize decide ((K : Int) < 0) = B3 at *
  generalize decide (1099511627776 ≤ (K : Int)) = B4 at *
  generalize (B1 || B2 || B3 || B4) = B5 at *
  generalize (B1 || B2 || B3) = B6 at *
  generalize (B1 || B2) = B7 at *
  by_cases hlate : D - 1 < K
  · have hwk := HWK.out w2 HK2.out.1
    clear hok hB hcap hmax hn hi
    go_wp2_with (go_at_call 9; refine hwk.mono ?_; rintro e w3 ⟨rfl, hk3⟩; have HK3 : Hid (Kept No w w3) := HK2.out.1.trans hk3 (fun _ h => h.elim); clear hk3 hwk)
    go_ret
    exact ⟨rfl, HK3.out.below0⟩
  · go_upto_region 7 with fail
    have hend : O + K * P + P ≤ 1099511627776 := by
      have e1 := Int.mul_ediv_self_le (x := 1099511627776 - (O : Int)) (k := (P : Int)) (by omega)
      rw [HD.out, Int.mul_comm] at e1
      have e2 : ((K : Int) + 1) * P ≤ D * P := Int.mul_le_mul_of_nonneg_right (by omega) (by omega)
      rw [Int.add_mul, Int.one_mul] at e2
      have e3 : ((K * P : Nat) : Int) = (K : Int) * P := by push_cast; rfl
      omega
    clear hlate d1 d2 eD
    generalize decide (D - 1 < (K : Int)) = B8 at *
    obtain ⟨M, hM⟩ : ∃ M, K * P = M := ⟨_, rfl⟩
    have hKP : (K : Int) * P = (M : Int) := by rw [← hM]; push_cast; rfl
    rw [hM] at hend
    have eM2 : wrap64 ((K : Int) * (P : Int)) = (M : Int) := by rw [hKP]; unfold wrap64; omega
    have HM : Hid (K * P = M) := hM
    clear hM hKP
    have eA : wrap64 ((O : Int) + (M : Int)) = (O : Int) + M := by unfold wrap64; omega
    refine wp_region_lit ?_
    refine list_val rfl (er_sv2z _ rfl z rfl) ?_
    simp only [Act.put, List.setIfInBounds_toArray, List.set_cons_zero, List.set_cons_succ]
    refine list_val rfl (er_ld3 _ rfl z 2 (.int .i64 (O : Int)) rfl c2) ?_
    simp only [Act.put, List.setIfInBounds_toArray, List.set_cons_zero, List.set_cons_succ]
    refine list_val rfl (er_mv _ rfl (.int .i64 (K : Int)) rfl) ?_
    simp only [Act.put, List.setIfInBounds_toArray, List.set_cons_zero, List.set_cons_succ]
    refine list_val rfl (er_sv0 _ rfl z 0 rfl) ?_
    simp only [Act.put, List.setIfInBounds_toArray, List.set_cons_zero, List.set_cons_succ]
    refine list_val rfl (er_ld3 _ rfl z 0 (.int .i64 (P : Int)) rfl c0) ?_
    simp only [Act.put, List.setIfInBounds_toArray, List.set_cons_zero, List.set_cons_succ]
    refine list_val rfl (er_mul _ _ rfl (K : Int) (P : Int) (M : Int) rfl rfl eM2) ?_
    simp only [Act.put, List.setIfInBounds_toArray, List.set_cons_zero, List.set_cons_succ]
    refine list_val rfl (er_add _ _ rfl (O : Int) (M : Int) ((O : Int) + M) rfl rfl eA) ?_
    simp only [Act.put, List.setIfInBounds_toArray, List.set_cons_zero, List.set_cons_succ]
    refine list_val rfl (er_as _ rfl (.int .i64 ((O : Int) + M)) rfl) ?_
    simp only [Act.put, List.setIfInBounds_toArray, List.set_cons_zero, List.set_cons_succ]
    refine wpList_nil ?_
    clear c1 c2 c3 eM2 eA
    go_upto_region 8 with fail
    have csp := HSP.out w2 (O + M) (O + M + P) (by omega) (by omega) HK2.out.1
    push_cast at csp
    obtain ⟨N, hNe, hN0, hN1, hNt⟩ : ∃ N : Int, (Rule.cnt (Rule.occ (sys xs)) (i + 1) (O + M + P) : Int) - (Rule.cnt (Rule.occ (sys xs)) (i + 1) (O + M) : Int) = N ∧ 0 ≤ N ∧ N ≤ B ∧ ((∀ j, j < xs.length → (gs xs j).q ≤ q) → N = B) := by
      obtain ⟨g1, g2, g3, g4⟩ := HN.out
      have hok := HV.out.bd.ok
      have h1 := Rule.win_le hok (i := i) hi K P (by omega)
      have h2 := fun ht => Rule.win_top hok (i := i) hi ht K P (by omega)
      rw [g1, g2, g3, HM.out] at h1 h2
      have h3 := Rule.cnt_mono (Rule.occ (sys xs)) (i + 1) (show O + M ≤ O + M + P by omega)
      refine ⟨_, rfl, by omega, by omega, fun ht => ?_⟩
      have h4 := h2 (fun j hj => by rw [g4]; exact ht j hj)
      split at h4 <;> omega
    rw [hNe] at csp
    have HNT : Hid ((∀ j, j < xs.length → (gs xs j).q ≤ q) → N = B) := hNt
    clear hNe hNt
    go_upto_region 9 with (go_at_call 14; refine csp.mono ?_; rintro e w3 ⟨rfl, hk3⟩; have HK3 : Hid (Kept No w2 w3) := hk3; clear hk3 csp c0)
    obtain ⟨c0, c1, c2, c3⟩ := cells4' (HK3.out.at' HK2.out.2 (fun h => h))
    clear c0 c2 c3
    go_upto_region 11 with fail
    obtain ⟨y0, y1, y2, c3⟩ := cells4' (HK3.out.at' HK2.out.2 (fun h => h))
    clear y0 y1 y2
    have HC : Hid (w3.cell? ⟨z, 1, none⟩ = some (.int .i64 (B : Int)) ∧ w3.cell? ⟨z, 3, none⟩ = some (.int .i64 q) ∧ Kept No w w3 ∧ ∀ j, j < xs.length → w3.cell? ⟨b, o + j * 4 + 3, none⟩ = some (.int .i64 (gs xs j).q) ∧ I6 (gs xs j).q) := by
      have k3 : Kept No w w3 := HK2.out.1.trans HK3.out (fun _ h => h.elim)
      refine ⟨c1, c3, k3, fun j hj => ?_⟩
      have hx : xs[j]? = some xs[j] := List.getElem?_eq_getElem hj
      obtain ⟨r0, b', o', e', _, _, _, _, r1⟩ := (HS.out.1.keep k3).at' j _ hx
      have hgs : gs xs j = xs[j] := by unfold gs; rw [List.getD_eq_getElem?_getD, hx]; rfl
      rw [hgs]
      injection e' with e'
      injection e' with e1 e2
      subst e1; subst e2
      exact ⟨r1, r0.2.2.2⟩
    clear c1 c3 hB hP hO
    go_wp2
    go_loopw [13, 14] (fun v x wr => ∃ (k : Nat) (tb : Bool), k ≤ xs.length ∧ x = .int .i64 k ∧ v = .bool tb ∧ (tb = true → ∀ j, j < k → (gs xs j).q ≤ q) ∧ Kept No w3 wr) (fun _ x _ => xs.length - (intOf x).toNat)
    case atStart => exact ⟨0, true, Nat.zero_le _, rfl, rfl, fun _ j hj => by omega, Kept.refl No w3⟩
    case round =>
      obtain ⟨k, tb, hk, rfl, rfl, hall, hkr⟩ := hrel
      by_cases hlt : k < xs.length
      · obtain ⟨x3, x6⟩ := HC.out.2.2.2 k hlt
        have hck := hkr.cell x3 (fun h => h)
        have hcq := hkr.cell HC.out.2.1 (fun h => h)
        unfold I6 at x6
        have HR : Hid (Kept No w3 wr ∧ (tb = true → ∀ j, j < k → (gs xs j).q ≤ q)) := ⟨hkr, hall⟩
        clear hkr hall x3
        generalize hgq : (gs xs k).q = qk at *
        have HG : Hid ((gs xs k).q = qk) := hgq
        clear hgq
        cases tb
        · go_wp2
          refine wp_region_kept wr (by kernel_rfl) (by kernel_rfl) (Kept.refl No wr) ?_
          refine BigFrame.wpQuiet_want rfl (fun KK hKK => ?_)
          refine quiet_val' (fun w5 hw5 => er_mv _ rfl (.bool false) rfl) ?_
          refine hKK _ ?_
          clear hKK KK
          simp only [Act.put, List.setIfInBounds_toArray, List.set_cons_zero, List.set_cons_succ]
          refine BigFrame.wpQuiet_want rfl (fun KK hKK => ?_)
          refine quiet_val' (fun w5 hw5 => er_mv _ rfl (.bool false) rfl) ?_
          refine hKK _ ?_
          clear hKK KK
          simp only [Act.put, List.setIfInBounds_toArray, List.set_cons_zero, List.set_cons_succ]
          refine BigFrame.wpQuiet_skip rfl ?_
          simp only [Act.put, List.setIfInBounds_toArray, List.set_cons_zero, List.set_cons_succ]
          refine BigFrame.wpQuiet_skip rfl ?_
          simp only [Act.put, List.setIfInBounds_toArray, List.set_cons_zero, List.set_cons_succ]
          refine BigFrame.wpQuiet_skip rfl ?_
          simp only [Act.put, List.setIfInBounds_toArray, List.set_cons_zero, List.set_cons_succ]
          refine BigFrame.wpQuiet_skip rfl ?_
          simp only [Act.put, List.setIfInBounds_toArray, List.set_cons_zero, List.set_cons_succ]
          refine BigFrame.wpQuiet_skip rfl ?_
          simp only [Act.put, List.setIfInBounds_toArray, List.set_cons_zero, List.set_cons_succ]
          refine BigFrame.wpQuiet_skip rfl ?_
          simp only [Act.put, List.setIfInBounds_toArray, List.set_cons_zero, List.set_cons_succ]
          refine BigFrame.wpQuiet_skip rfl ?_
          simp only [Act.put, List.setIfInBounds_toArray, List.set_cons_zero, List.set_cons_succ]
          refine BigFrame.wpQuiet_skip rfl ?_
          simp only [Act.put, List.setIfInBounds_toArray, List.set_cons_zero, List.set_cons_succ]
          refine BigFrame.wpQuiet_want rfl (fun KK hKK => ?_)
          refine quiet_val' (fun w5 hw5 => er_pickF _ _ _ rfl (.bool false) rfl rfl) ?_
          refine hKK _ ?_
          clear hKK KK
          simp only [Act.put, List.setIfInBounds_toArray, List.set_cons_zero, List.set_cons_succ]
          refine BigFrame.wpQuiet_want rfl (fun KK hKK => ?_)
          refine quiet_val' (fun w5 hw5 => er_as _ rfl (.bool false) rfl) ?_
          refine hKK _ ?_
          clear hKK KK
          simp only [Act.put, List.setIfInBounds_toArray, List.set_cons_zero, List.set_cons_succ]
          refine wpQuiet_nil ?_
          intro w8 hw8
          have HK8 : Hid (Kept No w3 w8) := HR.out.1.trans hw8 (fun _ h => h.elim)
          clear hw8 hck hcq
          go_wp2
          go_roundw
          case rel => exact ⟨k + 1, false, by omega, by go_num, rfl, (fun h => by cases h), HK8.out⟩
          case measure => simp [intOf]; omega
        · go_wp2
          refine wp_region_kept wr (by kernel_rfl) (by kernel_rfl) (Kept.refl No wr) ?_
          refine BigFrame.wpQuiet_want rfl (fun KK hKK => ?_)
          refine quiet_val' (fun w5 hw5 => er_mv _ rfl (.bool true) rfl) ?_
          refine hKK _ ?_
          clear hKK KK
          simp only [Act.put, List.setIfInBounds_toArray, List.set_cons_zero, List.set_cons_succ]
          refine BigFrame.wpQuiet_want rfl (fun KK hKK => ?_)
          refine quiet_val' (fun w5 hw5 => er_mv _ rfl (.bool true) rfl) ?_
          refine hKK _ ?_
          clear hKK KK
          simp only [Act.put, List.setIfInBounds_toArray, List.set_cons_zero, List.set_cons_succ]
          refine BigFrame.wpQuiet_want rfl (fun KK hKK => ?_)
          refine quiet_val' (fun w5 hw5 => er_mv _ rfl (.slice (some ⟨b, o, none⟩) xs.length c) rfl) ?_
          refine hKK _ ?_
          clear hKK KK
          simp only [Act.put, List.setIfInBounds_toArray, List.set_cons_zero, List.set_cons_succ]
          refine BigFrame.wpQuiet_want rfl (fun KK hKK => ?_)
          refine quiet_val' (fun w5 hw5 => er_mv _ rfl (.int .i64 (k : Int)) rfl) ?_
          refine hKK _ ?_
          clear hKK KK
          simp only [Act.put, List.setIfInBounds_toArray, List.set_cons_zero, List.set_cons_succ]
          refine BigFrame.wpQuiet_want rfl (fun KK hKK => ?_)
          refine quiet_val' (fun w5 hw5 => er_idxS _ _ rfl b o xs.length c k hlt (by omega) rfl rfl) ?_
          refine hKK _ ?_
          clear hKK KK
          simp only [Act.put, List.setIfInBounds_toArray, List.set_cons_zero, List.set_cons_succ]
          refine BigFrame.wpQuiet_want rfl (fun KK hKK => ?_)
          refine quiet_val' (fun w5 hw5 => er_sv3 _ rfl b (o + k * 4) rfl) ?_
          refine hKK _ ?_
          clear hKK KK
          simp only [Act.put, List.setIfInBounds_toArray, List.set_cons_zero, List.set_cons_succ]
          refine BigFrame.wpQuiet_want rfl (fun KK hKK => ?_)
          refine quiet_val' (fun w5 hw5 => er_ld3 _ rfl b (o + k * 4 + 3) (.int .i64 qk) rfl (hw5.cell hck (fun h => h))) ?_
          refine hKK _ ?_
          clear hKK KK
          simp only [Act.put, List.setIfInBounds_toArray, List.set_cons_zero, List.set_cons_succ]
          refine BigFrame.wpQuiet_want rfl (fun KK hKK => ?_)
          refine quiet_val' (fun w5 hw5 => er_sv3z _ rfl z rfl) ?_
          refine hKK _ ?_
          clear hKK KK
          simp only [Act.put, List.setIfInBounds_toArray, List.set_cons_zero, List.set_cons_succ]
          refine BigFrame.wpQuiet_want rfl (fun KK hKK => ?_)
          refine quiet_val' (fun w5 hw5 => er_ld3 _ rfl z 3 (.int .i64 q) rfl (hw5.cell hcq (fun h => h))) ?_
          refine hKK _ ?_
          clear hKK KK
          simp only [Act.put, List.setIfInBounds_toArray, List.set_cons_zero, List.set_cons_succ]
          refine BigFrame.wpQuiet_want rfl (fun KK hKK => ?_)
          refine quiet_val' (fun w5 hw5 => er_leq _ _ rfl qk q rfl rfl) ?_
          refine hKK _ ?_
          clear hKK KK
          simp only [Act.put, List.setIfInBounds_toArray, List.set_cons_zero, List.set_cons_succ]
          refine BigFrame.wpQuiet_want rfl (fun KK hKK => ?_)
          refine quiet_val' (fun w5 hw5 => er_pickT _ _ _ rfl (.bool (decide (qk ≤ q))) rfl rfl) ?_
          refine hKK _ ?_
          clear hKK KK
          simp only [Act.put, List.setIfInBounds_toArray, List.set_cons_zero, List.set_cons_succ]
          refine BigFrame.wpQuiet_want rfl (fun KK hKK => ?_)
          refine quiet_val' (fun w5 hw5 => er_as _ rfl (.bool (decide (qk ≤ q))) rfl) ?_
          refine hKK _ ?_
          clear hKK KK
          simp only [Act.put, List.setIfInBounds_toArray, List.set_cons_zero, List.set_cons_succ]
          refine wpQuiet_nil ?_
          intro w8 hw8
          have HK8 : Hid (Kept No w3 w8) := HR.out.1.trans hw8 (fun _ h => h.elim)
          clear hw8 hck hcq
          go_wp2
          go_roundw
          case rel => exact ⟨k + 1, decide (qk ≤ q), by omega, by go_num, rfl, (fun h j hj => by
            by_cases e : j = k
            · subst e; rw [HG.out]; exact of_decide_eq_true h
            · exact HR.out.2 (by trivial) j (by omega)), HK8.out⟩
          case measure => simp [intOf]; omega
      · have hke : k = xs.length := by omega
        subst hke
        have c1 := hkr.cell HC.out.1 (fun h => h)
        have HKR : Hid (Kept No w wr) := HC.out.2.2.1.trans hkr (fun _ h => h.elim)
        have hor : tb = false ∨ N = B := by
          cases tb
          · exact .inl rfl
          · exact .inr (HNT.out (hall rfl))
        clear hkr hall hlt hk
        have hwk := HWK.out wr HKR.out
        have hB0 : (0 : Int) ≤ B := by omega
        cases tb
        · clear hor
          go_wp2_with (go_at_call 9; refine hwk.mono ?_; rintro e w9 ⟨rfl, hk9⟩; have HK9 : Hid (Kept No w w9) := HKR.out.trans hk9 (fun _ h => h.elim); clear hk9 hwk)
          go_ret
          exact ⟨rfl, HK9.out.below0⟩
        · rcases hor with hor | rfl
          · cases hor
          · go_wp2_with (go_at_call 9; refine hwk.mono ?_; rintro e w9 ⟨rfl, hk9⟩; have HK9 : Hid (Kept No w w9) := HKR.out.trans hk9 (fun _ h => h.elim); clear hk9 hwk)
            go_ret
            exact ⟨rfl, HK9.out.below0⟩

theorem budget_law {F : Nat → Prop} {a : Option Addr} {c : Nat} {xs : List Srv} (p k : Int) (w : World) (hg : Gl w) (h : Sv w F a xs.length c xs) (hF : ∀ k, F k → k < w.heap.size) :
    Calls Tryz.prog 5 #[.slice a xs.length c, .int .i64 p, .int .i64 k] w fun e w' => e = .returned (.bool true) ∧ Below w.heap.size w w' := by
  cases htm : timF xs xs.length with
  | some q => exact budget_none p k w hg h htm
  | none =>
    by_cases ho : 1 ≤ p ∧ p ≤ xs.length ∧ 0 ≤ k ∧ k < 1099511627776
    · obtain ⟨i, hi⟩ : ∃ i : Nat, p = (i : Int) + 1 := ⟨(p - 1).toNat, by omega⟩
      obtain ⟨K, rfl⟩ : ∃ K : Nat, k = (K : Int) := ⟨k.toNat, by omega⟩
      subst hi
      exact budget_in i K w hg h hF htm (by omega) (by omega)
    · exact budget_out p k w hg h htm ho
end Go.Proofs.YticnkekedhhbaaaGreatDoor
