/-
  'CpuKeeps'.
-/
import Derived.Test.YtijeaonldhccmaaDoorMac
import Derived.Test.YtijeaonldhccmaaDoorKeeps
import Derived.Deep.DeepCutAuto
import Derived.BigQuiet
import Derived.Deep.QuietTactic
import Derived.WalkSmall
namespace Go.Proofs.YtijeaonldhccmaaDoor
open Go.RowKit
set_option linter.unusedVariables false

theorem drewN_drewN2 (w : World) (a b : Nat) : (w.drewN a).drewN b = w.drewN (a + b) := by simp [World.drewN, Nat.add_assoc]

set_option maxHeartbeats 4000000 in
set_option maxRecDepth 100000 in
theorem keeps_fault (p m : Option Addr) (n cc mn mc : Nat) (fx : Int) (R : Nat → Int) (pc : Int) (pc' fa : Int) (w : World) (hO : Ops w) (hn : n ≤ 9223372036854775807) (h1 : 0 ≤ pc') (h2 : pc' ≤ n) (h3 : 0 < fa) (h4 : fa ≤ 5)
    (cS : ∀ w0, Below w.heap.size w w0 → Calls Tryd.prog 12 #[.slice p n cc, .slice m mn mc, .int .i64 fx, regV R, .int .i64 pc] w0 fun ex w1 => ex = .returned (effV R pc' false 0 0 fa 0) ∧ Below w0.heap.size w0 w1) :
    Calls Tryd.prog 4 #[macV (.slice p n cc) (.slice m mn mc) fx R pc] w fun ex w' => ex = .returned (.bool true) ∧ Below w.heap.size w w' := by
  have HOO : Hid (Ops w) := hO
  have H1 := heap_alloc_last w (.cells (macC (.slice p n cc) (.slice m mn mc) fx R pc) 36)
  have B1 := (Below.refl _ w).alloc (Nat.le_refl _) (.cells (macC (.slice p n cc) (.slice m mn mc) fx R pc) 36)
  clear hO
  go_enter Tryd.func4, Tryd.ntmps4
  go_upto_region 1 with (refine wl_box36 _ rfl rfl (.slice p n cc) (.slice m mn mc) fx R pc rfl ?_)
  generalize w.alloc (.cells (macC (.slice p n cc) (.slice m mn mc) fx R pc) 36) = w1 at H1 B1 ⊢
  have cK := known_yes w1 (HOO.out.below B1 HOO.out.pos)
  go_upto_region 3 with (go_at_call 11; refine cK.mono ?_; rintro ex w2 ⟨rfl, b2⟩)
  have B2 : Below w.heap.size w w2 := B1.trans (b2.mono B1.size)
  have H2 := (b2.block _ (heap_lt H1)).trans H1
  clear cK b2 H1 B1
  have cS := cS w2 B2
  obtain ⟨m0, m1, m2, m19⟩ := mac_cells H2
  have RM := range_mac H2
  go_upto_region 4 with (first
    | (refine wg_load25 _ rfl rfl w.heap.size 3 R rfl RM ?_)
    | (go_at_call 12; refine cS.mono ?_; rintro ex w3 ⟨rfl, b3⟩)
    | (refine wl_alloc27 rfl rfl ?_)
    | (refine wl_store27 _ _ rfl rfl R pc' false 0 0 fa 0 _ _ rfl rfl (heap_alloc_last _ _) rfl ?_; rw [new_store]))
  have B3 : Below w.heap.size w w3 := B2.trans (b3.mono B2.size)
  have H3 := (b3.block _ (heap_lt H2)).trans H2
  clear b3 cS H2 B2 m0 m1 m2 m19 RM
  have hq := heap_lt H3
  have HQ := heap_alloc_last w3 (.cells (effC R pc' false 0 0 fa 0) 27)
  have HM := (Below.heap_alloc w3 (.cells (effC R pc' false 0 0 fa 0) 27) _ (heap_lt H3)).trans H3
  have B4 := B3.alloc B3.size (.cells (effC R pc' false 0 0 fa 0) 27)
  generalize w3.alloc (.cells (effC R pc' false 0 0 fa 0) 27) = w4 at HQ HM B4 ⊢
  generalize w3.heap.size = q at HQ hq ⊢
  clear H3 B3
  obtain ⟨e16, e17, e18, e19, e20, e21, _⟩ := c21 HQ
  obtain ⟨m0, m1, m2, m19⟩ := mac_cells HM
  have RE := range_eff HQ
  have RM := range_mac HM
  have EQ := eqR_self R
  clear HQ HM
  have h5 : (fa != 0) = true := by simp; omega
  go_wp2_with (first
    | (refine wg_load25 _ rfl rfl q 0 R rfl RE ?_)
    | (refine wg_load25 _ rfl rfl w.heap.size 3 R rfl RM ?_)
    | (refine wg_eq25 _ _ _ rfl rfl R R rfl rfl ?_; rw [EQ]))
  go_ret
  exact ⟨rfl, B4⟩

set_option maxHeartbeats 4000000 in
set_option maxRecDepth 100000 in
theorem keeps_ok (p m : Option Addr) (n cc mn mc : Nat) (fx : Int) (R : Nat → Int)  (R' : Nat → Int) (pc' : Int) (st : Bool) (ad va ca : Int) (w : World) (hO : Ops w) (hn : n ≤ 9223372036854775807) (k o a b c : Nat) (N : Int) (hk : k < n) (hcode : Here w p k o a b c N) (hl : lg o a b c N = true) (ho : o < 256) (ha : a < 256) (hb : b < 256) (hc : c < 256) (h1 : 0 ≤ pc') (h2 : pc' ≤ n) (h3 : 0 ≤ ca) (h4 : ca ≤ 27) (hreg : Hid (∀ i, i ≠ tgt o a → R' i = R i)) (hmn : mn ≤ 9223372036854775807) (hno : Hid (st = false → ad = 0 ∧ va = 0 ∧ o ≠ 6)) (hyes : Hid (st = true → o = 6 ∧ wb mn fx ad 1 = true ∧ va = R a ∧ R' = R))
    (cS : ∀ w0, Below w.heap.size w w0 → Calls Tryd.prog 12 #[.slice p n cc, .slice m mn mc, .int .i64 fx, regV R, .int .i64 (k : Int)] w0 fun ex w1 => ex = .returned (effV R' pc' st ad va 0 ca) ∧ Below w0.heap.size w0 w1) :
    Calls Tryd.prog 4 #[macV (.slice p n cc) (.slice m mn mc) fx R k] w fun ex w' => ex = .returned (.bool true) ∧ Below w.heap.size w w' := by
  have HOO : Hid (Ops w) := hO
  have H1 := heap_alloc_last w (.cells (macC (.slice p n cc) (.slice m mn mc) fx R k) 36)
  have B1 := (Below.refl _ w).alloc (Nat.le_refl _) (.cells (macC (.slice p n cc) (.slice m mn mc) fx R k) 36)
  clear hO
  go_enter Tryd.func4, Tryd.ntmps4
  go_upto_region 1 with (refine wl_box36 _ rfl rfl (.slice p n cc) (.slice m mn mc) fx R k rfl ?_)
  generalize w.alloc (.cells (macC (.slice p n cc) (.slice m mn mc) fx R k) 36) = w1 at H1 B1 ⊢
  have cK := known_yes w1 (HOO.out.below B1 HOO.out.pos)
  go_upto_region 3 with (go_at_call 11; refine cK.mono ?_; rintro ex w2 ⟨rfl, b2⟩)
  have B2 : Below w.heap.size w w2 := B1.trans (b2.mono B1.size)
  have H2 := (b2.block _ (heap_lt H1)).trans H1
  clear cK b2 H1 B1
  have cS := cS w2 B2
  obtain ⟨m0, m1, m2, m19⟩ := mac_cells H2
  have RM := range_mac H2
  go_upto_region 4 with (first
    | (refine wg_load25 _ rfl rfl w.heap.size 3 R rfl RM ?_)
    | (go_at_call 12; refine cS.mono ?_; rintro ex w3 ⟨rfl, b3⟩)
    | (refine wl_alloc27 rfl rfl ?_)
    | (refine wl_store27 _ _ rfl rfl R' pc' st ad va 0 ca _ _ rfl rfl (heap_alloc_last _ _) rfl ?_; rw [new_store]))
  have B3 : Below w.heap.size w w3 := B2.trans (b3.mono B2.size)
  have H3 := (b3.block _ (heap_lt H2)).trans H2
  clear b3 cS H2 B2 m0 m1 m2 m19 RM
  have hq := heap_lt H3
  have HQ := heap_alloc_last w3 (.cells (effC R' pc' st ad va 0 ca) 27)
  have HM := (Below.heap_alloc w3 (.cells (effC R' pc' st ad va 0 ca) 27) _ (heap_lt H3)).trans H3
  have B4 := B3.alloc B3.size (.cells (effC R' pc' st ad va 0 ca) 27)
  generalize w3.alloc (.cells (effC R' pc' st ad va 0 ca) 27) = w4 at HQ HM B4 ⊢
  generalize w3.heap.size = q at HQ hq ⊢
  clear H3 B3
  obtain ⟨e16, e17, e18, e19, e20, e21, _⟩ := c21 HQ
  obtain ⟨m0, m1, m2, m19⟩ := mac_cells HM
  have RE := range_eff HQ
  have RM := range_mac HM
  obtain ⟨cb, co, rfl, k0, k1, k2, k3, k4⟩ := hcode
  have hcb := cell_lt k0
  have hO4 := HOO.out.below B4 HOO.out.pos
  have k0 := (B4.cell (p := ⟨cb, co + k * 5, none⟩) hcb).trans k0
  have k1 := (B4.cell (p := ⟨cb, co + k * 5 + 1, none⟩) hcb).trans k1
  have k2 := (B4.cell (p := ⟨cb, co + k * 5 + 2, none⟩) hcb).trans k2
  have k3 := (B4.cell (p := ⟨cb, co + k * 5 + 3, none⟩) hcb).trans k3
  have k4 := (B4.cell (p := ⟨cb, co + k * 5 + 4, none⟩) hcb).trans k4
  have c14 := legal_any o a b c N (by omega) (by omega) (by omega) (by omega) w4 hO4
  rw [hl] at c14
  unfold insV at c14
  have la := (lg_fields hl).2.2.1
  have HMH : Hid (w4.heap[w.heap.size]? = some (.cells (macC (.slice (some ⟨cb, co, none⟩) n cc) (.slice m mn mc) fx R k) 36)) := HM
  have HQH : Hid (w4.heap[q]? = some (.cells (effC R' pc' st ad va 0 ca) 27)) := HQ
  have B4H : Hid (Below w.heap.size w w4) := B4
  clear HQ HM hl B4
  go_upto_region 10 with (go_at_call 14; refine c14.mono ?_; rintro ex w5 ⟨rfl, b5⟩)
  have B5 : Hid (Below w.heap.size w w5) := B4H.out.trans (b5.mono B4H.out.size)
  have HQ5 := (b5.block _ (heap_lt HQH.out)).trans HQH.out
  have HM5 := (b5.block _ (heap_lt HMH.out)).trans HMH.out
  have k0 := (b5.cell (p := ⟨cb, co + k * 5, none⟩) (cell_lt k0)).trans k0
  have k1 := (b5.cell (p := ⟨cb, co + k * 5 + 1, none⟩) (cell_lt k1)).trans k1
  have k2 := (b5.cell (p := ⟨cb, co + k * 5 + 2, none⟩) (cell_lt k2)).trans k2
  have k3 := (b5.cell (p := ⟨cb, co + k * 5 + 3, none⟩) (cell_lt k3)).trans k3
  have k4 := (b5.cell (p := ⟨cb, co + k * 5 + 4, none⟩) (cell_lt k4)).trans k4
  clear e16 e17 e18 e19 e20 e21 m0 m1 m2 m19 RE RM c14 b5 HMH HQH B4H hO4
  obtain ⟨m0, m1, m2, m19⟩ := mac_cells HM5
  have hq5 := heap_lt HQ5
  have hlt5 := heap_lt HM5
  have X := heap_alloc_last w5 (.cells #[.int .u8 o, .int .u8 a, .int .u8 b, .int .u8 c, .int .i32 N] 30)
  have HQ6 := (Below.heap_alloc w5 (.cells #[.int .u8 o, .int .u8 a, .int .u8 b, .int .u8 c, .int .i32 N] 30) _ hq5).trans HQ5
  have HM6 := (Below.heap_alloc w5 (.cells #[.int .u8 o, .int .u8 a, .int .u8 b, .int .u8 c, .int .i32 N] 30) _ hlt5).trans HM5
  have B6 : Hid (Below w.heap.size w (w5.alloc (.cells #[.int .u8 o, .int .u8 a, .int .u8 b, .int .u8 c, .int .i32 N] 30))) := B5.out.alloc B5.out.size _
  go_upto_region 11 with fail
  generalize w5.alloc (.cells #[.int .u8 o, .int .u8 a, .int .u8 b, .int .u8 c, .int .i32 N] 30) = w6 at X HQ6 HM6 B6 ⊢
  clear k0 k1 k2 k3 k4 m0 m1 m2 m19 HQ5 HM5 B5
  generalize w5.heap.size = qx at X hq5 hlt5 ⊢
  obtain ⟨x0, x1, x2, x3, x4⟩ := cellsX X
  obtain ⟨e16, e17, e18, e19, e20, e21, _⟩ := c21 HQ6
  obtain ⟨m0, m1, m2, m19⟩ := mac_cells HM6
  have HMH : Hid (w6.heap[w.heap.size]? = some (.cells (macC (.slice (some ⟨cb, co, none⟩) n cc) (.slice m mn mc) fx R k) 36)) := HM6
  have HQH : Hid (w6.heap[q]? = some (.cells (effC R' pc' st ad va 0 ca) 27)) := HQ6
  clear HQ6 HM6 X
  have loop : ∀ T : Nat, T < 16 → (∀ i, i < 16 → i ≠ T → R' i = R i) → True := fun _ _ _ => trivial
  clear loop
  by_cases h26 : o = 26
  · have h26b : ((o : Int) == 26) = true := by simp; omega
    have HR : Hid (∀ i, i ≠ 14 → R' i = R i) := (fun i hi => hreg.out i (by unfold tgt; rw [if_pos h26]; exact hi))
    have h6 : ((o : Int) == 6) = false := by simp; omega
    have HY : Hid (o ≠ 6) := (show o ≠ 6 by omega)
    clear h26 hreg
    go_wp2
    go_loopw [6] (fun i wr => ∃ j : Nat, j ≤ 16 ∧ i = .int .i64 j ∧ ∃ qn, wr = w6.drewN qn) (fun i _ => 16 - (intOf i).toNat)
    case atStart => exact ⟨0, by omega, rfl, 0, rfl⟩
    case round =>
      obtain ⟨j, hj, rfl, qn, rfl⟩ := hrel
      by_cases hlt : j < 16
      · have r1 := cR HQH.out hlt
        have r2' := mac_reg HMH.out hlt
        by_cases hjt : j = 14
        · have hne : ((j : Int) != (14 : Int)) = false := by simp; omega
          clear hjt
          go_wp2
          go_quiet (fail)
          go_wp2
          go_roundw
          case rel => exact ⟨j + 1, by omega, by go_num, _, rfl⟩
          case measure => simp [intOf]; omega
        · have hne : ((j : Int) != (14 : Int)) = true := by simp; omega
          have he := HR.out j hjt
          rw [he] at r1
          clear hjt he
          go_wp2
          go_quiet (fail)
          go_wp2
          go_roundw
          case rel => exact ⟨j + 1, by omega, by go_num, _, rfl⟩
          case measure => simp [intOf]; omega
      · have hj16 : j = 16 := by omega
        subst hj16
        cases st with
        | false =>
          obtain ⟨rfl, rfl, h6'⟩ := hno.out rfl
          have h6 : ((o : Int) != 6) = true := by simp; omega
          go_wp2
          go_ret
          exact ⟨rfl, below_drewN B6.out _⟩
        | true =>
          obtain ⟨h6', hw, rfl, he⟩ := hyes.out rfl
          have h6 : ((o : Int) == 6) = true := by simp; omega
          have hw1 := hw
          unfold wb at hw1
          rw [Bool.and_eq_true, wi_iff] at hw1
          obtain ⟨hw2, hw3⟩ := hw1
          have g1 : decide (ad ≥ 0) = true := by simp; omega
          have g2 : decide (ad < (mn : Int)) = true := by simp; omega
          have g3 : decide (ad ≥ fx) = true := by simp at hw3; simp; omega
          have g4 : 0 ≤ ad := by omega
          have g5 : ad < (mn : Int) := by omega
          have g6 : fx ≤ ad := by simp at hw3; omega
          have ra := mac_reg HMH.out la
          subst he
          have EQ := eqR_self R'
          clear hw hw2 hw3 hno hyes
          go_upto_region 21 with fail
          refine wp_region_quiet_lit (by kernel_rfl) (by kernel_rfl) ?_
          repeat (first
            | (refine BigFrame.wpQuiet_want rfl (fun K hK => ?_); first
                | (refine quiet_load25 _ rfl q 0 R' rfl (fun w0 hw0 => by obtain ⟨n0, rfl⟩ := hw0; exact range_drewN (range_drewN (range_eff HQH.out))) ?_; refine hK _ ?_; clear hK K)
                | (refine quiet_load25 _ rfl w.heap.size 3 R' rfl (fun w0 hw0 => by obtain ⟨n0, rfl⟩ := hw0; exact range_drewN (range_drewN (range_mac HMH.out))) ?_; refine hK _ ?_; clear hK K)
                | (refine quiet_eq25 _ _ _ rfl R' R' rfl rfl ?_; rw [EQ]; refine hK _ ?_; clear hK K))
            | go_big_quiet_step (fail) | quiet_step (fail))
          refine wpQuiet_nil ?_
          intro _ hw'
          obtain ⟨nq, hw''⟩ := hw'
          subst hw''
          go_wp2
          go_ret
          exact ⟨rfl, below_drewN B6.out _⟩
  · have h26b : ((o : Int) == 26) = false := by simp; omega
    have HR : Hid (∀ i, i ≠ a → R' i = R i) := (fun i hi => hreg.out i (by unfold tgt; rw [if_neg h26]; exact hi))
    clear h26 hreg
    go_wp2
    go_loopw [6] (fun i wr => ∃ j : Nat, j ≤ 16 ∧ i = .int .i64 j ∧ ∃ qn, wr = w6.drewN qn) (fun i _ => 16 - (intOf i).toNat)
    case atStart => exact ⟨0, by omega, rfl, 0, rfl⟩
    case round =>
      obtain ⟨j, hj, rfl, qn, rfl⟩ := hrel
      by_cases hlt : j < 16
      · have r1 := cR HQH.out hlt
        have r2' := mac_reg HMH.out hlt
        by_cases hjt : j = a
        · have hne : ((j : Int) != (a : Int)) = false := by simp; omega
          clear hjt
          go_wp2
          go_quiet (fail)
          go_wp2
          go_roundw
          case rel => exact ⟨j + 1, by omega, by go_num, _, rfl⟩
          case measure => simp [intOf]; omega
        · have hne : ((j : Int) != (a : Int)) = true := by simp; omega
          have he := HR.out j hjt
          rw [he] at r1
          clear hjt he
          go_wp2
          go_quiet (fail)
          go_wp2
          go_roundw
          case rel => exact ⟨j + 1, by omega, by go_num, _, rfl⟩
          case measure => simp [intOf]; omega
      · have hj16 : j = 16 := by omega
        subst hj16
        cases st with
        | false =>
          obtain ⟨rfl, rfl, h6'⟩ := hno.out rfl
          have h6 : ((o : Int) != 6) = true := by simp; omega
          go_wp2
          go_ret
          exact ⟨rfl, below_drewN B6.out _⟩
        | true =>
          obtain ⟨h6', hw, rfl, he⟩ := hyes.out rfl
          have h6 : ((o : Int) == 6) = true := by simp; omega
          have hw1 := hw
          unfold wb at hw1
          rw [Bool.and_eq_true, wi_iff] at hw1
          obtain ⟨hw2, hw3⟩ := hw1
          have g1 : decide (ad ≥ 0) = true := by simp; omega
          have g2 : decide (ad < (mn : Int)) = true := by simp; omega
          have g3 : decide (ad ≥ fx) = true := by simp at hw3; simp; omega
          have g4 : 0 ≤ ad := by omega
          have g5 : ad < (mn : Int) := by omega
          have g6 : fx ≤ ad := by simp at hw3; omega
          have ra := mac_reg HMH.out la
          subst he
          have EQ := eqR_self R'
          clear hw hw2 hw3 hno hyes
          go_upto_region 21 with fail
          refine wp_region_quiet_lit (by kernel_rfl) (by kernel_rfl) ?_
          repeat (first
            | (refine BigFrame.wpQuiet_want rfl (fun K hK => ?_); first
                | (refine quiet_load25 _ rfl q 0 R' rfl (fun w0 hw0 => by obtain ⟨n0, rfl⟩ := hw0; exact range_drewN (range_drewN (range_eff HQH.out))) ?_; refine hK _ ?_; clear hK K)
                | (refine quiet_load25 _ rfl w.heap.size 3 R' rfl (fun w0 hw0 => by obtain ⟨n0, rfl⟩ := hw0; exact range_drewN (range_drewN (range_mac HMH.out))) ?_; refine hK _ ?_; clear hK K)
                | (refine quiet_eq25 _ _ _ rfl R' R' rfl rfl ?_; rw [EQ]; refine hK _ ?_; clear hK K))
            | go_big_quiet_step (fail) | quiet_step (fail))
          refine wpQuiet_nil ?_
          intro _ hw'
          obtain ⟨nq, hw''⟩ := hw'
          subst hw''
          go_wp2
          go_ret
          exact ⟨rfl, below_drewN B6.out _⟩

theorem keeps_walk (F G : Nat → Prop) (p m : Option Addr) (n cc mn mc : Nat) (fx : Int) (R : Nat → Int) (pc : Int) (xs : List Ins) (ms : List Int) (w : World) (hc : Cs w F p n cc xs) (hz : Zs w G m mn mc ms) (hO : Ops w) :
    Calls Tryd.prog 4 #[macV (.slice p n cc) (.slice m mn mc) fx R pc] w fun ex w' => ex = .returned (.bool true) ∧ Below w.heap.size w w' := by
  have hn : n ≤ 9223372036854775807 := Nat.le_trans hc.cap hc.max
  have hmn : mn ≤ 9223372036854775807 := Nat.le_trans hz.cap hz.max
  obtain ⟨hk, h0⟩ := stepE_kp xs ms fx R pc
  rw [hc.len] at hk h0
  have cS : ∀ w0, Below w.heap.size w w0 → Calls Tryd.prog 12 #[.slice p n cc, .slice m mn mc, .int .i64 fx, regV R, .int .i64 pc] w0 fun ex w1 => ex = .returned (stepE xs ms fx R pc).v ∧ Below w0.heap.size w0 w1 :=
    fun w0 b0 => step_any F G R p m n cc mn mc fx pc xs ms w0 (hc.kept (Kept.of_below (F := No) b0) (fun _ _ h => h)) (hz.kept (Kept.of_below (F := No) b0) (fun _ _ h => h)) (hO.below b0 hO.pos)
  generalize stepE xs ms fx R pc = E at hk h0 cS
  obtain ⟨R', pc', st, ad, va, fa, ca⟩ := E
  by_cases hfa : fa = 0
  · subst hfa
    obtain ⟨g0, g1, gl⟩ := h0 rfl
    obtain ⟨k, rfl⟩ : ∃ k : Nat, pc = k := ⟨pc.toNat, by omega⟩
    have hkn : k < n := by omega
    rw [Int.toNat_natCast] at hk gl
    obtain ⟨b, o, e, _, h⟩ := hc.at' k hkn
    have hok := hc.ok (xs.getD k ins0) (by rw [List.getD_eq_getElem?_getD, List.getElem?_eq_getElem (by rw [hc.len]; exact hkn)]; exact List.getElem_mem _)
    obtain ⟨x, hx⟩ : ∃ x, xs.getD k ins0 = x := ⟨_, rfl⟩
    rw [hx] at h hok hk gl
    obtain ⟨q0, q1, q2, q3, q4⟩ := hok
    exact keeps_ok p m n cc mn mc fx R R' pc' st ad va ca w hO hn k x.o x.a x.b x.c x.n hkn ⟨b, o, e, h⟩ gl q0 q1 q2 q3 hk.p0 hk.p1 hk.c0 hk.c7 hk.reg hmn (fun h => hk.no h rfl) (fun h => by have := hk.yes h; rw [hz.len] at this; exact this) cS
  · obtain ⟨e1, e2, e3, e4, e5⟩ := hk.flt hfa
    dsimp only at e1 e2 e3 e4 e5
    subst e1 e2 e3 e4 e5
    exact keeps_fault p m n cc mn mc fx R' pc pc' fa w hO hn hk.p0 hk.p1 (by have := hk.f0; dsimp only at this; omega) hk.f5 cS

end Go.Proofs.YtijeaonldhccmaaDoor
