/-
  ChannelEnds: the law.
-/
import Derived.Test.YtfjaajjljmbmbaaGreatDoorEChk
import Derived.Test.YtfjaajjljmbmbaaGreatDoorCKnown
namespace Go.Proofs.YtfjaajjljmbmbaaGreatDoor
open Go.RowKit Plain
set_option linter.unusedVariables false
set_option linter.unusedSimpArgs false
set_option maxRecDepth 100000

theorem ec_toP {w : World} {a : Act} {o : Oper} (x y : Operand) (t t' : TypeId) (ho : o.op = .call { callee := .value (.func 13), args := #[x, y], argTypes := #[t, t'] }) (v u : Value) (hx : a.eval x = v) (hy : a.eval y = u) : (execOp a.eval o).run Tryz.prog w = .ok (.enter 13 #[v, u]) w := by
  subst hx hy; simp [execOp, ho, go_sem, Act.eval]
attribute [local irreducible] wpQuiet
set_option maxHeartbeats 16000000 in
theorem chends_law {F : Nat → Prop} {a0 a1 a2 : Option Addr} {n0 c0 n1 c1 n c : Nat} {x : Im} (w : World) (hg : Ck.Gl w) (h : Img w F a0 n0 c0 a1 n1 c1 a2 n c x) (bL : x.chans.length ≤ 17592186043904) (bd : ∀ y ∈ x.chans, y.dst.length ≤ 17592186043904) (p : Int) (hp : I6 p) :
    Calls Tryz.prog 3 #[.agg #[.slice a0 n0 c0, .slice a1 n1 c1, .slice a2 n c], .int .i64 p] w fun e w' => e = .returned (.bool true) ∧ Kept No w w' := by
  have hl := h.cs.len
  have hm := h.cs.max
  have hcap := h.cs.cap
  have K0 : Kept No w (w.alloc (.cells #[.slice a0 n0 c0, .slice a1 n1 c1, .slice a2 n c] 26)) := (Kept.refl No w).alloc _
  have HM : Hid (∀ W, Kept No (w.alloc (.cells #[.slice a0 n0 c0, .slice a1 n1 c1, .slice a2 n c] 26)) W → W.cell? ⟨w.heap.size, 0, none⟩ = some (.slice a0 n0 c0) ∧ W.cell? ⟨w.heap.size, 1, none⟩ = some (.slice a1 n1 c1) ∧ W.cell? ⟨w.heap.size, 2, none⟩ = some (.slice a2 n c) ∧ Kept No w W) := fun W q => ⟨q.cell (by simp) (fun h => h), q.cell (by simp) (fun h => h), q.cell (by simp) (fun h => h), K0.trans q (fun _ h => h.elim)⟩
  have HR : Hid (∀ W, Kept No w W → Rd W F a1 n1 c1 a2 n c x.ports x.chans) := fun W q => (Rd.mk h.qs h.cs bL bd).on q
  have HI : Hid (∀ W, Kept No w W → Calls Tryz.prog 11 #[.agg #[.slice a0 n0 c0, .slice a1 n1 c1, .slice a2 n c]] W fun e w' => e = .returned (.tuple #[.int .i64 (Ck.fe (Ck.chkF x)), .int .i64 (Ck.fn (Ck.chkF x))]) ∧ Kept No W w') := fun W q => Ck.check_any W (hg.kept q) (h.kept q (fun _ _ h => h))
  have HCS : Hid (Ls 5 elCh w F a2 n c x.chans) := h.cs
  clear h hg K0
  go_enter Tryz.func3, Tryz.ntmps3
  go_upto_region 1 with fail
  generalize hw0 : w.alloc (.cells #[.slice a0 n0 c0, .slice a1 n1 c1, .slice a2 n c] 26) = w0 at *
  clear hw0
  go_upto_region 3 with (go_at_call 4; refine (known_yes _).mono ?_; rintro e w1 ⟨rfl, k1⟩; have HK1 : Hid (Kept No w0 w1) := k1; clear k1)
  obtain ⟨m0, m1, m2, m3⟩ := HM.out w1 HK1.out
  have cO := outlet_zs (a0 := a0) (n0 := n0) (c0 := c0) p (HR.out w1 m3)
  go_upto_region 4 with (go_at_call 5; refine cO.mono ?_; rintro e w2 ⟨oa, on, oc, rfl, hz, k2⟩; have HZ1 : Hid (Zs w2 (fun _ => True) oa on oc (numsL (fun c => ownB x.ports p c.fr) x.chans) ∧ Kept No w0 w2) := ⟨hz, HK1.out.trans k2 (fun _ h => h.elim)⟩; clear hz k2 cO m0 m1 m2 m3 HK1)
  obtain ⟨m0, m1, m2, m3⟩ := HM.out w2 HZ1.out.2
  have cI := inlet_zs (a0 := a0) (n0 := n0) (c0 := c0) p (HR.out w2 m3)
  go_upto_region 5 with (go_at_call 6; refine cI.mono ?_; rintro e w3 ⟨ia, in', ic, rfl, hz, k3⟩; have HZ2 : Hid (Zs w3 (fun _ => True) ia in' ic (numsL (fun c => c.dst.any (ownB x.ports p)) x.chans) ∧ Zs w3 (fun _ => True) oa on oc (numsL (fun c => ownB x.ports p c.fr) x.chans) ∧ Kept No w0 w3) := ⟨hz, HZ1.out.1.on k3, HZ1.out.2.trans k3 (fun _ h => h.elim)⟩; clear hz k3 cI m0 m1 m2 m3 HZ1)
  have cR1 := rising_any w3 HZ2.out.2.1 (numsL_rises _ _)
  have HL : Hid (p < 1 → on = 0 ∧ in' = 0) := fun hp1 => by
    have e1 := HZ2.out.2.1.len
    have e2 := HZ2.out.1.len
    rw [numsL_len, nums_below (fun y => own_no hp1 _)] at e1
    rw [numsL_len, nums_below (fun y => by rw [List.any_eq_false]; intro t _; rw [own_no hp1 t]; simp)] at e2
    exact ⟨e1.symm, e2.symm⟩
  go_cut [43] (fun t wx => t = .bool false ∧ Kept No w3 wx)
  case first =>
    by_cases hp1 : p < 1
    · obtain ⟨rfl, rfl⟩ := HL.out hp1
      go_wp2_with (first
        | (go_at_call 7; refine cR1.mono ?_; rintro e w4 ⟨rfl, k4⟩; have HK4 : Hid (Kept No w3 w4) := k4; have cR2 := rising_any w4 (HZ2.out.1.on k4) (numsL_rises _ _); clear k4 cR1)
        | (go_at_call 7; refine cR2.mono ?_; rintro e w5 ⟨rfl, k5⟩; have HK5 : Hid (Kept No w3 w5) := HK4.out.trans k5 (fun _ h => h.elim); clear k5 cR2))
      go_meet
      exact ⟨rfl, HK5.out⟩
    · go_wp2_with (first
        | (go_at_call 7; refine cR1.mono ?_; rintro e w4 ⟨rfl, k4⟩; have HK4 : Hid (Kept No w3 w4) := k4; have cR2 := rising_any w4 (HZ2.out.1.on k4) (numsL_rises _ _); clear k4 cR1)
        | (go_at_call 7; refine cR2.mono ?_; rintro e w5 ⟨rfl, k5⟩; have HK5 : Hid (Kept No w3 w5) := HK4.out.trans k5 (fun _ h => h.elim); clear k5 cR2))
      go_meet
      exact ⟨rfl, HK5.out⟩
  case rest =>
  rename World => w6
  obtain ⟨rfl, k6⟩ := hcut
  have H6 : Hid (Zs w6 (fun _ => True) ia in' ic (numsL (fun c => c.dst.any (ownB x.ports p)) x.chans) ∧ Zs w6 (fun _ => True) oa on oc (numsL (fun c => ownB x.ports p c.fr) x.chans) ∧ Kept No w0 w6) := ⟨HZ2.out.1.on k6, HZ2.out.2.1.on k6, HZ2.out.2.2.trans k6 (fun _ h => h.elim)⟩
  clear k6 HZ2 cR1 HL
  obtain ⟨m0, m1, m2, m3⟩ := HM.out w6 H6.out.2.2
  go_wp2
  go_loopw [7] (fun i wr => ∃ k : Nat, k ≤ n ∧ i = .int .i64 ((k : Int) + 1) ∧ Kept No w6 wr) (fun i _ => n + 1 - (intOf i).toNat)
  case atStart => exact ⟨0, by omega, rfl, Kept.refl _ _⟩
  case round =>
    obtain ⟨k, hk, rfl, K⟩ := hrel
    have HKR : Hid (Kept No w6 wr) := K
    clear m0 m1 m2 m3 K
    obtain ⟨m0, m1, m2, m3⟩ := HM.out wr (H6.out.2.2.trans HKR.out (fun _ h => h.elim))
    by_cases hlt : k < n
    · have hkz : (k : Int) + 1 ≤ (n : Int) := by omega
      have hkl : k < x.chans.length := by omega
      have hx : x.chans[k]? = some x.chans[k] := List.getElem?_eq_getElem hkl
      obtain ⟨y, hy⟩ : ∃ y, x.chans[k] = y := ⟨_, rfl⟩
      rw [hy] at hx
      have HX : Hid (x.chans[k]? = some y) := hx
      have cE := ends_any (a0 := a0) (n0 := n0) (c0 := c0) wr (HR.out wr m3) hx
      clear hx hy
      go_upto_region 12 with (go_at_call 8; refine cE.mono ?_; rintro e w7 ⟨rfl, k7⟩; have HK7 : Hid (Kept No w6 w7) := HKR.out.trans k7 (fun _ h => h.elim); clear k7 cE)
      clear m0 m1 m2 m3
      obtain ⟨m0, m1, m2, m3⟩ := HM.out w7 (H6.out.2.2.trans HK7.out (fun _ h => h.elim))
      have cP := parts_zs (a0 := a0) (n0 := n0) (c0 := c0) (k := k) w7 (HR.out w7 m3) HX.out
      go_upto_region 13 with (go_at_call 9; refine cP.mono ?_; rintro e w8 ⟨ta, tn, tc, rfl, hz, k8⟩; have HK8 : Hid (Kept No w6 w8 ∧ Zs w8 (fun _ => True) ta tn tc (partsL x.ports y.dst)) := ⟨HK7.out.trans k8 (fun _ h => h.elim), hz⟩; clear k8 hz cP)
      clear m0 m1 m2 m3
      by_cases hp1 : p ≥ 1
      · have cI1 := in_any ((k : Int) + 1) w8 (H6.out.2.1.on HK8.out.1)
        rw [numsL_mem HX.out, own_any hp1] at cI1
        obtain ⟨B1, hB1⟩ : ∃ B1, (partV x.ports y.fr == p) = B1 := ⟨_, rfl⟩
        rw [hB1] at cI1
        obtain ⟨B2, hB2⟩ : ∃ B2, y.dst.any (ownB x.ports p) = B2 := ⟨_, rfl⟩
        have HB2 : Hid (y.dst.any (ownB x.ports p) = B2) := hB2
        clear hB2
        obtain ⟨PV, hPV⟩ : ∃ PV, partV x.ports y.fr = PV := ⟨_, rfl⟩
        rw [hPV] at hB1 ⊢
        clear hPV
        have hnb : (B1 != B1) = false := by cases B1 <;> rfl
        have hnb2 : (B2 != B2) = false := by cases B2 <;> rfl
        go_wp2_with (first
          | (go_at_call 10; refine cI1.mono ?_; rintro e w9 ⟨rfl, k9⟩; have HK9 : Hid (Kept No w6 w9 ∧ Zs w9 (fun _ => True) ta tn tc (partsL x.ports y.dst)) := ⟨HK8.out.1.trans k9 (fun _ h => h.elim), HK8.out.2.on k9⟩; have cI2 := in_any ((k : Int) + 1) w9 (H6.out.1.on HK9.out.1); rw [numsL_mem HX.out, HB2.out] at cI2; clear k9 cI1)
          | (go_at_call 10; refine cI2.mono ?_; rintro e w10 ⟨rfl, k10⟩; have HK10 : Hid (Kept No w6 w10) := HK9.out.1.trans k10 (fun _ h => h.elim); have cI3 := in_any p w10 (HK9.out.2.on k10); rw [any_to hp1, HB2.out] at cI3; clear k10 cI2)
          | (go_at_call 10; refine cI3.mono ?_; rintro e w11 ⟨rfl, k11⟩; have HK11 : Hid (Kept No w6 w11) := HK10.out.trans k11 (fun _ h => h.elim); clear k11 cI3))
        go_roundw
        case rel => exact ⟨k + 1, by omega, by go_num, HK11.out⟩
        case measure => simp [intOf]; omega
      · go_wp2
        go_roundw
        case rel => exact ⟨k + 1, by omega, by go_num, HK8.out.1⟩
        case measure => simp [intOf]; omega
    · have hkn : k = n := by omega
      have hkz : ¬ (k : Int) + 1 ≤ (n : Int) := by omega
      have cC := HI.out wr m3
      have HKZ : Hid (Kept No w0 wr) := H6.out.2.2.trans HKR.out (fun _ h => h.elim)
      clear HKR H6
      obtain ⟨EV, hEV⟩ : ∃ EV, Ck.fe (Ck.chkF x) = EV := ⟨_, rfl⟩
      obtain ⟨EN, hEN⟩ : ∃ EN, Ck.fn (Ck.chkF x) = EN := ⟨_, rfl⟩
      rw [hEV, hEN] at cC
      have HEV : Hid (Ck.fe (Ck.chkF x) = EV) := hEV
      clear hEV hEN
      clear m0 m1 m2
      obtain ⟨m0, m1, m2, m3⟩ := HM.out wr HKZ.out
      go_upto_region 16 with (go_at_call 11; refine cC.mono ?_; rintro e w9 ⟨rfl, k9⟩; have HK9 : Hid (Kept No w0 w9) := HKZ.out.trans k9 (fun _ h => h.elim); clear k9 cC HKZ m0 m1 m2 m3)
      by_cases hev : EV = 0
      · have hcn : Ck.chkF x = none := chk_none (HEV.out.trans hev)
        subst hev
        have HFr : Hid (∀ (k : Nat) (y : Ch), x.chans[k]? = some y → 0 < y.fr → leastN (fun o => numB y.fr o.fr) x.chans = (k : Int) + 1) := fun k y hy h0 => from_one hcn hy h0
        have HTo : Hid (∀ (k : Nat) (y : Ch), x.chans[k]? = some y → ∀ z, z ∈ y.dst → leastN (fun o => o.dst.any (numB z)) x.chans = (k : Int) + 1) := fun k y hy z hz => to_one hcn hy hz
        clear hcn HEV
        obtain ⟨m0, m1, m2, m3⟩ := HM.out w9 HK9.out
        go_wp2
        go_loopw [13] (fun i wr => ∃ k : Nat, k ≤ n ∧ i = .int .i64 ((k : Int) + 1) ∧ Kept No w9 wr) (fun i _ => n + 1 - (intOf i).toNat)
        case atStart => exact ⟨0, by omega, rfl, Kept.refl _ _⟩
        case round =>
        obtain ⟨k, hk, rfl, K⟩ := hrel
        have HKR : Hid (Kept No w9 wr) := K
        clear m0 m1 m2 m3 K
        obtain ⟨m0, m1, m2, m3⟩ := HM.out wr (HK9.out.trans HKR.out (fun _ h => h.elim))
        by_cases hlt : k < n
        · have hkz : (k : Int) + 1 ≤ (n : Int) := by omega
          have hkz2 : (k : Int) < (n : Int) := by omega
          have hkl : k < x.chans.length := by omega
          have hx : x.chans[k]? = some x.chans[k] := List.getElem?_eq_getElem hkl
          obtain ⟨y, hy⟩ : ∃ y, x.chans[k] = y := ⟨_, rfl⟩
          rw [hy] at hx
          obtain ⟨b, o, cs, rfl, hF, hcl, hr, ⟨ta, tn, tc, rfl, hT⟩, hok⟩ := HCS.out.at' k y hx
          have d0 := m3.cell (hr 0 _ rfl) (fun h => h)
          have d1 := m3.cell (hr 1 _ rfl) (fun h => h)
          have d2 := m3.cell (hr 2 _ rfl) (fun h => h)
          have d3 := m3.cell (hr 3 _ rfl) (fun h => h)
          have d4 := m3.cell (hr 4 _ rfl) (fun h => h)
          rw [Nat.add_zero] at d0
          have htl := hT.len
          have htm := hT.max
          have htc := hT.cap
          have HX : Hid (x.chans[k]? = some y) := hx
          have HT : Hid (Ls 1 elI w F ta tn tc y.dst) := hT
          have KB : Kept No wr (wr.alloc (.cells #[.int .i64 y.kd, .int .i64 y.fr, .slice ta tn tc, .int .i64 y.ph, .int .i64 y.pe] 39)) := (Kept.refl No wr).alloc _
          have HMB : Hid (∀ W, Kept No (wr.alloc (.cells #[.int .i64 y.kd, .int .i64 y.fr, .slice ta tn tc, .int .i64 y.ph, .int .i64 y.pe] 39)) W → W.cell? ⟨wr.heap.size, 1, none⟩ = some (.int .i64 y.fr) ∧ W.cell? ⟨wr.heap.size, 2, none⟩ = some (.slice ta tn tc) ∧ Kept No wr W) := fun W q => ⟨q.cell (by simp) (fun h => h), q.cell (by simp) (fun h => h), KB.trans q (fun _ h => h.elim)⟩
          clear hr hT hok hF hcl hx hy KB
          go_upto_region 22 with fail
          generalize hwB : wr.alloc (.cells #[.int .i64 y.kd, .int .i64 y.fr, .slice ta tn tc, .int .i64 y.ph, .int .i64 y.pe] 39) = wB at *
          clear hwB d0 d1 d2 d3 d4 m0 m1 m2 m3
          obtain ⟨gB, hgB⟩ : ∃ g, wr.heap.size = g := ⟨_, rfl⟩
          rw [hgB] at HMB ⊢
          clear hgB
          obtain ⟨q1, q2, q3⟩ := HMB.out wB (Kept.refl No wB)
          have HKB : Hid (Kept No w9 wB) := HKR.out.trans q3 (fun _ h => h.elim)
          obtain ⟨m0, m1, m2, m3⟩ := HM.out wB (HK9.out.trans HKB.out (fun _ h => h.elim))
          obtain ⟨FR, hFR⟩ : ∃ FR, y.fr = FR := ⟨_, rfl⟩
          have HFR : Hid (y.fr = FR) := hFR
          rw [hFR] at q1
          clear hFR q3
          go_cut [112] (fun t wx => t = .bool false ∧ Kept No wB wx)
          case first =>
            by_cases hf0 : FR > 0
            · have cF := fromPort_any (a0 := a0) (n0 := n0) (c0 := c0) (a1 := a1) (n1 := n1) (c1 := c1) FR (HR.out wB m3).cs
              have hq := HFr.out k y HX.out (by rw [HFR.out]; exact hf0)
              rw [HFR.out] at hq
              rw [hq] at cF
              clear hq
              go_wp2_with (go_at_call 12; refine cF.mono ?_; rintro e w10 ⟨rfl, k10⟩)
              go_meet
              exact ⟨rfl, k10⟩
            · go_wp2
              go_meet
              exact ⟨rfl, Kept.refl _ _⟩
          case rest =>
          rename World => w11
          obtain ⟨rfl, k11⟩ := hcut
          have HK11 : Hid (Kept No wB w11 ∧ Kept No w9 w11) := ⟨k11, HKB.out.trans k11 (fun _ h => h.elim)⟩
          clear k11 m0 m1 m2 m3 q1 q2
          obtain ⟨q1, q2, q3⟩ := HMB.out w11 HK11.out.1
          go_wp2
          go_loopw [15] (fun i wr => ∃ j : Nat, j ≤ tn ∧ i = .int .i64 (j : Int) ∧ Kept No w11 wr) (fun i _ => tn - (intOf i).toNat)
          case atStart => exact ⟨0, by omega, rfl, Kept.refl _ _⟩
          case round =>
          obtain ⟨j, hj, rfl, K⟩ := hrel
          generalize wr = wq at *
          have HKJ : Hid (Kept No w11 wq ∧ Kept No wB wq ∧ Kept No w9 wq) := ⟨K, HK11.out.1.trans K (fun _ h => h.elim), HK11.out.2.trans K (fun _ h => h.elim)⟩
          clear K q1 q2 q3
          obtain ⟨q1, q2, q3⟩ := HMB.out wq HKJ.out.2.1
          obtain ⟨m0, m1, m2, m3⟩ := HM.out wq (HK9.out.trans HKJ.out.2.2 (fun _ h => h.elim))
          by_cases hjt : j < tn
          · have hjz : (j : Int) < (tn : Int) := by omega
            have hjl : j < y.dst.length := by omega
            have hx : y.dst[j]? = some y.dst[j] := List.getElem?_eq_getElem hjl
            obtain ⟨tb, tof, cs, rfl, hF, hcl, hr, rfl, hI⟩ := HT.out.at' j _ hx
            have e0 := m3.cell (hr 0 _ rfl) (fun h => h)
            rw [Nat.mul_one, Nat.add_zero] at e0
            have hmem : y.dst[j] ∈ y.dst := List.getElem_mem hjl
            obtain ⟨z, hz⟩ : ∃ z, y.dst[j] = z := ⟨_, rfl⟩
            rw [hz] at e0 hmem
            have HLE : Hid (leastN (fun o => o.dst.any (numB z)) x.chans = (k : Int) + 1) := HTo.out k y HX.out z hmem
            have HRW : Hid (∀ W, Kept No wq W → Calls Tryz.prog 13 #[.agg #[.slice a0 n0 c0, .slice a1 n1 c1, .slice (some ⟨b, o, none⟩) n c], .int .i64 z] W fun e w' => e = .returned (.int .i64 ((k : Int) + 1)) ∧ Kept No W w') := fun W q => by
              have := toPort_any (a0 := a0) (n0 := n0) (c0 := c0) (a1 := a1) (n1 := n1) (c1 := c1) z (HR.out W ((HM.out wq (HK9.out.trans HKJ.out.2.2 (fun _ h => h.elim))).2.2.2.trans q (fun _ h => h.elim))).cs
              rw [HLE.out] at this
              exact this
            have HC : Hid (∀ W, Kept No wq W → W.cell? ⟨w.heap.size, 0, none⟩ = some (.slice a0 n0 c0) ∧ W.cell? ⟨w.heap.size, 1, none⟩ = some (.slice a1 n1 c1) ∧ W.cell? ⟨w.heap.size, 2, none⟩ = some (.slice (some ⟨b, o, none⟩) n c) ∧ W.cell? ⟨gB, 2, none⟩ = some (.slice (some ⟨tb, tof, none⟩) tn tc) ∧ W.cell? ⟨tb, tof + j, none⟩ = some (.int .i64 z)) := fun W q => ⟨q.cell m0 (fun h => h), q.cell m1 (fun h => h), q.cell m2 (fun h => h), q.cell q2 (fun h => h), q.cell e0 (fun h => h)⟩
            clear hr hI hx hz hF hcl hmem
            go_upto_region 27 with fail
            refine Ck.wp_region_kept wq (by kernel_rfl) (by kernel_rfl) (Kept.refl No wq) ?_
            refine BigFrame.wpQuiet_want rfl (fun K hK => ?_)
            refine Ck.quiet_val' (fun w5 hw5 => Ck.er_ld _ _ rfl _ _ rfl (ld_img (HC.out w5 hw5).1 (HC.out w5 hw5).2.1 (HC.out w5 hw5).2.2.1)) ?_
            refine hK _ ?_
            clear hK K
            simp only [Act.put, List.setIfInBounds_toArray, List.set_cons_zero, List.set_cons_succ]
            refine BigFrame.wpQuiet_want rfl (fun K hK => ?_)
            refine Ck.quiet_val' (fun w5 hw5 => er_fCh2 _ rfl gB rfl) ?_
            refine hK _ ?_
            clear hK K
            simp only [Act.put, List.setIfInBounds_toArray, List.set_cons_zero, List.set_cons_succ]
            refine BigFrame.wpQuiet_want rfl (fun K hK => ?_)
            refine Ck.quiet_val' (fun w5 hw5 => Ck.er_ld _ _ rfl _ _ rfl (ld_sl (HC.out w5 hw5).2.2.2.1)) ?_
            refine hK _ ?_
            clear hK K
            simp only [Act.put, List.setIfInBounds_toArray, List.set_cons_zero, List.set_cons_succ]
            refine BigFrame.wpQuiet_want rfl (fun K hK => ?_)
            refine Ck.quiet_val' (fun w5 hw5 => Ck.er_mv _ rfl (.int .i64 (j : Int)) rfl) ?_
            refine hK _ ?_
            clear hK K
            simp only [Act.put, List.setIfInBounds_toArray, List.set_cons_zero, List.set_cons_succ]
            refine BigFrame.wpQuiet_want rfl (fun K hK => ?_)
            refine Ck.quiet_val' (fun w5 hw5 => er_idxI _ _ rfl tb tof tn tc j hjt (by omega) rfl rfl) ?_
            refine hK _ ?_
            clear hK K
            simp only [Act.put, List.setIfInBounds_toArray, List.set_cons_zero, List.set_cons_succ]
            refine BigFrame.wpQuiet_want rfl (fun K hK => ?_)
            refine Ck.quiet_val' (fun w5 hw5 => Ck.er_ld _ _ rfl _ _ rfl (ld_i (HC.out w5 hw5).2.2.2.2)) ?_
            refine hK _ ?_
            clear hK K
            simp only [Act.put, List.setIfInBounds_toArray, List.set_cons_zero, List.set_cons_succ]
            refine BigFrame.wpQuiet_want rfl (fun K hK => ?_)
            refine Ck.quiet_call' (f := 13) (args := #[.agg #[.slice a0 n0 c0, .slice a1 n1 c1, .slice (some ⟨b, o, none⟩) n c], .int .i64 z]) (v := .int .i64 ((k : Int) + 1)) (fun w5 => ec_toP _ _ _ _ rfl (.agg #[.slice a0 n0 c0, .slice a1 n1 c1, .slice (some ⟨b, o, none⟩) n c]) (.int .i64 z) rfl rfl) (fun w5 hw5 => (HRW.out w5 hw5).mono (by rintro e w6 ⟨rfl, k6⟩; exact ⟨rfl, hw5.trans k6 (fun _ h => h.elim)⟩)) ?_
            refine hK _ ?_
            clear hK K
            simp only [Act.put, List.setIfInBounds_toArray, List.set_cons_zero, List.set_cons_succ]
            refine BigFrame.wpQuiet_want rfl (fun K hK => ?_)
            refine Ck.quiet_val' (fun w5 hw5 => Ck.er_mv _ rfl (.int .i64 ((k : Int) + 1)) rfl) ?_
            refine hK _ ?_
            clear hK K
            simp only [Act.put, List.setIfInBounds_toArray, List.set_cons_zero, List.set_cons_succ]
            refine BigFrame.wpQuiet_want rfl (fun K hK => ?_)
            refine Ck.quiet_val' (fun w5 hw5 => er_neI _ _ rfl ((k : Int) + 1) ((k : Int) + 1) false rfl rfl (by simp)) ?_
            refine hK _ ?_
            clear hK K
            simp only [Act.put, List.setIfInBounds_toArray, List.set_cons_zero, List.set_cons_succ]
            refine wpQuiet_nil ?_
            intro w12 k12
            have HK12 : Hid (Kept No w11 w12) := HKJ.out.1.trans k12 (fun _ h => h.elim)
            clear k12 m0 m1 m2 m3 q1 q2 q3 e0 HRW HC
            go_wp2
            go_roundw
            case rel => exact ⟨j + 1, by omega, by go_num, HK12.out⟩
            case measure => simp [intOf]; omega
          · have hjz : ¬ (j : Int) < (tn : Int) := by omega
            go_wp2
            go_roundw
            case rel => exact ⟨k + 1, by omega, by go_num, HKJ.out.2.2⟩
            case measure => simp [intOf]; omega
        · have hkz : ¬ (k : Int) + 1 ≤ (n : Int) := by omega
          have HF : Hid (Kept No w wr) := m3
          go_wp2
          go_ret
          exact ⟨rfl, HF.out⟩
      · have HF : Hid (Kept No w w9) := (HM.out w9 HK9.out).2.2.2
        go_wp2
        go_ret
        exact ⟨rfl, HF.out⟩
end Go.Proofs.YtfjaajjljmbmbaaGreatDoor
